/-
  ProfileAt's law.
-/
import Derived.Test.YteeafakgiahenaaPKp
import Derived.Test.YteeafakgiahenaaPAt
namespace Go.Proofs.Yteeafakgiahenaa
open Go.RowKit
set_option linter.unusedVariables false
set_option linter.unusedSimpArgs false
set_option maxRecDepth 100000 in
set_option maxHeartbeats 3200000 in
theorem atLaw {w : World} {av : Value} {f : List (List Sp)} (ha : PfV w av f) (hN : f.length ≤ 5864062014634) (hM : ∀ l ∈ f, l.length ≤ 5864062014634) (fn pc : Int) :
    Calls Try.prog 3 #[.agg #[av], .int .i64 fn, .int .i64 pc] w fun e w' => e = .returned (.bool true) ∧ Below w.heap.size w w' := by
  obtain ⟨a, acap, rfl, ha1, ha2⟩ := ha.shape
  have HA := hide ha
  have HL := hide (fun (_ : Unit) => lentP_any (ha.below (box1 w (.slice a f.length acap) 24) (Nat.le_refl _)) hN hM)
  obtain ⟨L, hL⟩ : ∃ L, Hid (f.length = L) := ⟨_, hide rfl⟩
  have HB0 := hide (box1 w (.slice a f.length acap) 24)
  have HK0 := hide (heap_alloc_new w (.cells #[.slice a f.length acap] 24))
  rw [unhide hL] at HA HL HB0 HK0 ⊢
  clear ha ha1 ha2 hN hM
  go_enter Try.func3, Try.ntmps3
  go_wp2_with fail
  refine (unhide HL ()).mono ?_
  rintro e w1 ⟨gv, vs, rfl, O1, b1⟩
  obtain ⟨b, bcap, rfl, hb1, hb2⟩ := O1.row.shape
  have HO := hide O1
  have HB1 := hide (bl_past (unhide HB0) b1)
  have hk0 := (b1.block _ (Array.getElem?_eq_some_iff.1 (unhide HK0)).1).trans (unhide HK0)
  have HKK := hide hk0
  rw [unhide hL] at HO hb1 ⊢
  have hS : ∀ W, Below (w1.alloc (.cells #[.slice b L bcap] 24)).heap.size (w1.alloc (.cells #[.slice b L bcap] 24)) W → W.cell? ⟨w.heap.size, 0, none⟩ = some (.slice a L acap) ∧ W.cell? ⟨w1.heap.size, 0, none⟩ = some (.slice b L bcap) := fun W hW => by
    have h1 := (heap_alloc_new w1 (.cells #[.slice b L bcap] 24))
    have h2 := (hW.block _ (Array.getElem?_eq_some_iff.1 h1).1).trans h1
    have h3 := (bl_past (box1 w1 (.slice b L bcap) 24) hW).block _ (Array.getElem?_eq_some_iff.1 (unhide HKK)).1
    exact ⟨(blk_cells (h3.trans (unhide HKK))).1 0, (blk_cells h2).1 0⟩
  have HS0 := hide hS
  have hBW : ∀ W, Below (w1.alloc (.cells #[.slice b L bcap] 24)).heap.size (w1.alloc (.cells #[.slice b L bcap] 24)) W → Below w1.heap.size w1 W := fun W hW => bl_past (box1 w1 (.slice b L bcap) 24) hW
  have HPF : Hid (∀ W, Below w1.heap.size w1 W → PfV W (.slice a L acap) f ∧ LO (fun k => (w.alloc (.cells #[.slice a L acap] 24)).heap.size + 3 ≤ k) W (.slice b L bcap) f vs) := fun W hW => ⟨(unhide HA).below (bl_past (unhide HB1) hW) (Nat.le_refl _), (unhide HO).below staysL hW⟩
  have HAT := hide (fun W hW => at_any ((unhide HPF W (hBW W hW)).2.lpf) fn pc)
  have HRA := hide (fun W hW => refAt_any ((unhide HPF W (hBW W hW)).1) fn pc)
  have HKP := hide (fun W hW => keptP_any ((unhide HPF W (hBW W hW)).2) ((unhide HPF W (hBW W hW)).1))
  obtain ⟨x, hx⟩ : ∃ x, Hid (atP f fn pc = x) := ⟨_, hide rfl⟩
  rw [unhide hx] at HAT HRA
  have HFI : Hid (∀ W, Below (w1.alloc (.cells #[.slice b L bcap] 24)).heap.size (w1.alloc (.cells #[.slice b L bcap] 24)) W → Below w.heap.size w W) := fun W hW => bl_past (unhide HB1) (hBW W hW)
  have d2 := eqS0 x
  unfold spV at d2 HAT HRA
  obtain ⟨k0, k1⟩ := (blk_cells (unhide HKK)).1 0 |> fun h => (And.intro h ((blk_cells (unhide HKK)).2.2))
  simp at k0
  clear HL HB0 HK0 O1 b1 hk0 hS hBW HO HA HPF
  go_wp2_with fail
  refine wp_region_held_drew (S := (fun W => W.cell? ⟨w.heap.size, 0, none⟩ = some (.slice a L acap) ∧ W.cell? ⟨w1.heap.size, 0, none⟩ = some (.slice b L bcap))) (by kernel_rfl) (unhide HS0 _ (bl_drew _)) (fun hHeld => ?_)
  clear hHeld
  refine wpAnyH_take (i := 0) (oi := _) (v := .agg #[.slice b L bcap]) rfl (by kernel_rfl) (by kernel_rfl) (by kernel_rfl) (fun _ _ _ h => h) (Or.inl ⟨by rfl, (by intro w' hSw; obtain ⟨s0, s1⟩ := hSw; go_simp)⟩) (unhide HS0 _ (bl_drew _)) ?_
  go_simp
  refine wpAnyH_take (i := 1) (oi := _) (v := .int .i64 fn) rfl (by kernel_rfl) (by kernel_rfl) (by kernel_rfl) (fun _ _ _ h => h) (Or.inl ⟨by rfl, (by intro w' hSw; obtain ⟨s0, s1⟩ := hSw; go_simp)⟩) (unhide HS0 _ (bl_drew _)) ?_
  go_simp
  refine wpAnyH_take (i := 2) (oi := _) (v := .int .i64 pc) rfl (by kernel_rfl) (by kernel_rfl) (by kernel_rfl) (fun _ _ _ h => h) (Or.inl ⟨by rfl, (by intro w' hSw; obtain ⟨s0, s1⟩ := hSw; go_simp)⟩) (unhide HS0 _ (bl_drew _)) ?_
  go_simp
  refine wpAnyH_take (i := 4) (oi := _) (v := .agg #[.slice a L acap]) rfl (by kernel_rfl) (by kernel_rfl) (by kernel_rfl) (fun _ _ _ h => h) (Or.inl ⟨by rfl, (by intro w' hSw; obtain ⟨s0, s1⟩ := hSw; go_simp)⟩) (unhide HS0 _ (bl_drew _)) ?_
  go_simp
  refine wpAnyH_take (i := 5) (oi := _) (v := .int .i64 fn) rfl (by kernel_rfl) (by kernel_rfl) (by kernel_rfl) (fun _ _ _ h => h) (Or.inl ⟨by rfl, (by intro w' hSw; obtain ⟨s0, s1⟩ := hSw; go_simp)⟩) (unhide HS0 _ (bl_drew _)) ?_
  go_simp
  refine wpAnyH_take (i := 6) (oi := _) (v := .int .i64 pc) rfl (by kernel_rfl) (by kernel_rfl) (by kernel_rfl) (fun _ _ _ h => h) (Or.inl ⟨by rfl, (by intro w' hSw; obtain ⟨s0, s1⟩ := hSw; go_simp)⟩) (unhide HS0 _ (bl_drew _)) ?_
  go_simp
  refine wpAnyH_ready (rs := [3]) (by kernel_rfl) (by simp) ?_
  refine AllReadyH.cons (o := _) rfl (fun K hK => ?_) AllReadyH.nil
  go_simp
  refine (unhide HAT _ (bl_drew _)).mono ?_
  rintro e w3 ⟨rfl, b3⟩
  have HB3 := hide (bl_past (bl_drew _) b3)
  clear b3
  go_simp
  refine hK.out _ _ (unhide HS0 _ (unhide HB3)) (fun _ => ?_)
  clear hK K
  go_simp
  refine wpAnyH_ready (rs := [7]) (by kernel_rfl) (by simp) ?_
  refine AllReadyH.cons (o := _) rfl (fun K hK => ?_) AllReadyH.nil
  go_simp
  refine (unhide HRA _ (unhide HB3)).mono ?_
  rintro e w4 ⟨rfl, b4⟩
  have HB4 := hide (bl_past (unhide HB3) b4)
  clear b4
  go_simp
  refine hK.out _ _ (unhide HS0 _ (unhide HB4)) (fun _ => ?_)
  clear hK K
  go_simp
  refine wpAnyH_take (i := 8) (oi := _) (v := .bool true) rfl (by kernel_rfl) (by kernel_rfl) (by kernel_rfl) (fun _ _ _ h => h) (Or.inl ⟨by rfl, (by intro w' hSw; obtain ⟨s0, s1⟩ := hSw; go_simp)⟩) (unhide HS0 _ (unhide HB4)) ?_
  go_simp
  refine wpAnyH_take (i := 9) (oi := _) (v := .bool true) rfl (by kernel_rfl) (by kernel_rfl) (by kernel_rfl) (fun _ _ _ h => h) (Or.inl ⟨by rfl, (by intro w' hSw; obtain ⟨s0, s1⟩ := hSw; go_simp)⟩) (unhide HS0 _ (unhide HB4)) ?_
  go_simp
  refine wpAnyH_take (i := 10) (oi := _) (v := .agg #[.slice b L bcap]) rfl (by kernel_rfl) (by kernel_rfl) (by kernel_rfl) (fun _ _ _ h => h) (Or.inl ⟨by rfl, (by intro w' hSw; obtain ⟨s0, s1⟩ := hSw; go_simp)⟩) (unhide HS0 _ (unhide HB4)) ?_
  go_simp
  refine wpAnyH_take (i := 11) (oi := _) (v := .agg #[.slice a L acap]) rfl (by kernel_rfl) (by kernel_rfl) (by kernel_rfl) (fun _ _ _ h => h) (Or.inl ⟨by rfl, (by intro w' hSw; obtain ⟨s0, s1⟩ := hSw; go_simp)⟩) (unhide HS0 _ (unhide HB4)) ?_
  go_simp
  refine wpAnyH_ready (rs := [12]) (by kernel_rfl) (by simp) ?_
  refine AllReadyH.cons (o := _) rfl (fun K hK => ?_) AllReadyH.nil
  go_simp
  refine (unhide HKP _ (unhide HB4)).mono ?_
  rintro e w5 ⟨rfl, b5⟩
  have HB5 := hide (bl_past (unhide HB4) b5)
  clear b5
  go_simp
  refine hK.out _ _ (unhide HS0 _ (unhide HB5)) (fun _ => ?_)
  clear hK K
  go_simp
  refine wpAnyH_take (i := 13) (oi := _) (v := .bool true) rfl (by kernel_rfl) (by kernel_rfl) (by kernel_rfl) (fun _ _ _ h => h) (Or.inl ⟨by rfl, (by intro w' hSw; obtain ⟨s0, s1⟩ := hSw; go_simp)⟩) (unhide HS0 _ (unhide HB5)) ?_
  go_simp
  refine wpAnyH_take (i := 14) (oi := _) (v := .bool true) rfl (by kernel_rfl) (by kernel_rfl) (by kernel_rfl) (fun _ _ _ h => h) (Or.inl ⟨by rfl, (by intro w' hSw; obtain ⟨s0, s1⟩ := hSw; go_simp)⟩) (unhide HS0 _ (unhide HB5)) ?_
  go_simp
  refine wpAnyH_done (by kernel_rfl) ?_ _
  go_wp2_with fail
  go_ret
  exact ⟨rfl, unhide HFI _ (unhide HB5)⟩
end Go.Proofs.Yteeafakgiahenaa
