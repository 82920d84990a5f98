/-
  InlineFits: its law.
-/
import Derived.Test.YtnefmfnchimppaaLent
import Derived.Test.YtnefmfnchimppaaKP
import Derived.Test.YtnefmfnchimppaaIfF
import Derived.Deep.RegionHeld3
namespace Go.Proofs.Ytnefmfnchimppaa
open Go.RowKit
set_option linter.unusedVariables false
theorem bool_neqE : ∀ (b c : Bool) (w : World), (binOp .neq 4 (.bool b) (.bool c)).run Try.prog w = .ok (.bool (b != c)) w := fun b c w => by cases b <;> cases c <;> kernel_rfl
set_option maxRecDepth 100000 in
set_option maxHeartbeats 6400000 in
theorem fitsLaw {w : World} {v : Value} {p : Pg} (fn : Int) (h : PgV w v p) (hN : p.funcs.length ≤ 1048576) (hC : p.consts.length ≤ 1048576) (hBD : ∀ (i : Nat) (f : Fc), p.funcs[i]? = some f → f.code.length ≤ 1048576 ∧ f.hs.length ≤ 1048576) :
    Calls Try.prog 3 #[v, .int .i64 fn] w fun e w' => e = .returned (.bool true) ∧ Below w.heap.size w w' := by
  have HPV := hide h
  have HBD := hide hBD
  obtain ⟨cv, fv, rfl, hc, hf⟩ := h
  obtain ⟨a, cap, rfl, _, _, _⟩ := hf.at
  obtain ⟨_, ca, ccap, rfl, _, _, _⟩ := hc
  clear hf hBD
  obtain ⟨NC, hNC⟩ : ∃ L, Hid (p.consts.length = L) := ⟨_, rfl⟩
  obtain ⟨NF, hNF⟩ : ∃ L, Hid (p.funcs.length = L) := ⟨_, rfl⟩
  have HN := hide hN
  have hb1 : Below w.heap.size w (w.alloc (.cells #[.slice ca NC ccap, .slice a NF cap] 25)) := (Below.refl _ _).alloc (Nat.le_refl _) _
  have hL := lent_any (w := w.alloc (.cells #[.slice ca NC ccap, .slice a NF cap] 25)) ((unhide HPV).below hb1 (Nat.le_refl _)) hN hC (unhide HBD)
  rw [unhide hNC, unhide hNF] at hL
  rw [unhide hNC] at hC HPV ⊢
  rw [unhide hNF] at hN HPV ⊢
  have HL := hide hL
  clear hL
  go_enter Try.func3, Try.ntmps3
  go_wp2_with fail
  refine (unhide HL).mono ?_
  rintro e w2 ⟨cg, co, qcap, fg, fo, fcap, ys, rfl, hlnt⟩
  clear HL
  -- behind LentProgram
  obtain ⟨W, hW⟩ : ∃ x, Hid ((w2.alloc (.cells #[.slice (some ⟨cg, co, none⟩) NC qcap, .slice (some ⟨fg, fo, none⟩) NF fcap] 25)) = x) := ⟨_, rfl⟩
  have hbw2 : Below w2.heap.size w2 W := by rw [← unhide hW]; exact (Below.refl _ _).alloc (Nat.le_refl _) _
  obtain ⟨qb0, qb1, _, hq2⟩ := box2 (w := w2) (wr := W) (u := .slice (some ⟨cg, co, none⟩) NC qcap) (v := .slice (some ⟨fg, fo, none⟩) NF fcap) (e := 25) (by rw [← unhide hW]; exact Below.refl _ _)
  have hbb : Below (w.heap.size + 1) (w.alloc (.cells #[.slice ca NC ccap, .slice a NF cap] 25)) W := (hlnt.below.mono (by simp)).trans (hbw2.mono (by have := hlnt.below.size; simp at this; omega))
  obtain ⟨pb0, pb1, hwW, hp2⟩ := box2 hbb
  have HPB := hide (show w.heap.size < W.heap.size ∧ W.cell? ⟨w.heap.size, 0, none⟩ = some (.slice ca NC ccap) ∧ W.cell? ⟨w.heap.size, 1, none⟩ = some (.slice a NF cap) from ⟨hp2, pb0, pb1⟩)
  have HQB := hide (show w2.heap.size < W.heap.size ∧ W.cell? ⟨w2.heap.size, 0, none⟩ = some (.slice (some ⟨cg, co, none⟩) NC qcap) ∧ W.cell? ⟨w2.heap.size, 1, none⟩ = some (.slice (some ⟨fg, fo, none⟩) NF fcap) from ⟨hq2, qb0, qb1⟩)
  have HLn := hide (hlnt.keep hbw2)
  have HwW := hide hwW
  have HPW := hide ((unhide HPV).below hwW (Nat.le_refl _))
  have hqp := (unhide HLn).pgv
  rw [unhide hNC, unhide hNF] at hqp
  have HQW := hide hqp
  have HR := hide (fun wx (hx : Below W.heap.size W wx) (k : Int) => rfits_any ((unhide HPW).below hx (Nat.le_refl _)) k (unhide HN))
  have HF := hide (fun wx (hx : Below W.heap.size W wx) (k : Int) => fits_any ((unhide HQW).below hx (Nat.le_refl _)) k (unhide HN))
  have hkp := fun wx (hx : Below W.heap.size W wx) => keptP_any ((unhide HLn).keep hx) ((unhide HPW).below hx (Nat.le_refl _)) (unhide HN) (by rw [unhide hNC]; exact hC) (unhide HBD)
  rw [unhide hNC, unhide hNF] at hkp
  have HK := hide hkp
  clear hkp hqp hlnt hbw2 hbb hwW hp2 hq2 hb1 pb0 pb1 qb0 qb1
  obtain ⟨R, hR⟩ : ∃ x, Hid (ftB p fn = x) := ⟨_, rfl⟩
  go_wp2_with fail
  rw [unhide hW]
  obtain ⟨P, hP⟩ : ∃ P, Hid (w.heap.size = P) := ⟨_, rfl⟩
  obtain ⟨Q, hQ⟩ : ∃ P, Hid (w2.heap.size = P) := ⟨_, rfl⟩
  rw [unhide hP] at HPB
  rw [unhide hQ] at HQB
  rw [unhide hP, unhide hQ]
  refine wp_region_held_drew (S := (fun wx => Below W.heap.size W wx)) (by kernel_rfl) (Below.drawn (Below.refl W.heap.size W)) (fun hHeld => ?_)
  refine wpAnyH_take (i := 0) (oi := _) (v := .agg #[.slice (some ⟨cg, co, none⟩) NC qcap, .slice (some ⟨fg, fo, none⟩) NF fcap]) rfl (by kernel_rfl) (by kernel_rfl) (by kernel_rfl) (fun _ _ _ h => h) (Or.inl ⟨by rfl, (by intro w hSw; have hs0 := Below.heldIn hSw (unhide HQB).1 (unhide HQB).2.1; have hs1 := Below.heldIn hSw (unhide HQB).1 (unhide HQB).2.2; go_simp)⟩) (by assumption) ?_
  refine wpAnyH_take (i := 1) (oi := _) (v := .int .i64 fn) rfl (by kernel_rfl) (by kernel_rfl) (by kernel_rfl) (fun _ _ _ h => h) (Or.inl ⟨by rfl, (by intro w hSw; go_simp)⟩) (by assumption) ?_
  go_simp
  refine wpAnyH_take (i := 3) (oi := _) (v := .agg #[.slice ca NC ccap, .slice a NF cap]) rfl (by kernel_rfl) (by kernel_rfl) (by kernel_rfl) (fun _ _ _ h => h) (Or.inl ⟨by rfl, (by intro w hSw; have hs0 := Below.heldIn hSw (unhide HPB).1 (unhide HPB).2.1; have hs1 := Below.heldIn hSw (unhide HPB).1 (unhide HPB).2.2; go_simp)⟩) (by assumption) ?_
  refine wpAnyH_take (i := 4) (oi := _) (v := .int .i64 fn) rfl (by kernel_rfl) (by kernel_rfl) (by kernel_rfl) (fun _ _ _ h => h) (Or.inl ⟨by rfl, (by intro w hSw; go_simp)⟩) (by assumption) ?_
  go_simp
  refine wpAnyH_ready (rs := [2]) (by kernel_rfl) (by simp) ?_
  refine AllReadyH.cons (o := _) rfl (fun K hK => ?_) AllReadyH.nil
  go_simp
  refine (unhide HF _ (Below.drawn (Below.refl W.heap.size W)) fn).mono ?_
  rintro e v1 ⟨rfl, hb1⟩
  have bb1 : Below W.heap.size W v1 := (Below.drawn (Below.refl W.heap.size W)).trans (hb1.mono (Below.drawn (Below.refl W.heap.size W)).size)
  rw [unhide hR]
  go_simp
  refine hK.out _ _ bb1 (fun hHeld1 => ?_)
  clear hK K
  go_simp
  refine wpAnyH_ready (rs := [5]) (by kernel_rfl) (by simp) ?_
  refine AllReadyH.cons (o := _) rfl (fun K hK => ?_) AllReadyH.nil
  go_simp
  refine (unhide HR _ bb1 fn).mono ?_
  rintro e v2 ⟨rfl, hb2⟩
  have bb2 : Below W.heap.size W v2 := bb1.trans (hb2.mono bb1.size)
  rw [unhide hR]
  go_simp
  refine hK.out _ _ bb2 (fun hHeld2 => ?_)
  clear hK K
  go_simp
  refine wpAnyH_take (i := 6) (oi := _) (v := .bool false) rfl (by kernel_rfl) (by kernel_rfl) (by kernel_rfl) (fun _ _ _ h => h) (Or.inl ⟨by rfl, (by intro w hSw; have hq := bool_neqE R R; rw [show (R != R) = false by cases R <;> rfl] at hq; go_simp)⟩) (by assumption) ?_
  go_simp
  refine wpAnyH_done (by kernel_rfl) ?_ _
  clear hHeld hHeld1 hHeld2 hb1 hb2
  have HB2 := hide bb2
  clear bb1 bb2
  go_wp2_with fail
  go_loopg [6] NF (fun gg t6 wr => ∃ (i : Nat), Hid (i + gg = NF) ∧ t6 = .int .i64 (i : Int) ∧ Hid (Below W.heap.size W wr))
  case atStart => exact ⟨0, by unfold Hid; omega, rfl, HB2⟩
  case round =>
    clear HB2 hR
    obtain ⟨i, hi, rfl, hB⟩ := hrel
    have pb0 := Below.heldIn (unhide hB) (unhide HPB).1 (unhide HPB).2.1
    have pb1 := Below.heldIn (unhide hB) (unhide HPB).1 (unhide HPB).2.2
    have pbl := Nat.lt_of_lt_of_le (unhide HPB).1 (unhide hB).size
    by_cases hlt : i < NF
    · have i0 : (0 : Int) ≤ (i : Int) := by omega
      have i1 : (i : Int) < (NF : Int) := by omega
      obtain ⟨R, hR⟩ : ∃ x, Hid (ftB p (i : Int) = x) := ⟨_, rfl⟩
      go_wp2_with fail
      clear pb0 pb1 pbl
      refine wp_region_held_drew (S := (fun wx => Below W.heap.size W wx)) (by kernel_rfl) (Below.drawn (unhide hB)) (fun hHeld => ?_)
      refine wpAnyH_take (i := 0) (oi := _) (v := .agg #[.slice (some ⟨cg, co, none⟩) NC qcap, .slice (some ⟨fg, fo, none⟩) NF fcap]) rfl (by kernel_rfl) (by kernel_rfl) (by kernel_rfl) (fun _ _ _ h => h) (Or.inl ⟨by rfl, (by intro w hSw; have hs0 := Below.heldIn hSw (unhide HQB).1 (unhide HQB).2.1; have hs1 := Below.heldIn hSw (unhide HQB).1 (unhide HQB).2.2; go_simp)⟩) (by assumption) ?_
      refine wpAnyH_take (i := 1) (oi := _) (v := .int .i64 (i : Int)) rfl (by kernel_rfl) (by kernel_rfl) (by kernel_rfl) (fun _ _ _ h => h) (Or.inl ⟨by rfl, (by intro w hSw; go_simp)⟩) (by assumption) ?_
      go_simp
      refine wpAnyH_take (i := 3) (oi := _) (v := .agg #[.slice ca NC ccap, .slice a NF cap]) rfl (by kernel_rfl) (by kernel_rfl) (by kernel_rfl) (fun _ _ _ h => h) (Or.inl ⟨by rfl, (by intro w hSw; have hs0 := Below.heldIn hSw (unhide HPB).1 (unhide HPB).2.1; have hs1 := Below.heldIn hSw (unhide HPB).1 (unhide HPB).2.2; go_simp)⟩) (by assumption) ?_
      refine wpAnyH_take (i := 4) (oi := _) (v := .int .i64 (i : Int)) rfl (by kernel_rfl) (by kernel_rfl) (by kernel_rfl) (fun _ _ _ h => h) (Or.inl ⟨by rfl, (by intro w hSw; go_simp)⟩) (by assumption) ?_
      go_simp
      refine wpAnyH_ready (rs := [2]) (by kernel_rfl) (by simp) ?_
      refine AllReadyH.cons (o := _) rfl (fun K hK => ?_) AllReadyH.nil
      go_simp
      refine (unhide HF _ (Below.drawn (unhide hB)) (i : Int)).mono ?_
      rintro e v1 ⟨rfl, hb1⟩
      have bb1 : Below W.heap.size W v1 := (Below.drawn (unhide hB)).trans (hb1.mono (Below.drawn (unhide hB)).size)
      rw [unhide hR]
      go_simp
      refine hK.out _ _ bb1 (fun hHeld1 => ?_)
      clear hK K
      go_simp
      refine wpAnyH_ready (rs := [5]) (by kernel_rfl) (by simp) ?_
      refine AllReadyH.cons (o := _) rfl (fun K hK => ?_) AllReadyH.nil
      go_simp
      refine (unhide HR _ bb1 (i : Int)).mono ?_
      rintro e v2 ⟨rfl, hb2⟩
      have bb2 : Below W.heap.size W v2 := bb1.trans (hb2.mono bb1.size)
      rw [unhide hR]
      go_simp
      refine hK.out _ _ bb2 (fun hHeld2 => ?_)
      clear hK K
      go_simp
      refine wpAnyH_take (i := 6) (oi := _) (v := .bool false) rfl (by kernel_rfl) (by kernel_rfl) (by kernel_rfl) (fun _ _ _ h => h) (Or.inl ⟨by rfl, (by intro w hSw; have hq := bool_neqE R R; rw [show (R != R) = false by cases R <;> rfl] at hq; go_simp)⟩) (by assumption) ?_
      go_simp
      refine wpAnyH_done (by kernel_rfl) ?_ _
      clear hHeld hHeld1 hHeld2 hb1 hb2
      have HB2 := hide bb2
      clear bb1 bb2
      go_wp2_with fail
      go_roundg (gk - 1)
      case measure => have := unhide hi; omega
      case rel => exact ⟨i + 1, by have := unhide hi; unfold Hid; omega, by go_num, HB2⟩
    · have hi0 : i = NF ∧ gk = 0 := by have := unhide hi; omega
      obtain ⟨rfl, rfl⟩ := hi0
      have qb0 := Below.heldIn (unhide hB) (unhide HQB).1 (unhide HQB).2.1
      have qb1 := Below.heldIn (unhide hB) (unhide HQB).1 (unhide HQB).2.2
      have qbl := Nat.lt_of_lt_of_le (unhide HQB).1 (unhide hB).size
      have HKK := hide (unhide HK _ (unhide hB))
      go_wp2_with fail
      refine (unhide HKK).mono ?_
      rintro e w6 ⟨rfl, hb6⟩
      have HE : Hid (Below w.heap.size w w6) := (unhide HwW).trans (((unhide hB).trans (hb6.mono (unhide hB).size)).mono (unhide HwW).size)
      clear hb6 HKK pb0 pb1 pbl qb0 qb1 qbl
      go_wp2_with fail
      go_ret
      exact ⟨rfl, unhide HE⟩
end Go.Proofs.Ytnefmfnchimppaa
