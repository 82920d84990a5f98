/-
  alike: a heap, held against the document's.
-/
import Derived.Test.YtbnjfofkpagblaaLOb
import Derived.Test.YtbnjfofkpagblaaDLd
namespace Go.Proofs.Ytbnjfofkpagblaa
open Go.RowKit
set_option linter.unusedVariables false
set_option linter.unusedSimpArgs false
set_option maxRecDepth 100000 in
set_option maxHeartbeats 3200000 in
theorem alike_any {w : World} {B h r : Nat} {bud sp bud' : Int} {ov : Value} {ds : List hp.OD} {rv : Value} {os : List Ob} {xs : List Obv} (H : hp.Hp w h bud' sp ov ds) (R : Rd B w r bud sp rv os xs) (hag : ds.map (·.ob) = os) (hN : os.length ≤ 1048576) (hS : ∀ d ∈ ds, d.its.length ≤ 4096 ∧ d.keys.length ≤ 4096) :
    Calls Try.prog 13 #[.pointer (some ⟨h, 0, none⟩), .pointer (some ⟨r, 0, none⟩)] w fun e w' => e = .returned (.bool true) ∧ Below w.heap.size w w' := by
  have hlen : ds.length = os.length := by have := congrArg List.length hag; simpa using this
  have hSo : ∀ o ∈ os, o.its.length ≤ 1048576 ∧ o.keys.length ≤ 1048576 := fun o ho => by
    rw [← hag] at ho
    obtain ⟨d, hd, rfl⟩ := List.mem_map.1 ho
    have := hS d hd
    exact ⟨by show d.its.length ≤ _; omega, by show d.keys.length ≤ _; omega⟩
  obtain ⟨ra, rc, re, _⟩ := R.row.row.shape
  have M : Hid (∀ W, Below w.heap.size w W → Calls Try.prog 20 #[.pointer (some ⟨h, 0, none⟩), .int .i64 (os.length : Int)] W fun e w' => e = .returned (.tuple #[.agg #[.int .i64 0, .slice none 0 0, .slice none 0 0, .int .i64 0, .int .i64 0, .bool false], .bool false]) ∧ Below W.heap.size W w') := fun W b => hp.object_miss (H.below b) (.inr (by omega))
  have N : Hid (∀ W, Below w.heap.size w W → Calls Try.prog 20 #[.pointer (some ⟨h, 0, none⟩), .int .i64 (-1)] W fun e w' => e = .returned (.tuple #[.agg #[.int .i64 0, .slice none 0 0, .slice none 0 0, .int .i64 0, .int .i64 0, .bool false], .bool false]) ∧ Below W.heap.size W w') := fun W b => hp.object_miss (H.below b) (.inl (by omega))
  have LN : Hid (∀ W, Below w.heap.size w W → Calls Try.prog 21 #[.pointer (some ⟨h, 0, none⟩)] W fun e w' => e = .returned (.int .i64 (os.length : Int)) ∧ w' = W) := fun W b => by rw [← hlen]; exact hp.len_any (H.below b)
  have SP : Hid (∀ W, Below w.heap.size w W → Calls Try.prog 22 #[.pointer (some ⟨h, 0, none⟩)] W fun e w' => e = .returned (.int .i64 sp) ∧ w' = W) := fun W b => hp.spent_any (H.below b)
  have OB : Hid (∀ W, Below w.heap.size w W → Calls Try.prog 23 #[.pointer (some ⟨h, 0, none⟩), .int .i64 (os.length : Int)] W fun e w' => ∃ v xs, e = .returned v ∧ OO (fun k => W.heap.size ≤ k) w' v os xs ∧ Below W.heap.size W w') := fun W b => by
    have := objects_any (H.below b) (by omega) hS
    rw [hlen, hag] at this
    exact this
  have SO : Hid (∀ W v, Below w.heap.size w W → OsV W v os → Calls Try.prog 17 #[v, .slice ra os.length rc] W fun e w' => e = .returned (.bool true) ∧ Below W.heap.size W w') := fun W v b h1 => by
    have R1 := R.below b
    have := smOs_any h1 R1.row.osv hN hSo
    rw [re, Dc_true rfl] at this
    exact this
  have C1 : Hid (∀ W, Below w.heap.size w W → W.cell? ⟨r, 1, none⟩ = some (.int .i64 sp) ∧ W.cell? ⟨r, 2, none⟩ = some (.slice ra os.length rc) ∧ r < W.heap.size) := fun W b => by
    obtain ⟨q, _, ql⟩ := blk_cells (R.below b).box
    refine ⟨(q 1).trans rfl, (q 2).trans ?_, ql⟩
    rw [← re]
    rfl
  obtain ⟨c1, c2, cl⟩ := unhide C1 w (Below.refl _ _)
  clear H R hag re hlen hS hSo
  obtain ⟨L, HOL⟩ : ∃ L, Hid (os.length = L) := ⟨_, hide rfl⟩
  rw [unhide HOL] at M LN OB SO C1 c2 hN
  go_enter Try.func13, Try.ntmps13
  go_wp2_with fail
  refine (unhide M w (Below.refl _ _)).mono ?_
  rintro e1 w1 ⟨rfl, b1⟩
  have B1 : Hid (Below w.heap.size w (w1.alloc (.cells #[.int .i64 0, .slice none 0 0, .slice none 0 0, .int .i64 0, .int .i64 0, .bool false] 49))) := b1.alloc b1.size _
  clear c1 c2 cl b1
  go_wp2_with fail
  refine (unhide N _ (unhide B1)).mono ?_
  rintro e2 w2 ⟨rfl, b2⟩
  have B2' := (unhide B1).trans (b2.mono (unhide B1).size)
  have B2 : Hid (Below w.heap.size w (w2.alloc (.cells #[.int .i64 0, .slice none 0 0, .slice none 0 0, .int .i64 0, .int .i64 0, .bool false] 49))) := B2'.alloc B2'.size _
  clear b2 B2'
  go_wp2_with fail
  obtain ⟨X, eX⟩ : ∃ X, X = w2.alloc (.cells #[.int .i64 0, .slice none 0 0, .slice none 0 0, .int .i64 0, .int .i64 0, .bool false] 49) := ⟨_, rfl⟩
  rw [← eX] at B2 ⊢
  clear eX
  obtain ⟨c1, c2, cl⟩ := unhide C1 X (unhide B2)
  have BN : Hid (∀ n, Below w.heap.size w (X.drewN n)) := fun n => (unhide B2).trans ((Fr.drewN (S := fun _ => False) n).below (unhide B2).size (fun _ _ e => e))
  have K1 : Hid (∀ n, Calls Try.prog 21 #[.pointer (some ⟨h, 0, none⟩)] (X.drewN n) fun e w' => e = .returned (.int .i64 (L : Int)) ∧ w' = X.drewN n) := fun n => unhide LN _ (unhide BN n)
  have K2 : Hid (∀ n, Calls Try.prog 22 #[.pointer (some ⟨h, 0, none⟩)] (X.drewN n) fun e w' => e = .returned (.int .i64 sp) ∧ w' = X.drewN n) := fun n => unhide SP _ (unhide BN n)
  have d1 : ((L : Int) != (L : Int)) = false := by simp
  have d2 : (sp != sp) = false := by simp
  go_quiet (first | (go_at_call 21; exact Calls.quiet_of_same (unhide K1 _)) | (go_at_call 22; exact Calls.quiet_of_same (unhide K2 _)))
  have B3 := unhide BN nq
  generalize X.drewN nq = X3 at *
  clear c1 c2 cl K1 K2 BN B2
  obtain ⟨c1, c2, cl⟩ := unhide C1 X3 B3
  have HB3 := hide B3
  clear B3
  go_wp2_with fail
  have hS : X3.cell? ⟨r, 2, none⟩ = some (.slice ra L rc) ∧ r < X3.heap.size := ⟨c2, cl⟩
  clear c1 c2 cl
  refine wp_region_held_drew (S := (fun wx => wx.cell? ⟨r, 2, none⟩ = some (.slice ra L rc) ∧ r < wx.heap.size)) (by kernel_rfl) hS (fun hHeld => ?_)
  refine wpAnyH_take (i := 0) (oi := _) (v := .pointer (some ⟨h, 0, none⟩)) rfl (by kernel_rfl) (by kernel_rfl) (by kernel_rfl) (fun _ _ _ h => h) (Or.inl ⟨by rfl, (by intro w hSw; go_simp)⟩) (by assumption) ?_
  refine wpAnyH_take (i := 1) (oi := _) (v := .pointer (some ⟨r, 0, none⟩)) rfl (by kernel_rfl) (by kernel_rfl) (by kernel_rfl) (fun _ _ _ h => h) (Or.inl ⟨by rfl, (by intro w hSw; go_simp)⟩) (by assumption) ?_
  refine wpAnyH_take (i := 2) (oi := _) (v := .pointer (some ⟨r, 0, none⟩)) rfl (by kernel_rfl) (by kernel_rfl) (by kernel_rfl) (fun _ _ _ h => h) (Or.inl ⟨by rfl, (by intro w hSw; obtain ⟨hs0, hs1⟩ := hSw; go_simp)⟩) (by assumption) ?_
  go_simp
  refine wpAnyH_take (i := 3) (oi := _) (v := .pointer (some ⟨r, 2, none⟩)) rfl (by kernel_rfl) (by kernel_rfl) (by kernel_rfl) (fun _ _ _ h => h) (Or.inl ⟨by rfl, (by intro w hSw; obtain ⟨hs0, hs1⟩ := hSw; go_simp)⟩) (by assumption) ?_
  refine wpAnyH_take (i := 4) (oi := _) (v := .slice ra L rc) rfl (by kernel_rfl) (by kernel_rfl) (by kernel_rfl) (fun _ _ _ h => h) (Or.inl ⟨by rfl, (by intro w hSw; obtain ⟨hs0, hs1⟩ := hSw; go_simp)⟩) (by assumption) ?_
  refine wpAnyH_take (i := 5) (oi := _) (v := .int .i64 (L : Int)) rfl (by kernel_rfl) (by kernel_rfl) (by kernel_rfl) (fun _ _ _ h => h) (Or.inl ⟨by rfl, (by intro w hSw; go_simp)⟩) (by assumption) ?_
  refine wpAnyH_take (i := 7) (oi := _) (v := .pointer (some ⟨r, 0, none⟩)) rfl (by kernel_rfl) (by kernel_rfl) (by kernel_rfl) (fun _ _ _ h => h) (Or.inl ⟨by rfl, (by intro w hSw; go_simp)⟩) (by assumption) ?_
  refine wpAnyH_take (i := 8) (oi := _) (v := .pointer (some ⟨r, 0, none⟩)) rfl (by kernel_rfl) (by kernel_rfl) (by kernel_rfl) (fun _ _ _ h => h) (Or.inl ⟨by rfl, (by intro w hSw; obtain ⟨hs0, hs1⟩ := hSw; go_simp)⟩) (by assumption) ?_
  go_simp
  refine wpAnyH_take (i := 9) (oi := _) (v := .pointer (some ⟨r, 2, none⟩)) rfl (by kernel_rfl) (by kernel_rfl) (by kernel_rfl) (fun _ _ _ h => h) (Or.inl ⟨by rfl, (by intro w hSw; obtain ⟨hs0, hs1⟩ := hSw; go_simp)⟩) (by assumption) ?_
  refine wpAnyH_take (i := 10) (oi := _) (v := .slice ra L rc) rfl (by kernel_rfl) (by kernel_rfl) (by kernel_rfl) (fun _ _ _ h => h) (Or.inl ⟨by rfl, (by intro w hSw; obtain ⟨hs0, hs1⟩ := hSw; go_simp)⟩) (by assumption) ?_
  go_simp
  refine wpAnyH_ready (rs := [6]) (by kernel_rfl) (by simp) ?_
  refine AllReadyH.cons (o := _) rfl (fun K hK => ?_) AllReadyH.nil
  go_simp
  have B4 : Below w.heap.size w X3.drew := (unhide HB3).drew
  refine (unhide OB _ B4).mono ?_
  rintro e4 w4 ⟨v, xs4, rfl, R4, R4b⟩
  have B5 : Below w.heap.size w w4 := B4.trans (R4b.mono B4.size)
  obtain ⟨va, vc, ve, _⟩ := R4.row.shape
  rw [unhide HOL] at ve
  subst ve
  have HSO := hide (unhide SO w4 _ B5 R4.osv)
  have C4 := (unhide C1 w4 B5).2
  have HB5 := hide B5
  clear B4 B5 R4 R4b
  go_simp
  refine hK.out _ _ C4 (fun hHeld1 => ?_)
  clear hK K
  refine wpAnyH_ready (rs := [11]) (by kernel_rfl) (by simp) ?_
  refine AllReadyH.cons (o := _) rfl (fun K hK => ?_) AllReadyH.nil
  go_simp
  refine (unhide HSO).mono ?_
  rintro e5 w5 ⟨rfl, b5⟩
  have B6 := (unhide HB5).trans (b5.mono (unhide HB5).size)
  have C5 := (unhide C1 w5 B6).2
  have HB6 := hide B6
  clear b5 B6
  go_simp
  refine hK.out _ _ C5 (fun hHeld2 => ?_)
  clear hK K
  refine wpAnyH_take (i := 12) (oi := _) (v := .bool true) rfl (by kernel_rfl) (by kernel_rfl) (by kernel_rfl) (fun _ _ _ h => h) (Or.inl ⟨by rfl, (by intro w hSw; go_simp)⟩) (by assumption) ?_
  refine wpAnyH_done (by kernel_rfl) ?_ _
  clear hHeld hHeld1 hHeld2 hS C4 C5
  go_wp2_with fail
  go_ret
  exact ⟨rfl, unhide HB6⟩
end Go.Proofs.Ytbnjfofkpagblaa
