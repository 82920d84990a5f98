/-
  A state copied.
-/
import Derived.Test.YtadgiccfjppnfaaCpo
namespace Go.Proofs.Ytadgiccfjppnfaa
open Go.RowKit
set_option linter.unusedVariables false
set_option linter.unusedSimpArgs false
/-- What a copy of a state answers: below C texts and objects, from C on fibers. -/
def CpS (w : World) (s : St) (e : Ending) (w' : World) : Prop :=
  ∃ tv ov bv xo xb C1 C, e = .returned (.agg #[tv, ov, bv, .int .i64 s.cur, .int .i64 s.steps, .int .i64 s.spent, .int .i64 s.read]) ∧ Rx w' 1 tv s.texts.length (flt enT s.texts) ∧ (∀ k, tv.ownBlock = some k → w.heap.size ≤ k ∧ k < C1) ∧
    OO (fun k => C1 ≤ k ∧ k < C) w' ov s.objs xo ∧ OB (fun k => C ≤ k) w' bv s.fibs xb ∧ w.heap.size ≤ C1 ∧ C1 ≤ C ∧ C ≤ w'.heap.size ∧ Below w.heap.size w w'
theorem size_set (w : World) (p : Addr) (u : Value) : (w.setCell p u).heap.size = w.heap.size := by simp [World.setCell]
set_option maxRecDepth 100000 in
set_option maxHeartbeats 6400000 in
theorem copyS_any {w : World} {v : Value} {s : St} (h : StV w v s) (hs : StB s) : Calls Try.prog 13 #[v] w (CpS w s) := by
  obtain ⟨ta, tc, oa, oc, ba, bc, rfl, rt, ro, rb, t1, t2, o1, o2, b1, b2⟩ := h.shape
  unfold maxLen at t2 o2 b2
  have H1 := hide (fun o1 o2 o3 => copyT_any (rt.below (bl_three w o1 o2 o3) (Nat.le_refl _)) (by have := hs.tl; omega))
  have H2 := hide (fun w1 (hb : Below w.heap.size w w1) => copyOs_any (ro.below hb (Nat.le_refl _)) hs.ol hs.os)
  have H3 := hide (fun w1 (hb : Below w.heap.size w w1) => copyBs_any (rb.below hb (Nat.le_refl _)) hs.bl hs.bs)
  clear h rt ro rb hs
  go_enter Try.func13, Try.ntmps13
  go_wp2_with fail
  refine (unhide H1 _ _ _).mono ?_
  rintro e w1 ⟨v1, rfl, hG⟩
  have hB1 := hG.2.1
  obtain ⟨b1', b2', b3'⟩ := blk3 w (.cells #[.slice ta s.texts.length tc, .slice oa s.objs.length oc, .slice ba s.fibs.length bc, .int .i64 s.cur, .int .i64 s.steps, .int .i64 s.spent, .int .i64 s.read] 26) (.cells #[.slice none 0 0, .slice none 0 0, .slice none 0 0, .int .i64 0, .int .i64 0, .int .i64 0, .int .i64 0] 26) (.cells #[.slice ta s.texts.length tc, .slice oa s.objs.length oc, .slice ba s.fibs.length bc, .int .i64 s.cur, .int .i64 s.steps, .int .i64 s.spent, .int .i64 s.read] 26)
  have hs1 : w.heap.size + 1 + 1 + 1 ≤ w1.heap.size := by have := hB1.size; simpa only [World.size_alloc] using this
  have p1 := (hB1.block w.heap.size (by simp only [World.size_alloc]; omega)).trans b1'
  have p2 := (hB1.block (w.heap.size + 1) (by simp only [World.size_alloc]; omega)).trans b2'
  have p3 := (hB1.block (w.heap.size + 1 + 1) (by simp only [World.size_alloc]; omega)).trans b3'
  have hbw : Below w.heap.size w w1 := bl_past (bl_three w _ _ _) hB1
  obtain ⟨xa, xc, rfl⟩ : ∃ a c, v1 = .slice a s.texts.length c := by obtain ⟨a, c, e, _⟩ := hG.1.shape; exact ⟨a, c, e⟩
  have HT : Hid (Ro w1 1 (.slice xa s.texts.length xc) s.texts.length (flt enT s.texts) ∧ ∀ k, (Value.slice xa s.texts.length xc).ownBlock = some k → w.heap.size + 1 + 1 + 1 ≤ k) := ⟨hG.1, fun k hk => by have := hG.2.2 k hk; simpa only [World.size_alloc] using this⟩
  obtain ⟨q1, _, l1⟩ := blk_cells p1
  have q11 := q1 1
  obtain ⟨q3, f3, l3⟩ := blk_cells p3
  have q30 := q3 0
  have f30 := f3 0
  have HX : Hid (Below w.heap.size w (w1.setCell ⟨w.heap.size + 1 + 1, 0, none⟩ (.slice xa s.texts.length xc))) := hbw.setCell (show w.heap.size ≤ w.heap.size + 1 + 1 by omega) _
  have K2 := hide (unhide H2 _ (unhide HX))
  have P1 := hide p1
  have P2 := hide p2
  have P3 := hide p3
  clear hG hB1 b1' b2' b3' H1 H2 p1 p2 p3 q1 q3 f3 hbw
  go_wp2_with fail
  refine (unhide K2).mono ?_
  rintro e w2 ⟨v2, xo, rfl, hO, hB2⟩
  rw [size_set] at hO
  obtain ⟨ya, yc, rfl⟩ : ∃ a c, v2 = .slice a s.objs.length c := by obtain ⟨a, c, e, _⟩ := hO.row.shape; exact ⟨a, c, e⟩
  have hs2 : w1.heap.size ≤ w2.heap.size := by have := hB2.size; rwa [size_set] at this
  have p3 := (hB2.block (w.heap.size + 1 + 1) (by rw [size_set]; omega)).trans (setCell_block (unhide P3) (.slice xa s.texts.length xc))
  have p2 := (hB2.block (w.heap.size + 1) (by rw [size_set]; omega)).trans ((Below.heap_setCell _ _ _ _ (by simp)).trans (unhide P2))
  have p1 := (hB2.block w.heap.size (by rw [size_set]; omega)).trans ((Below.heap_setCell _ _ _ _ (show w.heap.size ≠ w.heap.size + 1 + 1 by omega)).trans (unhide P1))
  have hbw : Below w.heap.size w w2 := bl_past (unhide HX) hB2
  have fx : Fr (fun k => k = w.heap.size + 1 + 1) w1 w2 := ((Fr.refl (fun k => k = w.heap.size + 1 + 1) w1).setCell ⟨w.heap.size + 1 + 1, 0, none⟩ (.inr rfl) (.slice xa s.texts.length xc)).trans (Fr.of_below hB2)
  have HT2 : Hid (Ro w2 1 (.slice xa s.texts.length xc) s.texts.length (flt enT s.texts)) := (unhide HT).1.fr fx (fun k hk e => by have := (unhide HT).2 k hk; omega)
  have HO := hide hO
  obtain ⟨q1, _, l1'⟩ := blk_cells p1
  have q12 := q1 2
  obtain ⟨q3, f3, l3'⟩ := blk_cells p3
  have q31 := q3 1
  have f31 := f3 1
  simp at q31
  have HX2 : Hid (Below w.heap.size w (w2.setCell ⟨w.heap.size + 1 + 1, 1, none⟩ (.slice ya s.objs.length yc))) := hbw.setCell (show w.heap.size ≤ w.heap.size + 1 + 1 by omega) _
  have K3 := hide (unhide H3 _ (unhide HX2))
  have P2' := hide p2
  have P3' := hide p3
  clear hO hB2 K2 p1 p2 p3 q1 q3 f3 hbw fx q11 q30 f30 P1 P2 P3 HX H3
  go_wp2_with fail
  refine (unhide K3).mono ?_
  rintro e w3 ⟨v3, xb, rfl, hO, hB3⟩
  rw [size_set] at hO
  obtain ⟨za, zc, rfl⟩ : ∃ a c, v3 = .slice a s.fibs.length c := by obtain ⟨a, c, e, _⟩ := hO.row.shape; exact ⟨a, c, e⟩
  have hs3 : w2.heap.size ≤ w3.heap.size := by have := hB3.size; rwa [size_set] at this
  have p3 := (hB3.block (w.heap.size + 1 + 1) (by rw [size_set]; omega)).trans (setCell_block (unhide P3') (.slice ya s.objs.length yc))
  have p2 := (hB3.block (w.heap.size + 1) (by rw [size_set]; omega)).trans ((Below.heap_setCell _ _ _ _ (by simp)).trans (unhide P2'))
  have hbw : Below w.heap.size w w3 := bl_past (unhide HX2) hB3
  have fx : Fr (fun k => k = w.heap.size + 1 + 1) w2 w3 := ((Fr.refl (fun k => k = w.heap.size + 1 + 1) w2).setCell ⟨w.heap.size + 1 + 1, 1, none⟩ (.inr rfl) (.slice ya s.objs.length yc)).trans (Fr.of_below hB3)
  have HT3 : Hid (Ro w3 1 (.slice xa s.texts.length xc) s.texts.length (flt enT s.texts) ∧ ∀ k, (Value.slice xa s.texts.length xc).ownBlock = some k → k < w1.heap.size) := ⟨(unhide HT2).fr fx (fun k hk e => by have := (unhide HT).2 k hk; omega), (unhide HT).1.lt⟩
  have HO2 : Hid (OO (fun k => w1.heap.size ≤ k ∧ k < w2.heap.size) w3 (.slice ya s.objs.length yc) s.objs xo) := OW.frZ staysO ((unhide HO).mono (fun k h1 h2 => ⟨h2, h1⟩)) fx (fun k _ h e => by omega)
  have HO3 := hide hO
  have HBW := hide hbw
  obtain ⟨q2, f2, l2⟩ := blk_cells p2
  obtain ⟨q3, f3, l3''⟩ := blk_cells p3
  have c0 := q2 0
  have c1 := q2 1
  have c2 := q2 2
  have c3 := q2 3
  have c4 := q2 4
  have c5 := q2 5
  have c6 := q2 6
  have e0 := f2 0
  have e1 := f2 1
  have e2 := f2 2
  have e3 := f2 3
  have e4 := f2 4
  have e5 := f2 5
  have e6 := f2 6
  have d0 := q3 0
  have d1 := q3 1
  have d2 := q3 2
  have d3 := q3 3
  have d4 := q3 4
  have d5 := q3 5
  have d6 := q3 6
  have g2 := f3 2
  simp at c0 c1 c2 c3 c4 c5 c6 d0 d1 d2 d3 d4 d5 d6
  clear hO hB3 K3 p2 p3 q2 q3 f2 f3 hbw fx P2' P3' HX2 q12 q31 f31 HT2 HO
  go_wp2_with fail
  refine bodyPost_ret (v := .agg #[.slice xa s.texts.length xc, .slice ya s.objs.length yc, .slice za s.fibs.length zc, .int .i64 s.cur, .int .i64 s.steps, .int .i64 s.spent, .int .i64 s.read]) ?_ rfl ?_
  · rw [results_cell_one rfl]
    go_simp
  · have f0 : ∀ (X : World), Fr (fun k => k = w.heap.size + 1 ∨ k = w.heap.size + 1 + 1) w3 X → CpS w s (.returned (.agg #[.slice xa s.texts.length xc, .slice ya s.objs.length yc, .slice za s.fibs.length zc, .int .i64 s.cur, .int .i64 s.steps, .int .i64 s.spent, .int .i64 s.read])) X := fun X hF => by
      refine ⟨_, _, _, xo, xb, w1.heap.size, w2.heap.size, rfl, Rx.of_ro ((unhide HT3).1.fr hF (fun k hk e => by have := (unhide HT).2 k hk; omega)), fun k hk => ⟨by have := (unhide HT).2 k hk; omega, (unhide HT3).2 k hk⟩, ?_, ?_, by omega, by omega, Nat.le_trans hs3 hF.size, (unhide HBW).trans (hF.below (unhide HBW).size (fun k hk e => by omega))⟩
      · exact (OW.frZ staysO (unhide HO2) hF (fun k hk h e => by omega))
      · exact OW.frZ staysB (unhide HO3) hF (fun k _ h e => by omega)
    apply f0
    repeat (first | refine Fr.setCell ?_ _ (by simp) _ | with_reducible exact Fr.refl _ _)
end Go.Proofs.Ytadgiccfjppnfaa
