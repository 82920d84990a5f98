/-
  The program's Canon.
-/
import Derived.Test.YtadgiccfjppnfaaPrn
import Derived.Test.YtadgiccfjppnfaaBc3
namespace Go.Proofs.Ytadgiccfjppnfaa
open Go.RowKit
set_option linter.unusedVariables false
set_option linter.unusedSimpArgs false
/-- What the program's Canon answers: a state of its own; texts below C1, fibers from there to C, objects from C on. -/
def CnQ (w : World) (s : St) (e : Ending) (w' : World) : Prop :=
  ∃ tv ov bv xo xb C1 C, e = .returned (.agg #[tv, ov, bv, .int .i64 s.cur, .int .i64 s.steps, .int .i64 s.spent, .int .i64 s.read]) ∧ Ro w' 1 tv s.texts.length (flt enT s.texts) ∧ (∀ k, tv.ownBlock = some k → w.heap.size ≤ k ∧ k < C1) ∧
    OB (fun k => C1 ≤ k ∧ k < C) w' bv s.fibs xb ∧ OO (fun k => C ≤ k) w' ov s.objs xo ∧ w.heap.size ≤ C1 ∧ C1 ≤ C ∧ C ≤ w'.heap.size ∧ Below w.heap.size w w'
theorem CnQ.cnp {w : World} {s : St} {e : Ending} {w' : World} (h : CnQ w s e w') : CnP w s e w' := by
  obtain ⟨tv, ov, bv, xo, xb, C1, C, he, h1, h2, h3, h4, h5, h6, h7, h8⟩ := h
  exact ⟨_, he, ⟨tv, ov, bv, rfl, Rx.of_ro h1, h4.osv, h3.bsv⟩, h8⟩
theorem box7 {w : World} {g : Nat} {a b c d e f h : Value} {t : TypeId} (q : w.heap[g]? = some (.cells #[a, b, c, d, e, f, h] t)) : (∀ u, (w.setCell ⟨g, 0, none⟩ u).heap[g]? = some (.cells #[u, b, c, d, e, f, h] t)) ∧ (∀ u, (w.setCell ⟨g, 1, none⟩ u).heap[g]? = some (.cells #[a, u, c, d, e, f, h] t)) ∧ ∀ u, (w.setCell ⟨g, 2, none⟩ u).heap[g]? = some (.cells #[a, b, u, d, e, f, h] t) :=
  ⟨fun u => setCell_block q u, fun u => setCell_block q u, fun u => setCell_block q u⟩
set_option maxRecDepth 100000 in
set_option maxHeartbeats 6400000 in
theorem pCanon_any {w : World} {v : Value} {s : St} (hs : StV w v s) (hb : StB s) (hi : StI s) : Calls Try.prog 9 #[v] w (CnQ w (canD s)) := by
  obtain ⟨ta, tc, oa, oc, ba, bc, rfl, rt, ro, rb, t1, t2, o1, o2, b1, b2⟩ := hs.shape
  obtain ⟨W2, hW2⟩ : ∃ W, Hid ((w.alloc (.cells #[.slice ta s.texts.length tc, .slice oa s.objs.length oc, .slice ba s.fibs.length bc, .int .i64 s.cur, .int .i64 s.steps, .int .i64 s.spent, .int .i64 s.read] 26)).alloc (.cells #[.slice none 0 0, .slice none 0 0, .slice none 0 0, .int .i64 0, .int .i64 0, .int .i64 0, .int .i64 0] 26) = W) := ⟨_, hide rfl⟩
  have f2 : Below w.heap.size w W2 := by rw [← unhide hW2]; exact bl_two w _ _
  have n0 : W2.heap[w.heap.size]? = some (.cells #[.slice ta s.texts.length tc, .slice oa s.objs.length oc, .slice ba s.fibs.length bc, .int .i64 s.cur, .int .i64 s.steps, .int .i64 s.spent, .int .i64 s.read] 26) := by
    rw [← unhide hW2, Below.heap_alloc _ _ _ (by simp)]
    exact heap_alloc_new w _
  have n1 : W2.heap[w.heap.size + 1]? = some (.cells #[.slice none 0 0, .slice none 0 0, .slice none 0 0, .int .i64 0, .int .i64 0, .int .i64 0, .int .i64 0] 26) := by
    rw [← unhide hW2]
    have := heap_alloc_new (w.alloc (.cells #[.slice ta s.texts.length tc, .slice oa s.objs.length oc, .slice ba s.fibs.length bc, .int .i64 s.cur, .int .i64 s.steps, .int .i64 s.spent, .int .i64 s.read] 26)) (.cells #[.slice none 0 0, .slice none 0 0, .slice none 0 0, .int .i64 0, .int .i64 0, .int .i64 0, .int .i64 0] 26)
    rw [World.size_alloc] at this
    exact this
  have s2 : W2.heap.size = w.heap.size + 1 + 1 := by rw [← unhide hW2]; simp
  obtain ⟨X, hXl, hXe, hMA⟩ := meetAll_any hs f2 hb hi
  have HMA := hide hMA
  have HXL := hide hXl
  have HXE := hide hXe
  have HRB := hide rb
  have HB := hide hb
  have HI := hide hi
  have HN0 := hide n0
  have HN1 := hide n1
  have HF2 := hide f2
  have HS2 := hide s2
  rw [canD_eq]
  clear hs hb hi rt ro rb hMA hXl hXe f2
  obtain ⟨c0, -, l0⟩ := blk_cells n0
  clear n0 n1 s2
  have e0 := c0 0
  have e1 := c0 1
  have e2 := c0 2
  have e3 := c0 3
  have e4 := c0 4
  have e5 := c0 5
  have e6 := c0 6
  simp at e0 e1 e2 e3 e4 e5 e6
  clear c0
  go_enter Try.func9, Try.ntmps9
  go_wp2_with fail
  rw [unhide hW2]
  go_wp2_with fail
  refine (unhide HMA).mono ?_
  rintro e w3 ⟨ob, mb, tv, ov, rfl, hO, horb, hb3⟩
  have HO := hide hO
  have HORB := hide horb
  have HB3 := hide hb3
  have hm0 := metA_ok s
  have q0 := bkeep1 (unhide HN0) hb3
  have q1 := bkeep1 (unhide HN1) hb3
  obtain ⟨c0, fz0, l3⟩ := blk_cells q0
  have HQ0 := hide q0
  have HQ1 := hide q1
  have g2 := c0 2
  have fz2 := fz0 2
  simp at g2
  have HBW3 := hide ((unhide HF2).trans (hb3.mono (unhide HF2).size))
  have HFB := hide (fibers_any hO hm0 ((unhide HRB).below (unhide HBW3) (Nat.le_refl _)) (unhide HB).bl (unhide HB).bs (unhide HI).b (metA_slots s))
  clear hO horb hb3 q0 q1 c0 fz0 HMA e0 e1 e2 e3 e4 e5 e6 l0 hm0
  go_wp2_with fail
  refine (unhide HFB).mono ?_
  rintro e w4 ⟨bv, xb, rfl, hOB, hb4⟩
  have HOB := hide hOB
  have HB4 := hide hb4
  have q0 := bkeep1 (unhide HQ0) hb4
  have q1 := bkeep1 (unhide HQ1) hb4
  obtain ⟨fa, fc, eb, -, -⟩ := hOB.row.shape
  obtain ⟨FN, hFN⟩ : ∃ n, Hid ((s.fibs.map (fun b => b.map (renM s.texts.length s.objs (metA s)))).length = n) := ⟨_, hide rfl⟩
  rw [unhide hFN] at eb
  obtain ⟨w5, hw5⟩ : ∃ W, Hid (w4.setCell ⟨w.heap.size, 2, none⟩ bv = W) := ⟨_, hide rfl⟩
  have r0 := (box7 q0).2.2 bv
  rw [unhide hw5] at r0
  have fr5 : Fr (fun k => k = w.heap.size) w4 w5 := by rw [← unhide hw5]; exact (Fr.refl (fun k => k = w.heap.size) w4).setCell ⟨w.heap.size, 2, none⟩ (.inr rfl) bv
  obtain ⟨c0, fz0, l4⟩ := blk_cells q0
  have g2' := c0 2
  have fz2' := fz0 2
  simp at g2'
  -- the order behind the store
  have hs2 := unhide HS2
  have hO5 := ((unhide HO).fr (Fr.of_below (S := fun _ => False) hb4) (fun _ _ e => e)).fr fr5 (fun k hk e => by have := unhide HORB k hk; omega)
  obtain ⟨c5, -, l5⟩ := blk_cells hO5.box
  have u0 := c5 0
  simp at u0
  obtain ⟨la, lc, elt, -, -⟩ := hO5.rt.shape
  obtain ⟨TN, hTN⟩ : ∃ n, Hid ((metA s).1.length = n) := ⟨_, hide rfl⟩
  rw [unhide hTN] at elt
  obtain ⟨cc, ff, ll⟩ := blk_cells r0
  have x0 := cc 0
  have fx0 := ff 0
  simp at x0
  obtain ⟨w6, hw6⟩ : ∃ W, Hid (w5.setCell ⟨w.heap.size, 0, none⟩ tv = W) := ⟨_, hide rfl⟩
  have r1 := (box7 r0).1 tv
  rw [unhide hw6] at r1
  have fr6 : Fr (fun k => k = w.heap.size) w5 w6 := by rw [← unhide hw6]; exact (Fr.refl (fun k => k = w.heap.size) w5).setCell ⟨w.heap.size, 0, none⟩ (.inr rfl) tv
  have hO6 := hO5.fr fr6 (fun k hk e => by have := unhide HORB k hk; omega)
  have HO6 := hide hO6
  have HR1 := hide r1
  have h46 : Fr (fun k => k = w.heap.size) w4 w6 := fr5.trans fr6
  have HF46 := hide h46
  have hbw6 : Below w.heap.size w w6 := ((unhide HBW3).trans (hb4.mono (unhide HBW3).size)).trans (h46.below (Nat.le_trans (unhide HBW3).size hb4.size) (fun k hk e => by omega))
  have HBW6 := hide hbw6
  have HRN := hide (renum_any hO6 (metA_ok s) hbw6 (unhide HXL) (unhide HXE) (unhide HB).ol (unhide HB).os (unhide HI).o (metA_objs s))
  have q16 : w6.heap[w.heap.size + 1]? = some (.cells #[.slice none 0 0, .slice none 0 0, .slice none 0 0, .int .i64 0, .int .i64 0, .int .i64 0, .int .i64 0] 26) := (h46.block _ (blk_cells q1).2.2 (by omega)).trans q1
  have HQ16 := hide q16
  subst eb
  subst elt
  rw [← unhide hw5] at u0 x0 fx0 ll l5
  clear hOB hb4 q0 q1 r0 fr5 c0 fz0 hO5 c5 cc ff r1 fr6 hO6 h46 hbw6 q16 HFB g2 fz2 hs2
  go_wp2_with fail
  rw [unhide hw5, unhide hw6]
  clear hw5 hw6 u0 x0 fx0 ll l5 g2' fz2'
  refine (unhide HRN).mono ?_
  rintro e w7 ⟨ov7, xo, rfl, hOO, hb7⟩
  have HOO := hide hOO
  have p0 := bkeep1 (unhide HR1) hb7
  have p1 := bkeep1 (unhide HQ16) hb7
  obtain ⟨oa7, oc7, eo7, -, -⟩ := hOO.row.shape
  obtain ⟨ON, hON⟩ : ∃ n, Hid (((metA s).2.map (fun j => renO s.texts.length s.objs (metA s) (s.objs.getD j nob))).length = n) := ⟨_, hide rfl⟩
  rw [unhide hON] at eo7
  have HFIN : Hid (∀ W, Fr (fun k => k = w.heap.size ∨ k = w.heap.size + 1) w7 W → CnQ w (canP s (metA s)) (.returned (.agg #[.slice la TN lc, ov7, .slice fa FN fc, .int .i64 s.cur, .int .i64 s.steps, .int .i64 s.spent, .int .i64 s.read])) W) := fun W hW => by
    have hsz2 := unhide HS2
    have a3 := (unhide HB3).size
    have a4 := (unhide HB4).size
    have a6 := (unhide HF46).size
    have a7 := hb7.size
    have a8 := hW.size
    have hF47 : Fr (fun k => k = w.heap.size ∨ k = w.heap.size + 1) w4 W := (((unhide HF46).mono (fun k _ e => .inl e)).trans ((Fr.of_below hb7))).trans hW
    refine ⟨.slice la TN lc, ov7, .slice fa FN fc, xo, xb, w3.heap.size, w6.heap.size, rfl, ?_, ?_, ?_, ?_, by omega, by omega, by omega, ?_⟩
    · have := ((unhide HO6).rt.fr (Fr.of_below (S := fun _ => False) hb7) (fun _ _ e => e)).fr hW (fun k hk e => by have := unhide HORB k (.inr (.inr (.inl hk))); omega)
      show Ro W 1 _ ((metA s).1.map _).length _
      rw [List.length_map]
      exact this
    · intro k hk
      have h1 := unhide HORB k (.inr (.inr (.inl hk)))
      have h2 := (unhide HO).rt.lt k hk
      omega
    · have h1 := (unhide HOB).mono (Z' := fun k => w3.heap.size ≤ k ∧ k < w6.heap.size) (fun k hk hz => ⟨hz, by omega⟩)
      exact h1.fr staysB hF47 (fun k hk hi e => by have := (h1.in hi).1.1; omega)
    · exact hOO.fr staysO hW (fun k hk hi e => by have := (hOO.in hi).1; omega)
    · exact (unhide HBW6).trans ((((Fr.of_below (S := fun k => k = w.heap.size ∨ k = w.heap.size + 1) hb7).trans hW).below (unhide HBW6).size (fun k hk e => by omega)))
  obtain ⟨c0, fz0, l7⟩ := blk_cells p0
  have y1 := c0 1
  have fy1 := fz0 1
  simp at y1
  obtain ⟨w8, hw8⟩ : ∃ W, Hid (w7.setCell ⟨w.heap.size, 1, none⟩ ov7 = W) := ⟨_, hide rfl⟩
  have r8 := (box7 p0).2.1 ov7
  rw [unhide hw8] at r8
  have fr8 : Fr (fun k => k = w.heap.size) w7 w8 := by rw [← unhide hw8]; exact (Fr.refl (fun k => k = w.heap.size) w7).setCell ⟨w.heap.size, 1, none⟩ (.inr rfl) ov7
  have p8 := (fr8.block _ (blk_cells p1).2.2 (by omega)).trans p1
  obtain ⟨d8, -, l8⟩ := blk_cells r8
  obtain ⟨d9, f9, l9⟩ := blk_cells p8
  have z0 := d8 0
  have z1 := d8 1
  have z2 := d8 2
  have z3 := d8 3
  have z4 := d8 4
  have z5 := d8 5
  have z6 := d8 6
  have k0 := d9 0
  have k1 := d9 1
  have k2 := d9 2
  have k3 := d9 3
  have k4 := d9 4
  have k5 := d9 5
  have k6 := d9 6
  have m0 := f9 0
  have m1 := f9 1
  have m2 := f9 2
  have m3 := f9 3
  have m4 := f9 4
  have m5 := f9 5
  have m6 := f9 6
  simp at z0 z1 z2 z3 z4 z5 z6 k0 k1 k2 k3 k4 k5 k6
  have HF8 := hide fr8
  subst eo7
  clear hOO hb7 p0 p1 c0 fz0 r8 fr8 p8 d8 d9 f9
  rw [← unhide hw8] at z0 z1 z2 z3 z4 z5 z6 k0 k1 k2 k3 k4 k5 k6 m0 m1 m2 m3 m4 m5 m6 l8 l9
  go_wp2_with fail
  refine bodyPost_ret (v := .agg #[.slice la TN lc, .slice oa7 ON oc7, .slice fa FN fc, .int .i64 s.cur, .int .i64 s.steps, .int .i64 s.spent, .int .i64 s.read]) ?_ rfl ?_
  · rw [results_cell_one rfl]
    go_simp
  · apply unhide HFIN
    repeat (first | refine Fr.setCell ?_ _ (by simp) _ | with_reducible exact Fr.refl _ _)
end Go.Proofs.Ytadgiccfjppnfaa
