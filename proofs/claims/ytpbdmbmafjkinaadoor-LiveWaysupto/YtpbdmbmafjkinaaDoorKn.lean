/-
  The example's code.
-/
import Derived.Test.YtpbdmbmafjkinaaDoorRgT
import Derived.Test.YtpbdmbmafjkinaaDoorSr
namespace Go.Proofs.YtpbdmbmafjkinaaDoor
open Go.RowKit
set_option linter.unusedVariables false
set_option linter.unusedSimpArgs false
set_option maxRecDepth 100000 in
set_option maxHeartbeats 3200000 in
theorem reg_any (n : Int) (w : World) : Calls Tryd.prog 29 #[.int .i64 n] w fun e w' => e = .returned (.agg #[.int .i64 0, .int .i64 n]) ∧ Below w.heap.size w w' := by
  go_enter Tryd.func29, Tryd.ntmps29
  go_wp2_with fail
  have hn := heap_alloc_new w (.cells #[.int .i64 0, .int .i64 n] 70)
  have c0 := (blk_cells hn).1 0
  have c1 := (blk_cells hn).1 1
  have cl := (blk_cells hn).2.2
  simp at c0 c1
  refine bodyPost_ret (v := .agg #[.int .i64 0, .int .i64 n]) ?_ rfl ⟨rfl, box1n w _⟩
  rw [results_cell_one rfl]
  go_simp
set_option maxRecDepth 100000 in
set_option maxHeartbeats 3200000 in
theorem shape_any (r s : Int) (w : World) : Calls Tryd.prog 48 #[.int .i64 r, .int .i64 s] w fun e w' => ∃ a b, e = .returned (.slice (some ⟨b, 0, none⟩) 1 1) ∧ Below w.heap.size w w' ∧ w.heap.size ≤ a ∧ w.heap.size ≤ b ∧ a ≠ b ∧ w'.heap[a]? = some (.cells #[.int .i64 0, .int .i64 r, .int .i64 0, .int .i64 s] 70) ∧ w'.heap[b]? = some (.cells #[.int .i64 0, .int .i64 0, .slice (some ⟨a, 0, none⟩) 2 2] 73) := by
  go_enter Tryd.func48, Tryd.ntmps48
  go_wp2_with fail
  refine (reg_any r _).mono ?_
  rintro e w1 ⟨rfl, b1⟩
  go_wp2_with fail
  refine (reg_any s _).mono ?_
  rintro e w2 ⟨rfl, b2⟩
  go_wp2_with fail
  go_ret
  refine ⟨w2.heap.size, w2.heap.size + 1, rfl, ?_, ?_, ?_, by omega, ?_, ?_⟩
  · exact bl_past (bl_past b1 b2) (bl_past (box1n w2 _) (box1n _ _))
  · have := b1.size; have := b2.size; omega
  · have := b1.size; have := b2.size; omega
  · exact ((box1n (w2.alloc _) _).block _ (by simp)).trans (heap_alloc_new w2 _)
  · have q := heap_alloc_new (w2.alloc (Obj.cells #[.int .i64 0, .int .i64 r, .int .i64 0, .int .i64 s] 70)) (.cells #[.int .i64 0, .int .i64 0, .slice (some ⟨w2.heap.size, 0, none⟩) 2 2] 73)
    rw [World.size_alloc] at q
    exact q
theorem keepB {w w' : World} {k : Nat} {o : Obj} (f : Below w.heap.size w w') (h : w.heap[k]? = some o) : w'.heap[k]? = some o := (f.block _ (Array.getElem?_eq_some_iff.1 h).1).trans h
def slv (a n : Nat) : Value := .slice (some ⟨a, 0, none⟩) n n
/-- The rows of the example, by the blocks in which their lists lie. -/
def knI0 (a1 a2 a3 s1 : Nat) : List InR := [⟨1, 0, 2, slv a1 1, 0, 0, 0, slZ⟩, ⟨2, 12, 3, slv a2 2, 2, 0, 0, slZ⟩, ⟨1, 0, 2, slv a3 1, 0, 0, 0, slZ⟩, ⟨6, 0, -1, slZ, 0, 0, 0, slv s1 1⟩, ⟨7, 0, -1, slZ, 0, 0, 0, slZ⟩]
def knI1 (s2 s3 : Nat) : List InR := [⟨6, 0, -1, slZ, 0, 0, 0, slv s2 1⟩, ⟨9, 0, -1, slZ, 0, 0, 0, slv s3 1⟩]
def knB (i0 nx : Value) (i1 : Nat) : List BkR := [⟨0, i0, nx⟩, ⟨9, slv i1 2, slZ⟩]
/-- What of it lies still. -/
structure KnW (B nx a1 a2 a3 s1 t1 s2 t2 s3 t3 g0 g1 : Nat) (w : World) : Prop where
  hx : w.heap[nx]? = some (.cells #[.int .i64 1] 3)
  h1 : w.heap[a1]? = some (.cells #[.int .i64 0, .int .i64 0] 70)
  h2 : w.heap[a2]? = some (.cells #[.int .i64 0, .int .i64 2, .int .i64 3, .int .i64 5] 70)
  h3 : w.heap[a3]? = some (.cells #[.int .i64 1, .int .i64 0] 70)
  j1 : w.heap[s1]? = some (.cells #[.int .i64 0, .int .i64 0, slv t1 2] 73)
  k1 : w.heap[t1]? = some (.cells #[.int .i64 0, .int .i64 0, .int .i64 0, .int .i64 2] 70)
  j2 : w.heap[s2]? = some (.cells #[.int .i64 0, .int .i64 0, slv t2 2] 73)
  k2 : w.heap[t2]? = some (.cells #[.int .i64 0, .int .i64 0, .int .i64 0, .int .i64 1] 70)
  j3 : w.heap[s3]? = some (.cells #[.int .i64 0, .int .i64 0, slv t3 2] 73)
  k3 : w.heap[t3]? = some (.cells #[.int .i64 0, .int .i64 0, .int .i64 0, .int .i64 1] 70)
  i0 : w.heap[g0]? = some (.cells (flt enIn (knI0 a1 a2 a3 s1)).toArray 51)
  i1 : w.heap[g1]? = some (.cells (flt enIn (knI1 s2 s3)).toArray 51)
  lo : B ≤ nx ∧ B ≤ a1 ∧ B ≤ a2 ∧ B ≤ a3 ∧ B ≤ s1 ∧ B ≤ t1 ∧ B ≤ s2 ∧ B ≤ t2 ∧ B ≤ s3 ∧ B ≤ t3 ∧ B ≤ g0 ∧ B ≤ g1
theorem KnW.fr {B b nx a1 a2 a3 s1 t1 s2 t2 s3 t3 g0 g1 : Nat} {w w' : World} (h : KnW B nx a1 a2 a3 s1 t1 s2 t2 s3 t3 g0 g1 w) (f : Fr (fun k => k = b) w w') (hb : b < B ∨ (nx < b ∧ a1 < b ∧ a2 < b ∧ a3 < b ∧ s1 < b ∧ t1 < b ∧ s2 < b ∧ t2 < b ∧ s3 < b ∧ t3 < b ∧ g0 < b ∧ g1 < b)) : KnW B nx a1 a2 a3 s1 t1 s2 t2 s3 t3 g0 g1 w' := by
  have k : ∀ q o, q ≠ b → w.heap[q]? = some o → w'.heap[q]? = some o := fun q o hq ho => (f.block q (Array.getElem?_eq_some_iff.1 ho).1 hq).trans ho
  have l := h.lo
  exact ⟨k _ _ (by omega) h.hx, k _ _ (by omega) h.h1, k _ _ (by omega) h.h2, k _ _ (by omega) h.h3, k _ _ (by omega) h.j1, k _ _ (by omega) h.k1, k _ _ (by omega) h.j2, k _ _ (by omega) h.k2, k _ _ (by omega) h.j3, k _ _ (by omega) h.k3, k _ _ (by omega) h.i0, k _ _ (by omega) h.i1, l⟩
theorem KnW.on {B nx a1 a2 a3 s1 t1 s2 t2 s3 t3 g0 g1 : Nat} {w w' : World} (h : KnW B nx a1 a2 a3 s1 t1 s2 t2 s3 t3 g0 g1 w) (f : Below w.heap.size w w') : KnW B nx a1 a2 a3 s1 t1 s2 t2 s3 t3 g0 g1 w' :=
  ⟨keepB f h.hx, keepB f h.h1, keepB f h.h2, keepB f h.h3, keepB f h.j1, keepB f h.k1, keepB f h.j2, keepB f h.k2, keepB f h.j3, keepB f h.k3, keepB f h.i0, keepB f h.i1, h.lo⟩
theorem KnW.mono {B B' nx a1 a2 a3 s1 t1 s2 t2 s3 t3 g0 g1 : Nat} {w : World} (h : KnW B nx a1 a2 a3 s1 t1 s2 t2 s3 t3 g0 g1 w) (hB : B' ≤ B) : KnW B' nx a1 a2 a3 s1 t1 s2 t2 s3 t3 g0 g1 w := by
  have l := h.lo
  exact ⟨h.hx, h.h1, h.h2, h.h3, h.j1, h.k1, h.j2, h.k2, h.j3, h.k3, h.i0, h.i1, by omega⟩
def KnP (w : World) (e : Ending) (w' : World) : Prop := ∃ nx a1 a2 a3 s1 t1 s2 t2 s3 t3 g0 g1 gb, e = .returned (.agg #[.int .i64 0, .int .i64 4, slv gb 2]) ∧ Below w.heap.size w w' ∧ KnW w.heap.size nx a1 a2 a3 s1 t1 s2 t2 s3 t3 g0 g1 w' ∧ w'.heap[gb]? = some (.cells (flt enBk (knB (slv g0 5) (slv nx 1) g1)).toArray 47) ∧ w.heap.size ≤ gb ∧ g0 < gb ∧ g1 < gb ∧ nx < gb ∧ a1 < gb ∧ a2 < gb ∧ a3 < gb ∧ s1 < gb ∧ t1 < gb ∧ s2 < gb ∧ t2 < gb ∧ s3 < gb ∧ t3 < gb
set_option maxRecDepth 100000 in
set_option maxHeartbeats 6400000 in
theorem known_any (w : World) : Calls Tryd.prog 28 #[] w (KnP w) := by
  go_enter Tryd.func28, Tryd.ntmps28
  go_wp2_with fail
  refine (reg_any 0 _).mono ?_
  rintro e w1 ⟨rfl, b1⟩
  go_wp2_with fail
  refine (reg_any 2 _).mono ?_
  rintro e w2 ⟨rfl, b2⟩
  go_wp2_with fail
  refine (shape_any 0 2 _).mono ?_
  rintro e w3 ⟨t1, s1, rfl, b3, q1, q2, q3, q4, q5⟩
  go_wp2_with fail
  refine (shape_any 0 1 _).mono ?_
  rintro e w4 ⟨t2, s2, rfl, b4, q6, q7, q8, q9, q10⟩
  go_wp2_with fail
  refine (shape_any 0 1 _).mono ?_
  rintro e w5 ⟨t3, s3, rfl, b5, q11, q12, q13, q14, q15⟩
  have z1 := b1.size
  have z2 := b2.size
  have z3 := b3.size
  have z4 := b4.size
  have z5 := b5.size
  simp only [World.size_alloc] at z1 z2 z3 z4 z5 q1 q2 q6 q7
  have e0 : w1.heap[w.heap.size]? = some (.cells #[.int .i64 0, .int .i64 0, .slice none 0 0] 24) := keepB b1 (keepB (box1n _ _) (heap_alloc_new w _))
  have e1 : w1.heap[w.heap.size + 1]? = some (.cells #[.int .i64 1] 3) := by
    have q := keepB b1 (heap_alloc_new (w.alloc (.cells #[.int .i64 0, .int .i64 0, .slice none 0 0] 24)) (.cells #[.int .i64 1] 3))
    rw [World.size_alloc] at q
    exact q
  have k2 : Below w1.heap.size w1 w2 := (box1n w1 _).trans (b2.mono (by simp))
  have e2 : w2.heap[w1.heap.size]? = some (.cells #[.int .i64 0, .int .i64 0] 70) := keepB b2 (heap_alloc_new w1 _)
  have k3 : Below w2.heap.size w2 w3 := (bl_two w2 _ _).trans (b3.mono (by simp; omega))
  have e3 : w3.heap[w2.heap.size]? = some (.cells #[.int .i64 0, .int .i64 2, .int .i64 3, .int .i64 5] 70) := keepB b3 (keepB (box1n _ _) (heap_alloc_new w2 _))
  have e4 : w3.heap[w2.heap.size + 1]? = some (.cells #[.int .i64 1, .int .i64 0] 70) := by
    have q := keepB b3 (heap_alloc_new (w2.alloc (.cells #[.int .i64 0, .int .i64 2, .int .i64 3, .int .i64 5] 70)) (.cells #[.int .i64 1, .int .i64 0] 70))
    rw [World.size_alloc] at q
    exact q
  have k4 : Below w3.heap.size w3 w4 := (box1n w3 _).trans (b4.mono (by simp))
  have e5 : w4.heap[w3.heap.size]? = some (.cells (flt enIn (knI0 w1.heap.size w2.heap.size (w2.heap.size + 1) s1)).toArray 51) := keepB b4 (heap_alloc_new w3 _)
  obtain ⟨X, hX⟩ : ∃ X, Hid ((w5.alloc (.cells #[.int .i64 6, .int .i64 0, .int .i64 (-1), .slice none 0 0, .int .i64 0, .int .i64 0, .int .i64 0, .slice (some ⟨s2, 0, none⟩) 1 1, .int .i64 9, .int .i64 0, .int .i64 (-1), .slice none 0 0, .int .i64 0, .int .i64 0, .int .i64 0, .slice (some ⟨s3, 0, none⟩) 1 1] 51)).alloc (.cells #[.int .i64 0, .slice (some ⟨w3.heap.size, 0, none⟩) 5 5, .slice (some ⟨(w.heap.size + 1), 0, none⟩) 1 1, .int .i64 9, .slice (some ⟨w5.heap.size, 0, none⟩) 2 2, .slice none 0 0] 47) = X) := ⟨_, hide rfl⟩
  have k6 : Below w5.heap.size w5 X := by rw [← unhide hX]; exact bl_two w5 _ _
  have e6 : X.heap[w5.heap.size]? = some (.cells (flt enIn (knI1 s2 s3)).toArray 51) := by rw [← unhide hX]; exact keepB (box1n _ _) (heap_alloc_new w5 _)
  have e7 : X.heap[w5.heap.size + 1]? = some (.cells (flt enBk (knB (slv w3.heap.size 5) (slv (w.heap.size + 1) 1) w5.heap.size)).toArray 47) := by
    have q := heap_alloc_new (w5.alloc (.cells #[.int .i64 6, .int .i64 0, .int .i64 (-1), .slice none 0 0, .int .i64 0, .int .i64 0, .int .i64 0, .slice (some ⟨s2, 0, none⟩) 1 1, .int .i64 9, .int .i64 0, .int .i64 (-1), .slice none 0 0, .int .i64 0, .int .i64 0, .int .i64 0, .slice (some ⟨s3, 0, none⟩) 1 1] 51)) (.cells #[.int .i64 0, .slice (some ⟨w3.heap.size, 0, none⟩) 5 5, .slice (some ⟨(w.heap.size + 1), 0, none⟩) 1 1, .int .i64 9, .slice (some ⟨w5.heap.size, 0, none⟩) 2 2, .slice none 0 0] 47)
    rw [unhide hX, World.size_alloc] at q
    exact q
  have f2 := fun k o (h : w1.heap[k]? = some o) => keepB k6 (keepB b5 (keepB k4 (keepB k3 (keepB k2 h))))
  have f3 := fun k o (h : w2.heap[k]? = some o) => keepB k6 (keepB b5 (keepB k4 (keepB k3 h)))
  have f4 := fun k o (h : w3.heap[k]? = some o) => keepB k6 (keepB b5 (keepB k4 h))
  have HX : Hid (KnW (w.heap.size + 1) (w.heap.size + 1) w1.heap.size w2.heap.size (w2.heap.size + 1) s1 t1 s2 t2 s3 t3 w3.heap.size w5.heap.size X) :=
    ⟨f2 _ _ e1, f3 _ _ e2, f4 _ _ e3, f4 _ _ e4, f4 _ _ q5, f4 _ _ q4, keepB k6 (keepB b5 q10), keepB k6 (keepB b5 q9), keepB k6 q15, keepB k6 q14, keepB k6 (keepB b5 e5), e6, by omega⟩
  have hb0 := f2 _ _ e0
  have HB := hide e7
  have HBL : Hid (Below w.heap.size w X) := bl_past (bl_past (bl_past (bl_past (bl_past ((bl_two w _ _).trans (b1.mono (by simp; omega))) k2) k3) k4) b5) k6
  have HLT : Hid (w.heap.size + 1 < w1.heap.size ∧ w1.heap.size < w2.heap.size ∧ w2.heap.size + 1 < w3.heap.size ∧ w3.heap.size < w4.heap.size ∧ w4.heap.size ≤ w5.heap.size ∧ s1 < w3.heap.size ∧ t1 < w3.heap.size ∧ s2 < w4.heap.size ∧ t2 < w4.heap.size ∧ s3 < w5.heap.size ∧ t3 < w5.heap.size) := by
    have l1 := (Array.getElem?_eq_some_iff.1 q4).1
    have l2 := (Array.getElem?_eq_some_iff.1 q5).1
    have l3 := (Array.getElem?_eq_some_iff.1 q9).1
    have l4 := (Array.getElem?_eq_some_iff.1 q10).1
    have l5 := (Array.getElem?_eq_some_iff.1 q14).1
    have l6 := (Array.getElem?_eq_some_iff.1 q15).1
    unfold Hid
    omega
  have hX' := unhide hX
  have x0 := (blk_cells hb0).1 0
  have x1 := (blk_cells hb0).1 1
  have x2 := (blk_cells hb0).1 2
  have g0 := (blk_cells hb0).2.1 0
  have g1 := (blk_cells hb0).2.1 1
  have g2 := (blk_cells hb0).2.1 2
  have gl := (blk_cells hb0).2.2
  simp at x0 x1 x2
  have HB0 := hide hb0
  clear b1 b2 b3 b4 b5 q1 q2 q3 q4 q5 q6 q7 q8 q9 q10 q11 q12 q13 q14 q15 e0 e1 e2 e3 e4 e5 e6 e7 k2 k3 k4 k6 f2 f3 f4 z1 z2 z3 z4 z5 hb0
  go_wp2_with fail
  clear hX' hX x0 x1 x2 g0 g1 g2 gl
  obtain ⟨Y, hY⟩ : ∃ Y, Hid (((X.setCell ⟨w.heap.size, 0, none⟩ (.int .i64 0)).setCell ⟨w.heap.size, 1, none⟩ (.int .i64 4)).setCell ⟨w.heap.size, 2, none⟩ (.slice (some ⟨w5.heap.size + 1, 0, none⟩) 2 2) = Y) := ⟨_, hide rfl⟩
  have fY : Fr (fun k => k = w.heap.size) X Y := by rw [← unhide hY]; exact ((Fr.setCell (S := fun q => q = w.heap.size) (Fr.refl _ X) ⟨w.heap.size, 0, none⟩ (.inr rfl) _).setCell ⟨w.heap.size, 1, none⟩ (.inr rfl) _).setCell ⟨w.heap.size, 2, none⟩ (.inr rfl) _
  have hYb : Y.heap[w.heap.size]? = some (.cells #[.int .i64 0, .int .i64 4, .slice (some ⟨w5.heap.size + 1, 0, none⟩) 2 2] 24) := by
    have q := setCell_block (o := 2) (setCell_block (o := 1) (setCell_block (o := 0) (unhide HB0) (.int .i64 0)) (.int .i64 4)) (.slice (some ⟨w5.heap.size + 1, 0, none⟩) 2 2)
    rw [unhide hY] at q
    rw [q]
    rfl
  rw [unhide hY]
  have c0 := (blk_cells hYb).1 0
  have c1 := (blk_cells hYb).1 1
  have c2 := (blk_cells hYb).1 2
  have cl := (blk_cells hYb).2.2
  simp at c0 c1 c2
  have hl := unhide HLT
  have hfin : KnP w (.returned (.agg #[.int .i64 0, .int .i64 4, slv (w5.heap.size + 1) 2])) Y := by
    refine ⟨_, _, _, _, _, _, _, _, _, _, _, _, _, rfl, (unhide HBL).trans (fY.below (unhide HBL).size (fun k hk e => by omega)), ((unhide HX).fr fY (.inl (by omega))).mono (by omega), (fY.block _ (Array.getElem?_eq_some_iff.1 (unhide HB)).1 (by omega)).trans (unhide HB), ?_⟩
    omega
  clear hY fY hYb HX HB HBL HLT HB0 hl
  refine bodyPost_ret (v := .agg #[.int .i64 0, .int .i64 4, slv (w5.heap.size + 1) 2]) ?_ rfl hfin
  rw [results_cell_one rfl]
  unfold slv
  go_simp
end Go.Proofs.YtpbdmbmafjkinaaDoor
