/-
  LiveTwice's law.
-/
import Derived.Test.YtpbdmbmafjkinaaDoorRgT
import Derived.Test.YtpbdmbmafjkinaaDoorSr
import Derived.Test.YtpbdmbmafjkinaaDoorKm
import Derived.Test.YtpbdmbmafjkinaaDoorAfL
import Derived.Test.YtpbdmbmafjkinaaDoorTk
namespace Go.Proofs.YtpbdmbmafjkinaaDoor
open Go.RowKit
set_option linter.unusedVariables false
set_option linter.unusedSimpArgs false
set_option maxRecDepth 100000 in
set_option maxHeartbeats 3200000 in
theorem reg_any (n : Int) (w : World) : Calls Tryd.prog 29 #[.int .i64 n] w fun e w' => e = .returned (.agg #[.int .i64 0, .int .i64 n]) ∧ Below w.heap.size w w' := by
  go_enter Tryd.func29, Tryd.ntmps29
  go_wp2_with fail
  have hn := heap_alloc_new w (.cells #[.int .i64 0, .int .i64 n] 70)
  have c0 := (blk_cells hn).1 0
  have c1 := (blk_cells hn).1 1
  have cl := (blk_cells hn).2.2
  simp at c0 c1
  refine bodyPost_ret (v := .agg #[.int .i64 0, .int .i64 n]) ?_ rfl ⟨rfl, box1n w _⟩
  rw [results_cell_one rfl]
  go_simp
set_option maxRecDepth 100000 in
set_option maxHeartbeats 3200000 in
theorem shape_any (r s : Int) (w : World) : Calls Tryd.prog 48 #[.int .i64 r, .int .i64 s] w fun e w' => ∃ a b, e = .returned (.slice (some ⟨b, 0, none⟩) 1 1) ∧ Below w.heap.size w w' ∧ w.heap.size ≤ a ∧ w.heap.size ≤ b ∧ a ≠ b ∧ w'.heap[a]? = some (.cells #[.int .i64 0, .int .i64 r, .int .i64 0, .int .i64 s] 70) ∧ w'.heap[b]? = some (.cells #[.int .i64 0, .int .i64 0, .slice (some ⟨a, 0, none⟩) 2 2] 73) := by
  go_enter Tryd.func48, Tryd.ntmps48
  go_wp2_with fail
  refine (reg_any r _).mono ?_
  rintro e w1 ⟨rfl, b1⟩
  go_wp2_with fail
  refine (reg_any s _).mono ?_
  rintro e w2 ⟨rfl, b2⟩
  go_wp2_with fail
  go_ret
  refine ⟨w2.heap.size, w2.heap.size + 1, rfl, ?_, ?_, ?_, by omega, ?_, ?_⟩
  · exact bl_past (bl_past b1 b2) (bl_past (box1n w2 _) (box1n _ _))
  · have := b1.size; have := b2.size; omega
  · have := b1.size; have := b2.size; omega
  · exact ((box1n (w2.alloc _) _).block _ (by simp)).trans (heap_alloc_new w2 _)
  · have q := heap_alloc_new (w2.alloc (Obj.cells #[.int .i64 0, .int .i64 r, .int .i64 0, .int .i64 s] 70)) (.cells #[.int .i64 0, .int .i64 0, .slice (some ⟨w2.heap.size, 0, none⟩) 2 2] 73)
    rw [World.size_alloc] at q
    exact q
theorem keepB {w w' : World} {k : Nat} {o : Obj} (f : Below w.heap.size w w') (h : w.heap[k]? = some o) : w'.heap[k]? = some o := (f.block _ (Array.getElem?_eq_some_iff.1 h).1).trans h
def slv (a n : Nat) : Value := .slice (some ⟨a, 0, none⟩) n n
/-- The rows of the example, by the blocks in which their lists lie. -/
def knI0 (a1 a2 a3 s1 : Nat) : List InR := [⟨1, 0, 2, slv a1 1, 0, 0, 0, slZ⟩, ⟨2, 12, 3, slv a2 2, 2, 0, 0, slZ⟩, ⟨1, 0, 2, slv a3 1, 0, 0, 0, slZ⟩, ⟨6, 0, -1, slZ, 0, 0, 0, slv s1 1⟩, ⟨7, 0, -1, slZ, 0, 0, 0, slZ⟩]
def knI1 (s2 s3 : Nat) : List InR := [⟨6, 0, -1, slZ, 0, 0, 0, slv s2 1⟩, ⟨9, 0, -1, slZ, 0, 0, 0, slv s3 1⟩]
def knB (i0 nx : Value) (i1 : Nat) : List BkR := [⟨0, i0, nx⟩, ⟨9, slv i1 2, slZ⟩]
/-- What of it lies still. -/
structure KnW (B nx a1 a2 a3 s1 t1 s2 t2 s3 t3 g0 g1 : Nat) (w : World) : Prop where
  hx : w.heap[nx]? = some (.cells #[.int .i64 1] 3)
  h1 : w.heap[a1]? = some (.cells #[.int .i64 0, .int .i64 0] 70)
  h2 : w.heap[a2]? = some (.cells #[.int .i64 0, .int .i64 2, .int .i64 3, .int .i64 5] 70)
  h3 : w.heap[a3]? = some (.cells #[.int .i64 1, .int .i64 0] 70)
  j1 : w.heap[s1]? = some (.cells #[.int .i64 0, .int .i64 0, slv t1 2] 73)
  k1 : w.heap[t1]? = some (.cells #[.int .i64 0, .int .i64 0, .int .i64 0, .int .i64 2] 70)
  j2 : w.heap[s2]? = some (.cells #[.int .i64 0, .int .i64 0, slv t2 2] 73)
  k2 : w.heap[t2]? = some (.cells #[.int .i64 0, .int .i64 0, .int .i64 0, .int .i64 1] 70)
  j3 : w.heap[s3]? = some (.cells #[.int .i64 0, .int .i64 0, slv t3 2] 73)
  k3 : w.heap[t3]? = some (.cells #[.int .i64 0, .int .i64 0, .int .i64 0, .int .i64 1] 70)
  i0 : w.heap[g0]? = some (.cells (flt enIn (knI0 a1 a2 a3 s1)).toArray 51)
  i1 : w.heap[g1]? = some (.cells (flt enIn (knI1 s2 s3)).toArray 51)
  lo : B ≤ nx ∧ B ≤ a1 ∧ B ≤ a2 ∧ B ≤ a3 ∧ B ≤ s1 ∧ B ≤ t1 ∧ B ≤ s2 ∧ B ≤ t2 ∧ B ≤ s3 ∧ B ≤ t3 ∧ B ≤ g0 ∧ B ≤ g1
theorem KnW.fr {B b nx a1 a2 a3 s1 t1 s2 t2 s3 t3 g0 g1 : Nat} {w w' : World} (h : KnW B nx a1 a2 a3 s1 t1 s2 t2 s3 t3 g0 g1 w) (f : Fr (fun k => k = b) w w') (hb : b < B ∨ (nx < b ∧ a1 < b ∧ a2 < b ∧ a3 < b ∧ s1 < b ∧ t1 < b ∧ s2 < b ∧ t2 < b ∧ s3 < b ∧ t3 < b ∧ g0 < b ∧ g1 < b)) : KnW B nx a1 a2 a3 s1 t1 s2 t2 s3 t3 g0 g1 w' := by
  have k : ∀ q o, q ≠ b → w.heap[q]? = some o → w'.heap[q]? = some o := fun q o hq ho => (f.block q (Array.getElem?_eq_some_iff.1 ho).1 hq).trans ho
  have l := h.lo
  exact ⟨k _ _ (by omega) h.hx, k _ _ (by omega) h.h1, k _ _ (by omega) h.h2, k _ _ (by omega) h.h3, k _ _ (by omega) h.j1, k _ _ (by omega) h.k1, k _ _ (by omega) h.j2, k _ _ (by omega) h.k2, k _ _ (by omega) h.j3, k _ _ (by omega) h.k3, k _ _ (by omega) h.i0, k _ _ (by omega) h.i1, l⟩
theorem KnW.on {B nx a1 a2 a3 s1 t1 s2 t2 s3 t3 g0 g1 : Nat} {w w' : World} (h : KnW B nx a1 a2 a3 s1 t1 s2 t2 s3 t3 g0 g1 w) (f : Below w.heap.size w w') : KnW B nx a1 a2 a3 s1 t1 s2 t2 s3 t3 g0 g1 w' :=
  ⟨keepB f h.hx, keepB f h.h1, keepB f h.h2, keepB f h.h3, keepB f h.j1, keepB f h.k1, keepB f h.j2, keepB f h.k2, keepB f h.j3, keepB f h.k3, keepB f h.i0, keepB f h.i1, h.lo⟩
theorem KnW.mono {B B' nx a1 a2 a3 s1 t1 s2 t2 s3 t3 g0 g1 : Nat} {w : World} (h : KnW B nx a1 a2 a3 s1 t1 s2 t2 s3 t3 g0 g1 w) (hB : B' ≤ B) : KnW B' nx a1 a2 a3 s1 t1 s2 t2 s3 t3 g0 g1 w := by
  have l := h.lo
  exact ⟨h.hx, h.h1, h.h2, h.h3, h.j1, h.k1, h.j2, h.k2, h.j3, h.k3, h.i0, h.i1, by omega⟩
def KnP (w : World) (e : Ending) (w' : World) : Prop := ∃ nx a1 a2 a3 s1 t1 s2 t2 s3 t3 g0 g1 gb, e = .returned (.agg #[.int .i64 0, .int .i64 4, slv gb 2]) ∧ Below w.heap.size w w' ∧ KnW w.heap.size nx a1 a2 a3 s1 t1 s2 t2 s3 t3 g0 g1 w' ∧ w'.heap[gb]? = some (.cells (flt enBk (knB (slv g0 5) (slv nx 1) g1)).toArray 47) ∧ w.heap.size ≤ gb ∧ g0 < gb ∧ g1 < gb ∧ nx < gb ∧ a1 < gb ∧ a2 < gb ∧ a3 < gb ∧ s1 < gb ∧ t1 < gb ∧ s2 < gb ∧ t2 < gb ∧ s3 < gb ∧ t3 < gb
set_option maxRecDepth 100000 in
set_option maxHeartbeats 6400000 in
theorem known_any (w : World) : Calls Tryd.prog 28 #[] w (KnP w) := by
  go_enter Tryd.func28, Tryd.ntmps28
  go_wp2_with fail
  refine (reg_any 0 _).mono ?_
  rintro e w1 ⟨rfl, b1⟩
  go_wp2_with fail
  refine (reg_any 2 _).mono ?_
  rintro e w2 ⟨rfl, b2⟩
  go_wp2_with fail
  refine (shape_any 0 2 _).mono ?_
  rintro e w3 ⟨t1, s1, rfl, b3, q1, q2, q3, q4, q5⟩
  go_wp2_with fail
  refine (shape_any 0 1 _).mono ?_
  rintro e w4 ⟨t2, s2, rfl, b4, q6, q7, q8, q9, q10⟩
  go_wp2_with fail
  refine (shape_any 0 1 _).mono ?_
  rintro e w5 ⟨t3, s3, rfl, b5, q11, q12, q13, q14, q15⟩
  have z1 := b1.size
  have z2 := b2.size
  have z3 := b3.size
  have z4 := b4.size
  have z5 := b5.size
  simp only [World.size_alloc] at z1 z2 z3 z4 z5 q1 q2 q6 q7
  have e0 : w1.heap[w.heap.size]? = some (.cells #[.int .i64 0, .int .i64 0, .slice none 0 0] 24) := keepB b1 (keepB (box1n _ _) (heap_alloc_new w _))
  have e1 : w1.heap[w.heap.size + 1]? = some (.cells #[.int .i64 1] 3) := by
    have q := keepB b1 (heap_alloc_new (w.alloc (.cells #[.int .i64 0, .int .i64 0, .slice none 0 0] 24)) (.cells #[.int .i64 1] 3))
    rw [World.size_alloc] at q
    exact q
  have k2 : Below w1.heap.size w1 w2 := (box1n w1 _).trans (b2.mono (by simp))
  have e2 : w2.heap[w1.heap.size]? = some (.cells #[.int .i64 0, .int .i64 0] 70) := keepB b2 (heap_alloc_new w1 _)
  have k3 : Below w2.heap.size w2 w3 := (bl_two w2 _ _).trans (b3.mono (by simp; omega))
  have e3 : w3.heap[w2.heap.size]? = some (.cells #[.int .i64 0, .int .i64 2, .int .i64 3, .int .i64 5] 70) := keepB b3 (keepB (box1n _ _) (heap_alloc_new w2 _))
  have e4 : w3.heap[w2.heap.size + 1]? = some (.cells #[.int .i64 1, .int .i64 0] 70) := by
    have q := keepB b3 (heap_alloc_new (w2.alloc (.cells #[.int .i64 0, .int .i64 2, .int .i64 3, .int .i64 5] 70)) (.cells #[.int .i64 1, .int .i64 0] 70))
    rw [World.size_alloc] at q
    exact q
  have k4 : Below w3.heap.size w3 w4 := (box1n w3 _).trans (b4.mono (by simp))
  have e5 : w4.heap[w3.heap.size]? = some (.cells (flt enIn (knI0 w1.heap.size w2.heap.size (w2.heap.size + 1) s1)).toArray 51) := keepB b4 (heap_alloc_new w3 _)
  obtain ⟨X, hX⟩ : ∃ X, Hid ((w5.alloc (.cells #[.int .i64 6, .int .i64 0, .int .i64 (-1), .slice none 0 0, .int .i64 0, .int .i64 0, .int .i64 0, .slice (some ⟨s2, 0, none⟩) 1 1, .int .i64 9, .int .i64 0, .int .i64 (-1), .slice none 0 0, .int .i64 0, .int .i64 0, .int .i64 0, .slice (some ⟨s3, 0, none⟩) 1 1] 51)).alloc (.cells #[.int .i64 0, .slice (some ⟨w3.heap.size, 0, none⟩) 5 5, .slice (some ⟨(w.heap.size + 1), 0, none⟩) 1 1, .int .i64 9, .slice (some ⟨w5.heap.size, 0, none⟩) 2 2, .slice none 0 0] 47) = X) := ⟨_, hide rfl⟩
  have k6 : Below w5.heap.size w5 X := by rw [← unhide hX]; exact bl_two w5 _ _
  have e6 : X.heap[w5.heap.size]? = some (.cells (flt enIn (knI1 s2 s3)).toArray 51) := by rw [← unhide hX]; exact keepB (box1n _ _) (heap_alloc_new w5 _)
  have e7 : X.heap[w5.heap.size + 1]? = some (.cells (flt enBk (knB (slv w3.heap.size 5) (slv (w.heap.size + 1) 1) w5.heap.size)).toArray 47) := by
    have q := heap_alloc_new (w5.alloc (.cells #[.int .i64 6, .int .i64 0, .int .i64 (-1), .slice none 0 0, .int .i64 0, .int .i64 0, .int .i64 0, .slice (some ⟨s2, 0, none⟩) 1 1, .int .i64 9, .int .i64 0, .int .i64 (-1), .slice none 0 0, .int .i64 0, .int .i64 0, .int .i64 0, .slice (some ⟨s3, 0, none⟩) 1 1] 51)) (.cells #[.int .i64 0, .slice (some ⟨w3.heap.size, 0, none⟩) 5 5, .slice (some ⟨(w.heap.size + 1), 0, none⟩) 1 1, .int .i64 9, .slice (some ⟨w5.heap.size, 0, none⟩) 2 2, .slice none 0 0] 47)
    rw [unhide hX, World.size_alloc] at q
    exact q
  have f2 := fun k o (h : w1.heap[k]? = some o) => keepB k6 (keepB b5 (keepB k4 (keepB k3 (keepB k2 h))))
  have f3 := fun k o (h : w2.heap[k]? = some o) => keepB k6 (keepB b5 (keepB k4 (keepB k3 h)))
  have f4 := fun k o (h : w3.heap[k]? = some o) => keepB k6 (keepB b5 (keepB k4 h))
  have HX : Hid (KnW (w.heap.size + 1) (w.heap.size + 1) w1.heap.size w2.heap.size (w2.heap.size + 1) s1 t1 s2 t2 s3 t3 w3.heap.size w5.heap.size X) :=
    ⟨f2 _ _ e1, f3 _ _ e2, f4 _ _ e3, f4 _ _ e4, f4 _ _ q5, f4 _ _ q4, keepB k6 (keepB b5 q10), keepB k6 (keepB b5 q9), keepB k6 q15, keepB k6 q14, keepB k6 (keepB b5 e5), e6, by omega⟩
  have hb0 := f2 _ _ e0
  have HB := hide e7
  have HBL : Hid (Below w.heap.size w X) := bl_past (bl_past (bl_past (bl_past (bl_past ((bl_two w _ _).trans (b1.mono (by simp; omega))) k2) k3) k4) b5) k6
  have HLT : Hid (w.heap.size + 1 < w1.heap.size ∧ w1.heap.size < w2.heap.size ∧ w2.heap.size + 1 < w3.heap.size ∧ w3.heap.size < w4.heap.size ∧ w4.heap.size ≤ w5.heap.size ∧ s1 < w3.heap.size ∧ t1 < w3.heap.size ∧ s2 < w4.heap.size ∧ t2 < w4.heap.size ∧ s3 < w5.heap.size ∧ t3 < w5.heap.size) := by
    have l1 := (Array.getElem?_eq_some_iff.1 q4).1
    have l2 := (Array.getElem?_eq_some_iff.1 q5).1
    have l3 := (Array.getElem?_eq_some_iff.1 q9).1
    have l4 := (Array.getElem?_eq_some_iff.1 q10).1
    have l5 := (Array.getElem?_eq_some_iff.1 q14).1
    have l6 := (Array.getElem?_eq_some_iff.1 q15).1
    unfold Hid
    omega
  have hX' := unhide hX
  have x0 := (blk_cells hb0).1 0
  have x1 := (blk_cells hb0).1 1
  have x2 := (blk_cells hb0).1 2
  have g0 := (blk_cells hb0).2.1 0
  have g1 := (blk_cells hb0).2.1 1
  have g2 := (blk_cells hb0).2.1 2
  have gl := (blk_cells hb0).2.2
  simp at x0 x1 x2
  have HB0 := hide hb0
  clear b1 b2 b3 b4 b5 q1 q2 q3 q4 q5 q6 q7 q8 q9 q10 q11 q12 q13 q14 q15 e0 e1 e2 e3 e4 e5 e6 e7 k2 k3 k4 k6 f2 f3 f4 z1 z2 z3 z4 z5 hb0
  go_wp2_with fail
  clear hX' hX x0 x1 x2 g0 g1 g2 gl
  obtain ⟨Y, hY⟩ : ∃ Y, Hid (((X.setCell ⟨w.heap.size, 0, none⟩ (.int .i64 0)).setCell ⟨w.heap.size, 1, none⟩ (.int .i64 4)).setCell ⟨w.heap.size, 2, none⟩ (.slice (some ⟨w5.heap.size + 1, 0, none⟩) 2 2) = Y) := ⟨_, hide rfl⟩
  have fY : Fr (fun k => k = w.heap.size) X Y := by rw [← unhide hY]; exact ((Fr.setCell (S := fun q => q = w.heap.size) (Fr.refl _ X) ⟨w.heap.size, 0, none⟩ (.inr rfl) _).setCell ⟨w.heap.size, 1, none⟩ (.inr rfl) _).setCell ⟨w.heap.size, 2, none⟩ (.inr rfl) _
  have hYb : Y.heap[w.heap.size]? = some (.cells #[.int .i64 0, .int .i64 4, .slice (some ⟨w5.heap.size + 1, 0, none⟩) 2 2] 24) := by
    have q := setCell_block (o := 2) (setCell_block (o := 1) (setCell_block (o := 0) (unhide HB0) (.int .i64 0)) (.int .i64 4)) (.slice (some ⟨w5.heap.size + 1, 0, none⟩) 2 2)
    rw [unhide hY] at q
    rw [q]
    rfl
  rw [unhide hY]
  have c0 := (blk_cells hYb).1 0
  have c1 := (blk_cells hYb).1 1
  have c2 := (blk_cells hYb).1 2
  have cl := (blk_cells hYb).2.2
  simp at c0 c1 c2
  have hl := unhide HLT
  have hfin : KnP w (.returned (.agg #[.int .i64 0, .int .i64 4, slv (w5.heap.size + 1) 2])) Y := by
    refine ⟨_, _, _, _, _, _, _, _, _, _, _, _, _, rfl, (unhide HBL).trans (fY.below (unhide HBL).size (fun k hk e => by omega)), ((unhide HX).fr fY (.inl (by omega))).mono (by omega), (fY.block _ (Array.getElem?_eq_some_iff.1 (unhide HB)).1 (by omega)).trans (unhide HB), ?_⟩
    omega
  clear hY fY hYb HX HB HBL HLT HB0 hl
  refine bodyPost_ret (v := .agg #[.int .i64 0, .int .i64 4, slv (w5.heap.size + 1) 2]) ?_ rfl hfin
  rw [results_cell_one rfl]
  unfold slv
  go_simp

set_option linter.unusedVariables false
set_option linter.unusedSimpArgs false
theorem roB {w : World} {g sz n : Nat} {xs : List Value} {t : TypeId} (h : w.heap[g]? = some (.cells xs.toArray t)) (hl : xs.length = n * sz) (hn : n ≤ maxLen) : Ro w sz (slv g n) n xs :=
  ⟨hl, .inr ⟨g, 0, n, xs.toArray, t, rfl, h, Nat.le_refl _, hn, by simp [hl], fun j hj => by simp⟩⟩
theorem rdB {w : World} {g sz n : Nat} {xs : List Value} {t : TypeId} (h : w.heap[g]? = some (.cells xs.toArray t)) (hl : xs.length = n * sz) (hn : n ≤ maxLen) : Rd (fun _ => True) w sz (slv g n) n xs := Rd.of_ro (roB h hl hn) (fun _ _ => trivial)
theorem opB {w : World} {g : Nat} {l : List Op} (h : w.heap[g]? = some (.cells (flt enO l).toArray 70)) (hn : l.length ≤ maxLen) : OpV (fun _ => True) w l (slv g l.length) := rdB h (flt_length zO l) hn
theorem opZ (w : World) : OpV (fun _ => True) w [] slZ := Rd.nil _ w 2
theorem shZ (w : World) : ShsV (fun _ => True) w [] slZ := ⟨[], rfl, Rd.nil _ w 3, fun i u r hu => by simp at hu⟩
theorem shB {w : World} {s t : Nat} {l : List Op} (h : w.heap[s]? = some (.cells #[.int .i64 0, .int .i64 0, slv t l.length] 73)) (k : w.heap[t]? = some (.cells (flt enO l).toArray 70)) (hn : l.length ≤ maxLen) : ShsV (fun _ => True) w [⟨0, 0, l⟩] (slv s 1) := by
  refine ⟨[⟨0, 0, slv t l.length⟩], rfl, rdB (t := 73) h rfl (by decide), fun i u r hu hr => ?_⟩
  match i, hu, hr with
  | 0, hu, hr => cases hu; cases hr; exact ⟨rfl, rfl, opB k hn⟩
  | i + 1, hu, hr => simp at hu
theorem KnW.ins0 {B nx a1 a2 a3 s1 t1 s2 t2 s3 t3 g0 g1 : Nat} {w : World} (h : KnW B nx a1 a2 a3 s1 t1 s2 t2 s3 t3 g0 g1 w) : InsV (fun _ => True) w knX (slv g0 5) := by
  refine ⟨knI0 a1 a2 a3 s1, rfl, rdB (t := 51) h.i0 rfl (by decide), fun i u r hu hr => ?_⟩
  match i, hu, hr with
  | 0, hu, hr => cases hu; cases hr; exact ⟨rfl, rfl, rfl, rfl, rfl, rfl, opB (l := [⟨0, 0⟩]) h.h1 (by decide), shZ w⟩
  | 1, hu, hr => cases hu; cases hr; exact ⟨rfl, rfl, rfl, rfl, rfl, rfl, opB (l := [⟨0, 2⟩, ⟨3, 5⟩]) h.h2 (by decide), shZ w⟩
  | 2, hu, hr => cases hu; cases hr; exact ⟨rfl, rfl, rfl, rfl, rfl, rfl, opB (l := [⟨1, 0⟩]) h.h3 (by decide), shZ w⟩
  | 3, hu, hr => cases hu; cases hr; exact ⟨rfl, rfl, rfl, rfl, rfl, rfl, opZ w, shB (l := [⟨0, 0⟩, ⟨0, 2⟩]) h.j1 h.k1 (by decide)⟩
  | 4, hu, hr => cases hu; cases hr; exact ⟨rfl, rfl, rfl, rfl, rfl, rfl, opZ w, shZ w⟩
  | i + 5, hu, hr => simp [knX] at hu
theorem KnW.ins1 {B nx a1 a2 a3 s1 t1 s2 t2 s3 t3 g0 g1 : Nat} {w : World} (h : KnW B nx a1 a2 a3 s1 t1 s2 t2 s3 t3 g0 g1 w) : InsV (fun _ => True) w knY (slv g1 2) := by
  refine ⟨knI1 s2 s3, rfl, rdB (t := 51) h.i1 rfl (by decide), fun i u r hu hr => ?_⟩
  match i, hu, hr with
  | 0, hu, hr => cases hu; cases hr; exact ⟨rfl, rfl, rfl, rfl, rfl, rfl, opZ w, shB (l := [⟨0, 0⟩, ⟨0, 1⟩]) h.j2 h.k2 (by decide)⟩
  | 1, hu, hr => cases hu; cases hr; exact ⟨rfl, rfl, rfl, rfl, rfl, rfl, opZ w, shB (l := [⟨0, 0⟩, ⟨0, 1⟩]) h.j3 h.k3 (by decide)⟩
  | i + 2, hu, hr => simp [knY] at hu
/-- With the first k instructions of its first block left out. -/
theorem KnW.bks {B nx a1 a2 a3 s1 t1 s2 t2 s3 t3 g0 g1 gb k : Nat} {w : World} (h : KnW B nx a1 a2 a3 s1 t1 s2 t2 s3 t3 g0 g1 w) (hk : k < 5) {xa : Option Addr} (hx : xa = some ⟨g0, 0 + k * 8, none⟩) (hb : w.heap[gb]? = some (.cells (flt enBk (knB (.slice xa (5 - k) (5 - k)) (slv nx 1) g1)).toArray 47)) : BksV (fun _ => True) w (knL k) (slv gb 2) := by
  refine ⟨knB (.slice xa (5 - k) (5 - k)) (slv nx 1) g1, rfl, rdB (t := 47) hb rfl (by decide), fun i u r hu hr => ?_⟩
  match i, hu, hr with
  | 0, hu, hr =>
    cases hu; cases hr
    exact ⟨rfl, InsV.drop (show InsV (fun _ => True) w knX (.slice (some ⟨g0, 0, none⟩) 5 5) from h.ins0) rfl (by omega) (fun _ => hx), rdB (t := 3) (xs := flt enI [1]) h.hx rfl (by decide)⟩
  | 1, hu, hr => cases hu; cases hr; exact ⟨rfl, h.ins1, Rd.nil _ w 1⟩
  | i + 2, hu, hr => simp [knL] at hu
theorem kn_ok (k : Nat) (hk : k ≤ 5) : ∀ b ∈ knL k, OkL b := fun b hb => by
  have hx : ∀ x ∈ knX, x.args.length ≤ 1048576 ∧ x.ex.length ≤ 1048576 ∧ ∀ s ∈ x.ex, s.sl.length ≤ 1048576 := by decide
  have hy : ∀ x ∈ knY, x.args.length ≤ 1048576 ∧ x.ex.length ≤ 1048576 ∧ ∀ s ∈ x.ex, s.sl.length ≤ 1048576 := by decide
  simp only [knL, List.mem_cons, List.not_mem_nil, or_false] at hb
  rcases hb with rfl | rfl
  · refine ⟨?_, by show (1 : Nat) ≤ 1048576; omega, fun x hx' => hx x (List.mem_of_mem_drop hx')⟩
    show (knX.drop k).length ≤ 1048576
    rw [List.length_drop]
    have : knX.length = 5 := rfl
    omega
  · exact ⟨by decide, by decide, hy⟩

set_option linter.unusedVariables false
set_option linter.unusedSimpArgs false
structure ShW (w : World) (cb nx a1 a2 a3 s1 t1 s2 t2 s3 t3 g0 g1 gb : Nat) (V : World) : Prop where
  bw : Below w.heap.size w V
  bx : V.heap[cb]? = some (.cells #[.int .i64 0, .int .i64 4, slv gb 2] 24)
  kn : KnW w.heap.size nx a1 a2 a3 s1 t1 s2 t2 s3 t3 g0 g1 V
  bl : V.heap[gb]? = some (.cells (flt enBk (knB (slv g0 5) (slv nx 1) g1)).toArray 47)
  tt : TT V
section
variable {w : World} {cb nx a1 a2 a3 s1 t1 s2 t2 s3 t3 g0 g1 gb : Nat} {V V' : World}
theorem ShW.on (h : ShW w cb nx a1 a2 a3 s1 t1 s2 t2 s3 t3 g0 g1 gb V) (f : Below V.heap.size V V') : ShW w cb nx a1 a2 a3 s1 t1 s2 t2 s3 t3 g0 g1 gb V' :=
  ⟨bl_past h.bw f, keepB f h.bx, h.kn.on f, keepB f h.bl, h.tt.below h.tt.1 f⟩
theorem ShW.box (h : ShW w cb nx a1 a2 a3 s1 t1 s2 t2 s3 t3 g0 g1 gb V) : cb < V.heap.size ∧ V.cell? ⟨cb, 0, none⟩ = some (.int .i64 0) ∧ V.cell? ⟨cb, 1, none⟩ = some (.int .i64 4) ∧ V.cell? ⟨cb, 2, none⟩ = some (.slice (some ⟨gb, 0, none⟩) 2 2) := by
  obtain ⟨q1, _, q3⟩ := blk_cells h.bx
  exact ⟨q3, q1 0, q1 1, q1 2⟩
theorem ShW.bks (h : ShW w cb nx a1 a2 a3 s1 t1 s2 t2 s3 t3 g0 g1 gb V) : BksV (fun _ => True) V (knL 0) (.slice (some ⟨gb, 0, none⟩) 2 2) := h.kn.bks (k := 0) (by omega) rfl h.bl
end
theorem kn_len : (knL 0).length ≤ 1048576 := by decide
/-- A row of numbers, as it is built in place. -/
theorem two_row (V : World) : NR V (.slice (some ⟨V.heap.size, 0, none⟩) 2 2) [0, 1] (V.alloc (.cells #[.int .i64 0, .int .i64 1] 3)) :=
  ⟨box1n V _, roB (t := 3) (xs := [.int .i64 0, .int .i64 1]) (heap_alloc_new V _) rfl (by decide), fun k hk => by cases hk; exact Nat.le_refl _⟩
theorem three_row (V : World) : NR V (.slice (some ⟨V.heap.size, 0, none⟩) 3 3) [0, 1, 2] (V.alloc (.cells #[.int .i64 0, .int .i64 1, .int .i64 2] 3)) :=
  ⟨box1n V _, roB (t := 3) (xs := [.int .i64 0, .int .i64 1, .int .i64 2]) (heap_alloc_new V _) rfl (by decide), fun k hk => by cases hk; exact Nat.le_refl _⟩
/-- A code is laid into a box of its own. -/
def cboxW (V : World) (v : Value) : World := (((V.alloc (.cells #[.int .i64 0, .int .i64 0, .slice none 0 0] 24)).setCell ⟨V.heap.size, 0, none⟩ (.int .i64 0)).setCell ⟨V.heap.size, 1, none⟩ (.int .i64 4)).setCell ⟨V.heap.size, 2, none⟩ v
theorem cbox (V : World) (v : Value) : Below V.heap.size V (cboxW V v) ∧ (cboxW V v).heap[V.heap.size]? = some (.cells #[.int .i64 0, .int .i64 4, v] 24) := by
  have hn := heap_alloc_new V (.cells #[.int .i64 0, .int .i64 0, .slice none 0 0] 24)
  have q := setCell_block (o := 2) (setCell_block (o := 1) (setCell_block (o := 0) hn (.int .i64 0)) (.int .i64 4)) v
  have f : Fr (fun k => k = V.heap.size) (V.alloc (.cells #[.int .i64 0, .int .i64 0, .slice none 0 0] 24)) (cboxW V v) := ((Fr.setCell (S := fun q => q = V.heap.size) (Fr.refl _ _) ⟨V.heap.size, 0, none⟩ (.inr rfl) _).setCell ⟨V.heap.size, 1, none⟩ (.inr rfl) _).setCell ⟨V.heap.size, 2, none⟩ (.inr rfl) _
  refine ⟨(box1n V _).trans (f.below (by simp) (fun k hk e => by omega)), ?_⟩
  unfold cboxW
  rw [q]
  rfl
set_option maxRecDepth 100000 in
set_option maxHeartbeats 12800000 in
theorem shown_any {w : World} (hT : TT w) : Calls Tryd.prog 13 #[] w fun e w' => e = .returned (.bool true) ∧ Below w.heap.size w w' := by
  have HK := hide (known_any w)
  have HT := hide hT
  clear hT
  go_enter Tryd.func13, Tryd.ntmps13
  go_wp2_with fail
  refine (unhide HK).mono ?_
  rintro e w1 ⟨nx, a1, a2, a3, s1, t1, s2, t2, s3, t3, g0, g1, gb, rfl, b1, hk, hb, hl⟩
  obtain ⟨X0, hX0⟩ : ∃ z, Hid (w1.alloc (.cells #[.int .i64 0, .int .i64 0, .slice none 0 0] 24) = z) := ⟨_, hide rfl⟩
  have hn := heap_alloc_new w1 (.cells #[.int .i64 0, .int .i64 0, .slice none 0 0] 24)
  rw [unhide hX0] at hn
  have x0 := (blk_cells hn).1 0
  have x1 := (blk_cells hn).1 1
  have x2 := (blk_cells hn).1 2
  have y0 := (blk_cells hn).2.1 0
  have y1 := (blk_cells hn).2.1 1
  have y2 := (blk_cells hn).2.1 2
  have yl := (blk_cells hn).2.2
  simp at x0 x1 x2
  obtain ⟨X, hX⟩ : ∃ z, Hid (((X0.setCell ⟨w1.heap.size, 0, none⟩ (.int .i64 0)).setCell ⟨w1.heap.size, 1, none⟩ (.int .i64 4)).setCell ⟨w1.heap.size, 2, none⟩ (.slice (some ⟨gb, 0, none⟩) 2 2) = z) := ⟨_, hide rfl⟩
  have hcb : Below w1.heap.size w1 X ∧ X.heap[w1.heap.size]? = some (.cells #[.int .i64 0, .int .i64 4, slv gb 2] 24) := by
    rw [← unhide hX, ← unhide hX0]
    exact cbox w1 (slv gb 2)
  have hX0' := unhide hX0
  have hX' := unhide hX
  clear hn
  unfold slv
  have HS : Hid (ShW w w1.heap.size nx a1 a2 a3 s1 t1 s2 t2 s3 t3 g0 g1 gb X) := ⟨bl_past b1 hcb.1, hcb.2, hk.on hcb.1, keepB hcb.1 hb, (unhide HT).below (unhide HT).1 (bl_past b1 hcb.1)⟩
  clear hcb hk hb b1 hl HK
  have HA := hide (after_any (fn := 0) (regs := 4) (unhide HS).bks kn_len (kn_ok 0 (by omega)) (unhide HS).tt 0 4)
  rw [kn_a4] at HA
  obtain ⟨xl, z0, z1, z2⟩ := (unhide HS).box
  go_wp2_with fail
  clear xl z0 z1 z2
  clear hX0' hX0 hX' hX x0 x1 x2 y0 y1 y2 yl
  refine (unhide HA).mono ?_
  rintro e V1 ⟨ya, yc, rfl, hy⟩
  rw [show ([0, 1] : List Nat).length = 2 from rfl] at hy ⊢
  obtain ⟨Z1, hZ⟩ : ∃ z, Hid (V1.alloc (.cells #[.int .i64 0, .int .i64 1] 3) = z) := ⟨_, hide rfl⟩
  have HSN : Hid (Calls Tryd.prog 10 #[.slice ya 2 yc, .slice (some ⟨V1.heap.size, 0, none⟩) 2 2] Z1 fun e w' => e = .returned (.bool true) ∧ Below Z1.heap.size Z1 w') := by
    rw [← unhide hZ]
    exact sameN_yes (l := [0, 1]) (hy.on (box1n _ _)).row (two_row V1).row (by decide)
  have HS2 : Hid (ShW w w1.heap.size nx a1 a2 a3 s1 t1 s2 t2 s3 t3 g0 g1 gb Z1) := by
    rw [← unhide hZ]
    exact ((unhide HS).on hy.bel).on (box1n _ _)
  have hZ' := unhide hZ
  clear hy HA HS
  have HS := HS2
  clear HS2
  go_wp2_with fail
  clear hZ' hZ
  refine (unhide HSN).mono ?_
  rintro e U1 ⟨rfl, b1⟩
  have HS2 := hide ((unhide HS).on b1)
  clear b1 HSN HS
  have HS := HS2
  clear HS2
  have HA := hide (after_any (fn := 0) (regs := 4) (unhide HS).bks kn_len (kn_ok 0 (by omega)) (unhide HS).tt 0 2)
  rw [kn_a2] at HA
  obtain ⟨xl, z0, z1, z2⟩ := (unhide HS).box
  go_wp2_with fail
  clear xl z0 z1 z2
  refine (unhide HA).mono ?_
  rintro e V2 ⟨ya, yc, rfl, hy⟩
  rw [show ([0, 1, 2] : List Nat).length = 3 from rfl] at hy ⊢
  obtain ⟨Z2, hZ⟩ : ∃ z, Hid (V2.alloc (.cells #[.int .i64 0, .int .i64 1, .int .i64 2] 3) = z) := ⟨_, hide rfl⟩
  have HSN : Hid (Calls Tryd.prog 10 #[.slice ya 3 yc, .slice (some ⟨V2.heap.size, 0, none⟩) 3 3] Z2 fun e w' => e = .returned (.bool true) ∧ Below Z2.heap.size Z2 w') := by
    rw [← unhide hZ]
    exact sameN_yes (l := [0, 1, 2]) (hy.on (box1n _ _)).row (three_row V2).row (by decide)
  have HS2 : Hid (ShW w w1.heap.size nx a1 a2 a3 s1 t1 s2 t2 s3 t3 g0 g1 gb Z2) := by
    rw [← unhide hZ]
    exact ((unhide HS).on hy.bel).on (box1n _ _)
  have hZ' := unhide hZ
  clear hy HA HS
  have HS := HS2
  clear HS2
  go_wp2_with fail
  clear hZ' hZ
  refine (unhide HSN).mono ?_
  rintro e U2 ⟨rfl, b2⟩
  have HS2 := hide ((unhide HS).on b2)
  clear b2 HSN HS
  have HS := HS2
  clear HS2
  have HA := hide (after_any (fn := 0) (regs := 4) (unhide HS).bks kn_len (kn_ok 0 (by omega)) (unhide HS).tt 0 1)
  rw [kn_a1] at HA
  obtain ⟨xl, z0, z1, z2⟩ := (unhide HS).box
  go_wp2_with fail
  clear xl z0 z1 z2
  refine (unhide HA).mono ?_
  rintro e V3 ⟨ya, yc, rfl, hy⟩
  rw [show ([0, 1] : List Nat).length = 2 from rfl] at hy ⊢
  obtain ⟨Z3, hZ⟩ : ∃ z, Hid (V3.alloc (.cells #[.int .i64 0, .int .i64 1] 3) = z) := ⟨_, hide rfl⟩
  have HSN : Hid (Calls Tryd.prog 10 #[.slice ya 2 yc, .slice (some ⟨V3.heap.size, 0, none⟩) 2 2] Z3 fun e w' => e = .returned (.bool true) ∧ Below Z3.heap.size Z3 w') := by
    rw [← unhide hZ]
    exact sameN_yes (l := [0, 1]) (hy.on (box1n _ _)).row (two_row V3).row (by decide)
  have HS2 : Hid (ShW w w1.heap.size nx a1 a2 a3 s1 t1 s2 t2 s3 t3 g0 g1 gb Z3) := by
    rw [← unhide hZ]
    exact ((unhide HS).on hy.bel).on (box1n _ _)
  have hZ' := unhide hZ
  clear hy HA HS
  have HS := HS2
  clear HS2
  go_wp2_with fail
  clear hZ' hZ
  refine (unhide HSN).mono ?_
  rintro e U3 ⟨rfl, b3⟩
  have HS2 := hide ((unhide HS).on b3)
  clear b3 HSN HS
  have HS := HS2
  clear HS2
  have HA := hide (after_any (fn := 0) (regs := 4) (unhide HS).bks kn_len (kn_ok 0 (by omega)) (unhide HS).tt 0 0)
  rw [kn_a0] at HA
  obtain ⟨xl, z0, z1, z2⟩ := (unhide HS).box
  go_wp2_with fail
  clear xl z0 z1 z2
  refine (unhide HA).mono ?_
  rintro e V4 ⟨ya, yc, rfl, hy⟩
  rw [show ([0, 1] : List Nat).length = 2 from rfl] at hy ⊢
  obtain ⟨Z4, hZ⟩ : ∃ z, Hid (V4.alloc (.cells #[.int .i64 0, .int .i64 1] 3) = z) := ⟨_, hide rfl⟩
  have HSN : Hid (Calls Tryd.prog 10 #[.slice ya 2 yc, .slice (some ⟨V4.heap.size, 0, none⟩) 2 2] Z4 fun e w' => e = .returned (.bool true) ∧ Below Z4.heap.size Z4 w') := by
    rw [← unhide hZ]
    exact sameN_yes (l := [0, 1]) (hy.on (box1n _ _)).row (two_row V4).row (by decide)
  have HS2 : Hid (ShW w w1.heap.size nx a1 a2 a3 s1 t1 s2 t2 s3 t3 g0 g1 gb Z4) := by
    rw [← unhide hZ]
    exact ((unhide HS).on hy.bel).on (box1n _ _)
  have hZ' := unhide hZ
  clear hy HA HS
  have HS := HS2
  clear HS2
  go_wp2_with fail
  clear hZ' hZ
  refine (unhide HSN).mono ?_
  rintro e U4 ⟨rfl, b4⟩
  have HS2 := hide ((unhide HS).on b4)
  clear b4 HSN HS
  have HS := HS2
  clear HS2
  have HA := hide (after_any (fn := 0) (regs := 4) (unhide HS).bks kn_len (kn_ok 0 (by omega)) (unhide HS).tt 0 5)
  rw [kn_a5] at HA
  obtain ⟨xl, z0, z1, z2⟩ := (unhide HS).box
  go_wp2_with fail
  clear xl z0 z1 z2
  refine (unhide HA).mono ?_
  rintro e V5 ⟨ya, yc, rfl, hy⟩
  rw [show ([] : List Nat).length = 0 from rfl] at hy ⊢
  have HS2 := hide ((unhide HS).on hy.bel)
  clear hy HA HS
  have HS := HS2
  clear HS2
  have HA := hide (after_any (fn := 0) (regs := 4) (unhide HS).bks kn_len (kn_ok 0 (by omega)) (unhide HS).tt 2 0)
  rw [kn_a20] at HA
  obtain ⟨xl, z0, z1, z2⟩ := (unhide HS).box
  go_wp2_with fail
  clear xl z0 z1 z2
  refine (unhide HA).mono ?_
  rintro e V6 ⟨ya, yc, rfl, hy⟩
  rw [show ([] : List Nat).length = 0 from rfl] at hy ⊢
  have HS2 := hide ((unhide HS).on hy.bel)
  clear hy HA HS
  have HS := HS2
  clear HS2
  have HK2 := hide (known_any V6)
  go_wp2_with fail
  refine (unhide HK2).mono ?_
  rintro e w5 ⟨nx', a1', a2', a3', s1', t1', s2', t2', s3', t3', g0', g1', gb', rfl, b5, hk, hb, hl⟩
  have HS6 := HS
  have HS2 := hide ((unhide HS).on b5)
  have HB5 := hide b5
  clear HS HK2
  have HS := HS2
  clear HS2
  obtain ⟨Y0, hY0⟩ : ∃ z, Hid (w5.alloc (.cells #[.int .i64 0, .int .i64 0, .slice none 0 0] 24) = z) := ⟨_, hide rfl⟩
  have hn := heap_alloc_new w5 (.cells #[.int .i64 0, .int .i64 0, .slice none 0 0] 24)
  rw [unhide hY0] at hn
  have x0 := (blk_cells hn).1 0
  have x1 := (blk_cells hn).1 1
  have x2 := (blk_cells hn).1 2
  have y0 := (blk_cells hn).2.1 0
  have y1 := (blk_cells hn).2.1 1
  have y2 := (blk_cells hn).2.1 2
  have yl := (blk_cells hn).2.2
  simp at x0 x1 x2
  obtain ⟨Y, hY⟩ : ∃ z, Hid (((Y0.setCell ⟨w5.heap.size, 0, none⟩ (.int .i64 0)).setCell ⟨w5.heap.size, 1, none⟩ (.int .i64 4)).setCell ⟨w5.heap.size, 2, none⟩ (.slice (some ⟨gb', 0, none⟩) 2 2) = z) := ⟨_, hide rfl⟩
  have hcb : Below w5.heap.size w5 Y ∧ Y.heap[w5.heap.size]? = some (.cells #[.int .i64 0, .int .i64 4, slv gb' 2] 24) := by
    rw [← unhide hY, ← unhide hY0]
    exact cbox w5 (slv gb' 2)
  have hY0' := unhide hY0
  have hY' := unhide hY
  clear hn
  unfold slv
  have HS2 := hide ((unhide HS).on hcb.1)
  clear HS
  have HS := HS2
  clear HS2
  have HKN := hide (hk.on hcb.1)
  have HBY := hide (bl_past (unhide HB5) hcb.1)
  have HGB := hide (keepB hcb.1 hb)
  have HCB := hide hcb.2
  have HLB := hide hl
  have hg5 : gb' < w5.heap.size := (Array.getElem?_eq_some_iff.1 hb).1
  have hbxl := (Array.getElem?_eq_some_iff.1 (unhide HS).bx).1
  clear hcb hk hb b5 hl
  go_wp2_with fail
  clear hY0' hY0 hY' hY x0 x1 x2 y0 y1 y2 yl
  obtain ⟨Y1, hY1⟩ : ∃ z, Hid (Y.drew = z) := ⟨_, hide rfl⟩
  have HSR : Hid ((fun V : World => V.heap[w5.heap.size]? = some (.cells #[.int .i64 0, .int .i64 4, .slice (some ⟨gb', 0, none⟩) 2 2] 24) ∧ V.heap[gb']? = some (.cells #[.int .i64 0, .slice (some ⟨g0', 0, none⟩) 5 5, .slice (some ⟨nx', 0, none⟩) 1 1, .int .i64 9, .slice (some ⟨g1', 0, none⟩) 2 2, .slice none 0 0] 47)) Y1) := by rw [← unhide hY1]; exact ⟨unhide HCB, unhide HGB⟩
  have HBY1 : Hid (Below V6.heap.size V6 Y1) := by rw [← unhide hY1]; exact (unhide HBY).trans ((bl_drew Y).mono (unhide HBY).size)
  have HKN1 : Hid (KnW V6.heap.size nx' a1' a2' a3' s1' t1' s2' t2' s3' t3' g0' g1' Y1) := by rw [← unhide hY1]; exact (unhide HKN).on (bl_drew Y)
  refine wp_region_later (S := (fun V : World => V.heap[w5.heap.size]? = some (.cells #[.int .i64 0, .int .i64 4, .slice (some ⟨gb', 0, none⟩) 2 2] 24) ∧ V.heap[gb']? = some (.cells #[.int .i64 0, .slice (some ⟨g0', 0, none⟩) 5 5, .slice (some ⟨nx', 0, none⟩) 1 1, .int .i64 9, .slice (some ⟨g1', 0, none⟩) 2 2, .slice none 0 0] 47))) (m := 10) (by kernel_rfl) ?_
  rw [unhide hY1]
  clear hY1 HBY HKN HCB HGB HS
  refine wpAnyL_takeU (i := 0) (oi := _) (v := .pointer (some ⟨w5.heap.size, 2, none⟩)) rfl (by kernel_rfl) (by kernel_rfl) (by kernel_rfl) (by decide) (fun _ _ _ h => h) (Or.inl ⟨by rfl, (by intro w' hSw; go_simp; first | done | rfl)⟩) (fun _ => unhide HSR) ?_
  go_simp
  refine wpAnyL_take (i := 1) (oi := _) (om := _) (v := .slice (some ⟨gb', 0, none⟩) 2 2) rfl rfl (by kernel_rfl) (by kernel_rfl) (by kernel_rfl) (by kernel_rfl) (by decide) (by kernel_rfl) (fun _ _ _ h => h) (Or.inl ⟨by rfl, (by intro w' hSw; have q1 := (blk_cells hSw.1).1 2; have q3 := (blk_cells hSw.1).2.2; simp at q1; go_simp; first | done | rfl)⟩) (unhide HSR) ?_
  go_simp
  refine wpAnyL_takeU (i := 2) (oi := _) (v := .pointer (some ⟨w5.heap.size, 2, none⟩)) rfl (by kernel_rfl) (by kernel_rfl) (by kernel_rfl) (by decide) (fun _ _ _ h => h) (Or.inl ⟨by rfl, (by intro w' hSw; go_simp; first | done | rfl)⟩) (fun _ => unhide HSR) ?_
  go_simp
  refine wpAnyL_take (i := 3) (oi := _) (om := _) (v := .slice (some ⟨gb', 0, none⟩) 2 2) rfl rfl (by kernel_rfl) (by kernel_rfl) (by kernel_rfl) (by kernel_rfl) (by decide) (by kernel_rfl) (fun _ _ _ h => h) (Or.inl ⟨by rfl, (by intro w' hSw; have q1 := (blk_cells hSw.1).1 2; have q3 := (blk_cells hSw.1).2.2; simp at q1; go_simp; first | done | rfl)⟩) (unhide HSR) ?_
  go_simp
  refine wpAnyL_takeU (i := 4) (oi := _) (v := .pointer (some ⟨gb', 0, none⟩)) rfl (by kernel_rfl) (by kernel_rfl) (by kernel_rfl) (by decide) (fun _ _ _ h => h) (Or.inl ⟨by rfl, (by intro w' hSw; go_simp; first | done | rfl)⟩) (fun _ => unhide HSR) ?_
  go_simp
  refine wpAnyL_takeU (i := 5) (oi := _) (v := .pointer (some ⟨gb', 1, none⟩)) rfl (by kernel_rfl) (by kernel_rfl) (by kernel_rfl) (by decide) (fun _ _ _ h => h) (Or.inl ⟨by rfl, (by intro w' hSw; go_simp; first | done | rfl)⟩) (fun _ => unhide HSR) ?_
  go_simp
  refine wpAnyL_take (i := 6) (oi := _) (om := _) (v := .slice (some ⟨g0', 0, none⟩) 5 5) rfl rfl (by kernel_rfl) (by kernel_rfl) (by kernel_rfl) (by kernel_rfl) (by decide) (by kernel_rfl) (fun _ _ _ h => h) (Or.inl ⟨by rfl, (by intro w' hSw; have q1 := (blk_cells hSw.2).1 1; have q3 := (blk_cells hSw.2).2.2; simp at q1; go_simp; first | done | rfl)⟩) (unhide HSR) ?_
  go_simp
  refine wpAnyL_takeU (i := 7) (oi := _) (v := .slice (some ⟨g0', 16, none⟩) 3 3) rfl (by kernel_rfl) (by kernel_rfl) (by kernel_rfl) (by decide) (fun _ _ _ h => h) (Or.inl ⟨by rfl, (by intro w' hSw; go_simp; first | done | rfl)⟩) (fun _ => unhide HSR) ?_
  go_simp
  refine wpAnyL_takeU (i := 8) (oi := _) (v := .pointer (some ⟨gb', 0, none⟩)) rfl (by kernel_rfl) (by kernel_rfl) (by kernel_rfl) (by decide) (fun _ _ _ h => h) (Or.inl ⟨by rfl, (by intro w' hSw; go_simp; first | done | rfl)⟩) (fun _ => unhide HSR) ?_
  go_simp
  refine wpAnyL_takeU (i := 9) (oi := _) (v := .pointer (some ⟨gb', 1, none⟩)) rfl (by kernel_rfl) (by kernel_rfl) (by kernel_rfl) (by decide) (fun _ _ _ h => h) (Or.inl ⟨by rfl, (by intro w' hSw; go_simp; first | done | rfl)⟩) (fun _ => unhide HSR) ?_
  go_simp
  have q1 := (blk_cells (unhide HSR).2).1 1
  have q2 := (blk_cells (unhide HSR).2).2.1 1
  have q3 := (blk_cells (unhide HSR).2).2.2
  simp at q1
  refine wpAnyL_one (i := 10) (o := _) (by kernel_rfl) rfl (fun K hK => ?_)
  go_simp
  refine hK _ _ (fun q => absurd q (by decide)) ?_
  clear hK K
  refine wpAnyL_done (by kernel_rfl) ?_ _
  clear q1 q2 q3
  obtain ⟨X2, hX2⟩ : ∃ z, Hid (Y1.setCell ⟨gb', 1, none⟩ (.slice (some ⟨g0', 16, none⟩) 3 3) = z) := ⟨_, hide rfl⟩
  have f2 : Fr (fun k => k = gb') Y1 X2 := by rw [← unhide hX2]; exact Fr.setCell (S := fun q => q = gb') (Fr.refl _ Y1) ⟨gb', 1, none⟩ (.inr rfl) _
  have hg2 : X2.heap[gb']? = some (.cells (flt enBk (knB (.slice (some ⟨g0', 16, none⟩) 3 3) (slv nx' 1) g1')).toArray 47) := by
    have q := setCell_block (o := 1) (unhide HSR).2 (.slice (some ⟨g0', 16, none⟩) 3 3)
    rw [unhide hX2] at q
    rw [q]
    rfl
  have HX2 : Hid (Below V6.heap.size V6 X2) := (unhide HBY1).trans (f2.below (unhide HBY1).size (fun k hk e => by have := (unhide HLB).1; omega))
  have hl2 := unhide HLB
  have hk2 := (unhide HKN1).fr f2 (.inr (by omega))
  have HWT := hide (hk2.bks (k := 2) (xa := some ⟨g0', 16, none⟩) (by omega) rfl hg2)
  have hb2 : X2.heap[w5.heap.size]? = some (.cells #[.int .i64 0, .int .i64 4, .slice (some ⟨gb', 0, none⟩) 2 2] 24) := (f2.block _ (Array.getElem?_eq_some_iff.1 (unhide HSR).1).1 (by omega)).trans (unhide HSR).1
  have HB2 := hide hb2
  have HS := hide ((unhide HS6).on (unhide HX2))
  rw [unhide hX2]
  clear hX2 f2 hg2 hl2 hk2 hb2 HSR HBY1 HKN1 HLB
  go_wp2_with fail
  obtain ⟨Y2, hY2⟩ : ∃ z, Hid (X2.drew = z) := ⟨_, hide rfl⟩
  have bY2 : Below X2.heap.size X2 Y2 := by rw [← unhide hY2]; exact bl_drew X2
  have HS0 : Hid (Below X2.heap.size X2 Y2) := bY2
  have HSY := hide ((unhide HS).on bY2)
  have HC1 : Hid (∀ V, Below X2.heap.size X2 V → w1.heap.size < V.heap.size ∧ V.cell? ⟨w1.heap.size, 0, none⟩ = some (.int .i64 0) ∧ V.cell? ⟨w1.heap.size, 1, none⟩ = some (.int .i64 4) ∧ V.cell? ⟨w1.heap.size, 2, none⟩ = some (.slice (some ⟨gb, 0, none⟩) 2 2)) := fun V hV => ((unhide HS).on hV).box
  have HC2 : Hid (∀ V, Below X2.heap.size X2 V → w5.heap.size < V.heap.size ∧ V.cell? ⟨w5.heap.size, 0, none⟩ = some (.int .i64 0) ∧ V.cell? ⟨w5.heap.size, 1, none⟩ = some (.int .i64 4) ∧ V.cell? ⟨w5.heap.size, 2, none⟩ = some (.slice (some ⟨gb', 0, none⟩) 2 2)) := fun V hV => by
    obtain ⟨q1, _, q3⟩ := blk_cells (keepB hV (unhide HB2))
    exact ⟨q3, q1 0, q1 1, q1 2⟩
  refine wp_region_held_drew (S := fun V => Below X2.heap.size X2 V) (by kernel_rfl) (by rw [unhide hY2]; exact unhide HS0) (fun hHeld => ?_)
  clear hHeld
  rw [unhide hY2]
  clear hY2 bY2
  refine wpAnyH_take (i := 0) (oi := _) (v := .agg #[.int .i64 0, .int .i64 4, .slice (some ⟨gb, 0, none⟩) 2 2]) rfl (by kernel_rfl) (by kernel_rfl) (by kernel_rfl) (fun _ _ _ h => h) (Or.inl ⟨by rfl, (by intro w' hSw; obtain ⟨q0, q1, q2, q3⟩ := unhide HC1 w' hSw; go_simp; first | done | rfl)⟩) (unhide HS0) ?_
  go_simp
  refine wpAnyH_take (i := 2) (oi := _) (v := .agg #[.int .i64 0, .int .i64 4, .slice (some ⟨gb', 0, none⟩) 2 2]) rfl (by kernel_rfl) (by kernel_rfl) (by kernel_rfl) (fun _ _ _ h => h) (Or.inl ⟨by rfl, (by intro w' hSw; obtain ⟨q0, q1, q2, q3⟩ := unhide HC2 w' hSw; go_simp; first | done | rfl)⟩) (unhide HS0) ?_
  go_simp
  have HRN := hide (run_any (w := Y2) (fn := 0) (regs := 4) (unhide HSY).bks (kn_ok 0 (by omega)) kn_len)
  rw [kn_kep] at HRN
  refine wpAnyH_ready (rs := [1]) (by kernel_rfl) (by simp) ?_
  refine AllReadyH.cons (o := _) rfl (fun K hK => ?_) AllReadyH.nil
  go_simp
  refine (unhide HRN).mono ?_
  rintro e Y3 hA
  obtain ⟨aw, cw, Tw, rfl, q1, q2, b3, ow⟩ := hA.at
  have HS3 : Hid (Below X2.heap.size X2 Y3) := (unhide HS0).trans (b3.mono (unhide HS0).size)
  have HBW := hide (BksV.of_ow ow)
  rw [show (knL 2).length = 2 from rfl] at HBW q1 ⊢
  refine hK.out _ _ (unhide HS3) (fun _ => ?_)
  clear hK K q1 q2 b3 ow hA HRN HS0 HSY
  go_simp
  have HSR2 := hide (sameR_yes (w := Y3) (fn := 0) (regs := 4) (unhide HBW) (BksV.mv.bel (unhide HWT) (unhide HS3)) (by decide) (fun b hb => by have q := kn_ok 2 (by omega) b hb; exact ⟨q.1, q.2.1, q.2.2⟩))
  refine wpAnyH_ready (rs := [3]) (by kernel_rfl) (by simp) ?_
  refine AllReadyH.cons (o := _) rfl (fun K hK => ?_) AllReadyH.nil
  go_simp
  refine (unhide HSR2).mono ?_
  rintro e Y4 ⟨rfl, b4⟩
  have HS4 : Hid (Below X2.heap.size X2 Y4) := (unhide HS3).trans (b4.mono (unhide HS3).size)
  refine hK.out _ _ (unhide HS4) (fun _ => ?_)
  clear hK K b4
  go_simp
  refine wpAnyH_take (i := 4) (oi := _) (v := .bool true) rfl (by kernel_rfl) (by kernel_rfl) (by kernel_rfl) (fun _ _ _ h => h) (Or.inl ⟨by rfl, (by intro w' hSw; go_simp; first | done | rfl)⟩) (unhide HS4) ?_
  go_simp
  refine wpAnyH_done (by kernel_rfl) ?_ _
  go_wp2_with fail
  go_ret
  exact ⟨rfl, bl_past (unhide HS).bw (unhide HS4)⟩

set_option linter.unusedVariables false
set_option linter.unusedSimpArgs false
theorem kepC_okT {bl : List Bk} (h : ∀ b ∈ bl, OkL b) : ∀ b ∈ kepC bl, OkL b := fun b hb => by
  obtain ⟨i, hi, rfl⟩ := List.getElem_of_mem hb
  have hil : i < bl.length := by rw [kepC_len] at hi; exact hi
  have q := kepC_at (List.getElem?_eq_getElem hil)
  rw [List.getElem?_eq_getElem hi] at q
  rw [Option.some.inj q]
  obtain ⟨h2, h3, h4⟩ := h _ (List.getElem_mem hil)
  exact ⟨Nat.le_trans (kepL_len _ _) h2, h3, fun x hx => h4 x (kepL_mem hx)⟩
/-- Behind what stays, the same is wanted: as After answers. -/
theorem aft_stay {bl : List Bk} {b i : Nat} {u : Bk} {x : RIn} (hu : bl[b]? = some u) (hx : u.ins[i]? = some x) (hg : gone (wS bl b) u.ins i = false) : aft (kepC bl) (b : Int) (cntK (wS bl b) u.ins i : Int) = aft bl (b : Int) (i : Int) := by
  have hi := (List.getElem?_eq_some_iff.1 hx).1
  have hk := (List.getElem?_eq_some_iff.1 (cntK_stay hx hg).2).1
  rw [aft_yes (kepC_at hu) hk, aft_yes hu hi]
  exact congrArg regsOf (wants_stay hu hx hg)
/-- What stands while the law goes on. -/
structure TwS (w : World) (fn regs : Int) (bl : List Bk) (iv dv : Value) (db : Nat) (V : World) : Prop where
  bw : Below w.heap.size w V
  b1 : V.heap[w.heap.size]? = some (.cells #[.int .i64 fn, .int .i64 regs, iv] 24)
  b2 : V.heap[db]? = some (.cells #[.int .i64 fn, .int .i64 regs, dv] 24)
  i : BksV (fun k => k < w.heap.size) V bl iv
  d : BksV (fun _ => True) V (kepC bl) dv
  tt : TT V
section
variable {w : World} {fn regs : Int} {bl : List Bk} {iv dv : Value} {db : Nat} {V V' : World}
theorem TwS.on (h : TwS w fn regs bl iv dv db V) (f : Below V.heap.size V V') : TwS w fn regs bl iv dv db V' :=
  ⟨bl_past h.bw f, keepB f h.b1, keepB f h.b2, BksV.mv.bel h.i f, BksV.mv.bel h.d f, h.tt.below h.tt.1 f⟩
theorem TwS.c1 (h : TwS w fn regs bl iv dv db V) : w.heap.size < V.heap.size ∧ V.cell? ⟨w.heap.size, 0, none⟩ = some (.int .i64 fn) ∧ V.cell? ⟨w.heap.size, 1, none⟩ = some (.int .i64 regs) ∧ V.cell? ⟨w.heap.size, 2, none⟩ = some iv := by
  obtain ⟨q1, _, q3⟩ := blk_cells h.b1
  exact ⟨q3, q1 0, q1 1, q1 2⟩
theorem TwS.c2 (h : TwS w fn regs bl iv dv db V) : db < V.heap.size ∧ V.cell? ⟨db, 0, none⟩ = some (.int .i64 fn) ∧ V.cell? ⟨db, 1, none⟩ = some (.int .i64 regs) ∧ V.cell? ⟨db, 2, none⟩ = some dv := by
  obtain ⟨q1, _, q3⟩ := blk_cells h.b2
  exact ⟨q3, q1 0, q1 1, q1 2⟩
end
/-- A code laid into a box of its own. -/
theorem cboxG (V : World) (x y : Int) (v : Value) {X0 X : World} (h0 : V.alloc (.cells #[.int .i64 0, .int .i64 0, .slice none 0 0] 24) = X0) (h : ((X0.setCell ⟨V.heap.size, 0, none⟩ (.int .i64 x)).setCell ⟨V.heap.size, 1, none⟩ (.int .i64 y)).setCell ⟨V.heap.size, 2, none⟩ v = X) : Below V.heap.size V X ∧ X.heap[V.heap.size]? = some (.cells #[.int .i64 x, .int .i64 y, v] 24) := by
  subst h0
  have hn := heap_alloc_new V (.cells #[.int .i64 0, .int .i64 0, .slice none 0 0] 24)
  have q := setCell_block (o := 2) (setCell_block (o := 1) (setCell_block (o := 0) hn (.int .i64 x)) (.int .i64 y)) v
  rw [h] at q
  have f : Fr (fun k => k = V.heap.size) (V.alloc (.cells #[.int .i64 0, .int .i64 0, .slice none 0 0] 24)) X := by rw [← h]; exact ((Fr.setCell (S := fun q => q = V.heap.size) (Fr.refl _ _) ⟨V.heap.size, 0, none⟩ (.inr rfl) _).setCell ⟨V.heap.size, 1, none⟩ (.inr rfl) _).setCell ⟨V.heap.size, 2, none⟩ (.inr rfl) _
  refine ⟨(box1n V _).trans (f.below (by simp) (fun k hk e => by omega)), ?_⟩
  rw [q]
  rfl
set_option maxRecDepth 100000 in
set_option maxHeartbeats 25600000 in
theorem twiceLaw {w : World} {fn regs : Int} {bl : List Bk} {v : Value} (h : BksV (fun k => k < w.heap.size) w bl v) (hO : ∀ b ∈ bl, OkL b) (hN : bl.length ≤ 1048576) (hT : TT w) :
    Calls Tryd.prog 6 #[.agg #[.int .i64 fn, .int .i64 regs, v]] w fun e w' => e = .returned (.bool true) ∧ Below w.heap.size w w' := by
  obtain ⟨a, c, rfl, ha1, ha2⟩ := NV.shape h
  obtain ⟨L, hL⟩ : ∃ L, Hid (bl.length = L) := ⟨_, hide rfl⟩
  rw [unhide hL] at h hN ha1 ⊢
  have HO := hide hO
  have HOK : Hid (∀ b ∈ kepC bl, OkL b) := kepC_okT hO
  have HKL : Hid ((kepC bl).length = L) := by unfold Hid; rw [kepC_len, unhide hL]
  obtain ⟨W, hW0⟩ : ∃ W0, Hid (w.alloc (.cells #[.int .i64 fn, .int .i64 regs, .slice a L c] 24) = W0) := ⟨_, hide rfl⟩
  have HWb : Hid (Below w.heap.size w W) := by rw [← unhide hW0]; exact box1n w _
  have hbx := heap_alloc_new w (.cells #[.int .i64 fn, .int .i64 regs, .slice a L c] 24)
  rw [unhide hW0] at hbx
  have HBX := hide hbx
  have HI := hide (BksV.mv.bel h (unhide HWb))
  have HT := hide (hT.below hT.1 (unhide HWb))
  have hW0' := unhide hW0
  have HRU := hide (run_any (fn := fn) (regs := regs) (unhide HI) (unhide HO) (by rw [unhide hL]; exact hN))
  unfold maxLen at ha2
  have x0 := (blk_cells hbx).1 0
  have x1 := (blk_cells hbx).1 1
  have x2 := (blk_cells hbx).1 2
  have xl := (blk_cells hbx).2.2
  simp at x0 x1 x2
  clear h hO hT hbx
  go_enter Tryd.func6, Tryd.ntmps6
  go_wp2_with fail
  clear x0 x1 x2 xl hW0' hW0
  refine (unhide HRU).mono ?_
  rintro e W1 hA
  obtain ⟨da, dc, Td, rfl, hd1, hd2, b1, od⟩ := hA.at
  rw [unhide HKL] at hd1 od ⊢
  obtain ⟨X0, hX0⟩ : ∃ z, Hid (W1.alloc (.cells #[.int .i64 0, .int .i64 0, .slice none 0 0] 24) = z) := ⟨_, hide rfl⟩
  have hn := heap_alloc_new W1 (.cells #[.int .i64 0, .int .i64 0, .slice none 0 0] 24)
  rw [unhide hX0] at hn
  have x0 := (blk_cells hn).1 0
  have x1 := (blk_cells hn).1 1
  have x2 := (blk_cells hn).1 2
  have y0 := (blk_cells hn).2.1 0
  have y1 := (blk_cells hn).2.1 1
  have y2 := (blk_cells hn).2.1 2
  have yl := (blk_cells hn).2.2
  simp at x0 x1 x2
  obtain ⟨X, hX⟩ : ∃ z, Hid (((X0.setCell ⟨W1.heap.size, 0, none⟩ (.int .i64 fn)).setCell ⟨W1.heap.size, 1, none⟩ (.int .i64 regs)).setCell ⟨W1.heap.size, 2, none⟩ (.slice da L dc) = z) := ⟨_, hide rfl⟩
  have hcb := cboxG W1 fn regs (.slice da L dc) (X0 := X0) (X := X) (unhide hX0) (unhide hX)
  have hbel : Below W1.heap.size W1 X := hcb.1
  have HS : Hid (TwS w fn regs bl (.slice a L c) (.slice da L dc) W1.heap.size X) := ⟨bl_past (bl_past (unhide HWb) b1) hbel, keepB hbel (keepB b1 (unhide HBX)), hcb.2, BksV.mv.bel (BksV.mv.bel (unhide HI) b1) hbel, BksV.mv.bel (BksV.of_ow od) hbel, ((unhide HT).below (unhide HT).1 b1).below ((unhide HT).below (unhide HT).1 b1).1 hbel⟩
  have hX0' := unhide hX0
  have hX' := unhide hX
  clear hn hcb hbel od b1 hA HRU HI HT HBX HWb
  go_wp2_with fail
  clear hX0' hX0 hX' hX x0 x1 x2 y0 y1 y2 yl
  obtain ⟨db, hdb⟩ : ∃ z, Hid (W1.heap.size = z) := ⟨_, hide rfl⟩
  rw [unhide hdb] at HS ⊢
  clear hdb
  obtain ⟨Y2, hY2⟩ : ∃ z, Hid (X.drew = z) := ⟨_, hide rfl⟩
  have HS0 : Hid (Below X.heap.size X Y2) := by rw [← unhide hY2]; exact bl_drew X
  have HC1 : Hid (∀ V, Below X.heap.size X V → w.heap.size < V.heap.size ∧ V.cell? ⟨w.heap.size, 0, none⟩ = some (.int .i64 fn) ∧ V.cell? ⟨w.heap.size, 1, none⟩ = some (.int .i64 regs) ∧ V.cell? ⟨w.heap.size, 2, none⟩ = some (.slice a L c)) := fun V hV => ((unhide HS).on hV).c1
  have HC2 : Hid (∀ V, Below X.heap.size X V → db < V.heap.size ∧ V.cell? ⟨db, 0, none⟩ = some (.int .i64 fn) ∧ V.cell? ⟨db, 1, none⟩ = some (.int .i64 regs) ∧ V.cell? ⟨db, 2, none⟩ = some (.slice da L dc)) := fun V hV => ((unhide HS).on hV).c2
  have HRN := hide (run_any (w := Y2) (fn := fn) (regs := regs) ((unhide HS).on (unhide HS0)).d (unhide HOK) (by rw [unhide HKL]; exact hN))
  rw [kepC_kep] at HRN
  refine wp_region_held_drew (S := fun V => Below X.heap.size X V) (by kernel_rfl) (by rw [unhide hY2]; exact unhide HS0) (fun hHeld => ?_)
  clear hHeld
  rw [unhide hY2]
  clear hY2
  refine wpAnyH_take (i := 0) (oi := _) (v := .agg #[.int .i64 fn, .int .i64 regs, .slice da L dc]) rfl (by kernel_rfl) (by kernel_rfl) (by kernel_rfl) (fun _ _ _ h => h) (Or.inl ⟨by rfl, (by intro w' hSw; obtain ⟨q0, q1, q2, q3⟩ := unhide HC2 w' hSw; go_simp; first | done | rfl)⟩) (unhide HS0) ?_
  go_simp
  refine wpAnyH_take (i := 2) (oi := _) (v := .agg #[.int .i64 fn, .int .i64 regs, .slice da L dc]) rfl (by kernel_rfl) (by kernel_rfl) (by kernel_rfl) (fun _ _ _ h => h) (Or.inl ⟨by rfl, (by intro w' hSw; obtain ⟨q0, q1, q2, q3⟩ := unhide HC2 w' hSw; go_simp; first | done | rfl)⟩) (unhide HS0) ?_
  go_simp
  refine wpAnyH_ready (rs := [1]) (by kernel_rfl) (by simp) ?_
  refine AllReadyH.cons (o := _) rfl (fun K hK => ?_) AllReadyH.nil
  go_simp
  refine (unhide HRN).mono ?_
  rintro e Y3 hA
  obtain ⟨aw, cw, Tw, rfl, q1, q2, b3, ow⟩ := hA.at
  have HS3 : Hid (Below X.heap.size X Y3) := (unhide HS0).trans (b3.mono (unhide HS0).size)
  have HBW := hide (BksV.of_ow ow)
  rw [unhide HKL] at HBW q1 ⊢
  clear q1 q2 b3 ow hA HRN HS0
  refine hK.out _ _ (unhide HS3) (fun _ => ?_)
  clear hK K
  go_simp
  have HSR2 := hide (sameR_yes (w := Y3) (fn := fn) (regs := regs) (unhide HBW) ((unhide HS).on (unhide HS3)).d (by rw [unhide HKL]; exact hN) (fun b hb => by have q := unhide HOK b hb; exact ⟨q.1, q.2.1, q.2.2⟩))
  refine wpAnyH_ready (rs := [3]) (by kernel_rfl) (by simp) ?_
  refine AllReadyH.cons (o := _) rfl (fun K hK => ?_) AllReadyH.nil
  go_simp
  refine (unhide HSR2).mono ?_
  rintro e Y4 ⟨rfl, b4⟩
  have HS4 : Hid (Below X.heap.size X Y4) := (unhide HS3).trans (b4.mono (unhide HS3).size)
  clear b4 HSR2 HBW
  refine hK.out _ _ (unhide HS4) (fun _ => ?_)
  clear hK K
  go_simp
  refine wpAnyH_take (i := 4) (oi := _) (v := .bool false) rfl (by kernel_rfl) (by kernel_rfl) (by kernel_rfl) (fun _ _ _ h => h) (Or.inl ⟨by rfl, (by intro w' hSw; go_simp; first | done | rfl)⟩) (unhide HS4) ?_
  go_simp
  refine wpAnyH_take (i := 5) (oi := _) (v := .bool false) rfl (by kernel_rfl) (by kernel_rfl) (by kernel_rfl) (fun _ _ _ h => h) (Or.inl ⟨by rfl, (by intro w' hSw; go_simp; first | done | rfl)⟩) (unhide HS4) ?_
  go_simp
  refine wpAnyH_take (i := 6) (oi := _) (v := .pointer (some ⟨db, 2, none⟩)) rfl (by kernel_rfl) (by kernel_rfl) (by kernel_rfl) (fun _ _ _ h => h) (Or.inl ⟨by rfl, (by intro w' hSw; go_simp; first | done | rfl)⟩) (unhide HS4) ?_
  go_simp
  refine wpAnyH_take (i := 7) (oi := _) (v := .slice da L dc) rfl (by kernel_rfl) (by kernel_rfl) (by kernel_rfl) (fun _ _ _ h => h) (Or.inl ⟨by rfl, (by intro w' hSw; obtain ⟨q0, q1, q2, q3⟩ := unhide HC2 w' hSw; go_simp; first | done | rfl)⟩) (unhide HS4) ?_
  go_simp
  refine wpAnyH_take (i := 8) (oi := _) (v := .int .i64 (L : Int)) rfl (by kernel_rfl) (by kernel_rfl) (by kernel_rfl) (fun _ _ _ h => h) (Or.inl ⟨by rfl, (by intro w' hSw; go_simp; first | done | rfl)⟩) (unhide HS4) ?_
  go_simp
  refine wpAnyH_take (i := 9) (oi := _) (v := .pointer (some ⟨w.heap.size, 2, none⟩)) rfl (by kernel_rfl) (by kernel_rfl) (by kernel_rfl) (fun _ _ _ h => h) (Or.inl ⟨by rfl, (by intro w' hSw; go_simp; first | done | rfl)⟩) (unhide HS4) ?_
  go_simp
  refine wpAnyH_take (i := 10) (oi := _) (v := .slice a L c) rfl (by kernel_rfl) (by kernel_rfl) (by kernel_rfl) (fun _ _ _ h => h) (Or.inl ⟨by rfl, (by intro w' hSw; obtain ⟨q0, q1, q2, q3⟩ := unhide HC1 w' hSw; go_simp; first | done | rfl)⟩) (unhide HS4) ?_
  go_simp
  refine wpAnyH_take (i := 11) (oi := _) (v := .int .i64 (L : Int)) rfl (by kernel_rfl) (by kernel_rfl) (by kernel_rfl) (fun _ _ _ h => h) (Or.inl ⟨by rfl, (by intro w' hSw; go_simp; first | done | rfl)⟩) (unhide HS4) ?_
  go_simp
  refine wpAnyH_take (i := 12) (oi := _) (v := .bool false) rfl (by kernel_rfl) (by kernel_rfl) (by kernel_rfl) (fun _ _ _ h => h) (Or.inl ⟨by rfl, (by intro w' hSw; go_simp; first | done | rfl)⟩) (unhide HS4) ?_
  go_simp
  refine wpAnyH_take (i := 13) (oi := _) (v := .bool false) rfl (by kernel_rfl) (by kernel_rfl) (by kernel_rfl) (fun _ _ _ h => h) (Or.inl ⟨by rfl, (by intro w' hSw; go_simp; first | done | rfl)⟩) (unhide HS4) ?_
  go_simp
  refine wpAnyH_done (by kernel_rfl) ?_ _
  have HSL := hide ((unhide HS).on (unhide HS4))
  go_wp2_with fail
  clear HS HS3 HS4 HC1 HC2
  go_loopg [4] L (fun gg t4 wr => ∃ b : Nat, Hid (b + gg = L) ∧ t4 = .int .i64 (b : Int) ∧ Hid (TwS w fn regs bl (.slice a L c) (.slice da L dc) db wr))
  case atStart => exact ⟨0, by unfold Hid; omega, rfl, HSL⟩
  case round =>
    clear HSL
    obtain ⟨b, hb, rfl, hG⟩ := hrel
    obtain ⟨e0, e1, e2, e3⟩ := (unhide hG).c1
    by_cases hlt : b < L
    · have b0 : (0 : Int) ≤ (b : Int) := by omega
      have b1 : (b : Int) < (L : Int) := by omega
      obtain ⟨u, hu⟩ : ∃ u, bl[b]? = some u := ⟨_, List.getElem?_eq_getElem (by rw [unhide hL]; exact hlt)⟩
      have hku := kepC_at hu
      obtain ⟨vb, vo, ia, ic, na, nc, ea, hvb, hIns, hNx, hic, hnc, hicl, hncl, hcc⟩ := (unhide hG).i.blk hu
      obtain ⟨xb, xo, ka, kc, ma, mc, ex, hxb, hKns, hMx, hkc, hmc, hkcl, hmcl, hcd⟩ := (unhide hG).d.blk hku
      subst ea ex
      simp only at hKns hMx hkcl hmcl hcd
      have HTK := hide (fun V (hV : Below wr.heap.size wr V) => taken_any (w := V) (r := ⟨u.pc, .slice ia u.ins.length ic, .slice na u.nx.length nc⟩) (q := ⟨u.pc, .slice ka (kepL (wS bl b) u.ins).length kc, .slice ma u.nx.length mc⟩) (BkP.mv _ _ _ _ _ _ _ (show BkP (fun k => k < w.heap.size) wr u _ from ⟨rfl, hIns, hNx⟩) (Fr.of_below (S := fun _ => False) hV) (fun k hk d => ⟨fun e => e, d⟩)) (BkP.mv _ _ _ _ _ _ _ (show BkP (fun _ => True) wr ⟨u.pc, kepL (wS bl b) u.ins, u.nx⟩ _ from ⟨rfl, hKns, hMx⟩) (Fr.of_below (S := fun _ => False) hV) (fun k hk d => ⟨fun e => e, d⟩)) (unhide HO u (List.mem_of_getElem? hu)))
      obtain ⟨n, hnn⟩ : ∃ z, Hid (u.ins.length = z) := ⟨_, hide rfl⟩
      obtain ⟨M, hM⟩ : ∃ z, Hid ((kepL (wS bl b) u.ins).length = z) := ⟨_, hide rfl⟩
      obtain ⟨NL, hNL⟩ : ∃ z, Hid (u.nx.length = z) := ⟨_, hide rfl⟩
      have hn8 : n ≤ 1048576 := by rw [← unhide hnn]; exact (unhide HO u (List.mem_of_getElem? hu)).1
      unfold bkV at HTK
      dsimp only at HTK
      rw [unhide hnn, unhide hNL] at HTK hcc
      rw [unhide hM] at HTK hcd
      rw [unhide hNL] at hcd
      have HU := hide hu
      have HC1 : Hid (∀ V, Below wr.heap.size wr V → w.heap.size < V.heap.size ∧ V.cell? ⟨w.heap.size, 0, none⟩ = some (.int .i64 fn) ∧ V.cell? ⟨w.heap.size, 1, none⟩ = some (.int .i64 regs) ∧ V.cell? ⟨w.heap.size, 2, none⟩ = some (.slice (some ⟨vb, vo, none⟩) L c)) := fun V hV => ((unhide hG).on hV).c1
      have HC2 : Hid (∀ V, Below wr.heap.size wr V → db < V.heap.size ∧ V.cell? ⟨db, 0, none⟩ = some (.int .i64 fn) ∧ V.cell? ⟨db, 1, none⟩ = some (.int .i64 regs) ∧ V.cell? ⟨db, 2, none⟩ = some (.slice (some ⟨xb, xo, none⟩) L dc)) := fun V hV => ((unhide hG).on hV).c2
      have HBC := hide hcc
      have HBD := hide hcd
      clear hu hku hIns hNx hKns hMx hcc hcd
      go_wp2_with fail
      clear e0 e1 e2 e3
      obtain ⟨Y2, hY2⟩ : ∃ z, Hid (wr.drew = z) := ⟨_, hide rfl⟩
      have HS0 : Hid (Below wr.heap.size wr Y2) := by rw [← unhide hY2]; exact bl_drew wr
      have HTK2 := hide (unhide HTK Y2 (unhide HS0))
      clear HTK
      have HTK := HTK2
      clear HTK2
      refine wp_region_held_drew (S := fun V => Below wr.heap.size wr V) (by kernel_rfl) (by rw [unhide hY2]; exact unhide HS0) (fun hHeld => ?_)
      clear hHeld
      rw [unhide hY2]
      clear hY2
      refine wpAnyH_take (i := 0) (oi := _) (v := .pointer (some ⟨w.heap.size, 2, none⟩)) rfl (by kernel_rfl) (by kernel_rfl) (by kernel_rfl) (fun _ _ _ h => h) (Or.inl ⟨by rfl, (by intro w' hSw; go_simp; first | done | rfl)⟩) (unhide HS0) ?_
      go_simp
      refine wpAnyH_take (i := 1) (oi := _) (v := .slice (some ⟨vb, vo, none⟩) L c) rfl (by kernel_rfl) (by kernel_rfl) (by kernel_rfl) (fun _ _ _ h => h) (Or.inl ⟨by rfl, (by intro w' hSw; obtain ⟨q0, q1, q2, q3⟩ := unhide HC1 w' hSw; go_simp; first | done | rfl)⟩) (unhide HS0) ?_
      go_simp
      refine wpAnyH_take (i := 2) (oi := _) (v := .int .i64 (b : Int)) rfl (by kernel_rfl) (by kernel_rfl) (by kernel_rfl) (fun _ _ _ h => h) (Or.inl ⟨by rfl, (by intro w' hSw; go_simp; first | done | rfl)⟩) (unhide HS0) ?_
      go_simp
      refine wpAnyH_take (i := 3) (oi := _) (v := .pointer (some ⟨vb, vo + b * 3, none⟩)) rfl (by kernel_rfl) (by kernel_rfl) (by kernel_rfl) (fun _ _ _ h => h) (Or.inl ⟨by rfl, (by intro w' hSw; go_simp; first | done | rfl)⟩) (unhide HS0) ?_
      go_simp
      refine wpAnyH_take (i := 4) (oi := _) (v := .agg #[.int .i64 u.pc, .slice ia n ic, .slice na NL nc]) rfl (by kernel_rfl) (by kernel_rfl) (by kernel_rfl) (fun _ _ _ h => h) (Or.inl ⟨by rfl, (by intro w' hSw; obtain ⟨m0, m1, m2, m3⟩ := unhide HBC w' hSw; go_simp; first | done | rfl)⟩) (unhide HS0) ?_
      go_simp
      refine wpAnyH_take (i := 5) (oi := _) (v := .pointer (some ⟨db, 2, none⟩)) rfl (by kernel_rfl) (by kernel_rfl) (by kernel_rfl) (fun _ _ _ h => h) (Or.inl ⟨by rfl, (by intro w' hSw; go_simp; first | done | rfl)⟩) (unhide HS0) ?_
      go_simp
      refine wpAnyH_take (i := 6) (oi := _) (v := .slice (some ⟨xb, xo, none⟩) L dc) rfl (by kernel_rfl) (by kernel_rfl) (by kernel_rfl) (fun _ _ _ h => h) (Or.inl ⟨by rfl, (by intro w' hSw; obtain ⟨q0, q1, q2, q3⟩ := unhide HC2 w' hSw; go_simp; first | done | rfl)⟩) (unhide HS0) ?_
      go_simp
      refine wpAnyH_take (i := 7) (oi := _) (v := .int .i64 (b : Int)) rfl (by kernel_rfl) (by kernel_rfl) (by kernel_rfl) (fun _ _ _ h => h) (Or.inl ⟨by rfl, (by intro w' hSw; go_simp; first | done | rfl)⟩) (unhide HS0) ?_
      go_simp
      refine wpAnyH_take (i := 8) (oi := _) (v := .pointer (some ⟨xb, xo + b * 3, none⟩)) rfl (by kernel_rfl) (by kernel_rfl) (by kernel_rfl) (fun _ _ _ h => h) (Or.inl ⟨by rfl, (by intro w' hSw; go_simp; first | done | rfl)⟩) (unhide HS0) ?_
      go_simp
      refine wpAnyH_take (i := 9) (oi := _) (v := .agg #[.int .i64 u.pc, .slice ka M kc, .slice ma NL mc]) rfl (by kernel_rfl) (by kernel_rfl) (by kernel_rfl) (fun _ _ _ h => h) (Or.inl ⟨by rfl, (by intro w' hSw; obtain ⟨m0, m1, m2, m3⟩ := unhide HBD w' hSw; go_simp; first | done | rfl)⟩) (unhide HS0) ?_
      go_simp
      refine wpAnyH_ready (rs := [10]) (by kernel_rfl) (by simp) ?_
      refine AllReadyH.cons (o := _) rfl (fun K hK => ?_) AllReadyH.nil
      go_simp
      refine (unhide HTK).mono ?_
      rintro e Y3 hA
      obtain ⟨g, rfl, b3, hg, hro⟩ := hA
      have HS3 : Hid (Below wr.heap.size wr Y3) := (unhide HS0).trans (b3.mono (unhide HS0).size)
      rw [unhide hnn] at hro ⊢
      have HRO := hide hro
      clear b3 hg hro HTK HS0
      refine hK.out _ _ (unhide HS3) (fun _ => ?_)
      clear hK K
      go_simp
      refine wpAnyH_take (i := 11) (oi := _) (v := .tuple #[.slice (some ⟨g, 0, none⟩) n n, .bool true]) rfl (by kernel_rfl) (by kernel_rfl) (by kernel_rfl) (fun _ _ _ h => h) (Or.inl ⟨by rfl, (by intro w' hSw; go_simp; first | done | rfl)⟩) (unhide HS3) ?_
      go_simp
      refine wpAnyH_take (i := 12) (oi := _) (v := .slice (some ⟨g, 0, none⟩) n n) rfl (by kernel_rfl) (by kernel_rfl) (by kernel_rfl) (fun _ _ _ h => h) (Or.inl ⟨by rfl, (by intro w' hSw; go_simp; first | done | rfl)⟩) (unhide HS3) ?_
      go_simp
      refine wpAnyH_take (i := 13) (oi := _) (v := .bool true) rfl (by kernel_rfl) (by kernel_rfl) (by kernel_rfl) (fun _ _ _ h => h) (Or.inl ⟨by rfl, (by intro w' hSw; go_simp; first | done | rfl)⟩) (unhide HS3) ?_
      go_simp
      refine wpAnyH_take (i := 14) (oi := _) (v := .slice (some ⟨g, 0, none⟩) n n) rfl (by kernel_rfl) (by kernel_rfl) (by kernel_rfl) (fun _ _ _ h => h) (Or.inl ⟨by rfl, (by intro w' hSw; go_simp; first | done | rfl)⟩) (unhide HS3) ?_
      go_simp
      refine wpAnyH_take (i := 15) (oi := _) (v := .bool true) rfl (by kernel_rfl) (by kernel_rfl) (by kernel_rfl) (fun _ _ _ h => h) (Or.inl ⟨by rfl, (by intro w' hSw; go_simp; first | done | rfl)⟩) (unhide HS3) ?_
      go_simp
      refine wpAnyH_done (by kernel_rfl) ?_ _
      have HG3 := hide ((unhide hG).on (unhide HS3))
      clear HC1 HC2 HBC HBD hG HS3
      obtain ⟨RR, hRR⟩ : ∃ z, Hid (wS bl b = z) := ⟨_, hide rfl⟩
      rw [unhide hRR] at HRO
      obtain ⟨WO, hWO⟩ : ∃ z, z = wr := ⟨_, rfl⟩
      clear hWO
      go_wp2_with fail
      go_loopg [8, 7] n (fun gg t8 t7 wr => ∃ (i K : Nat), Hid (i + gg = n ∧ cntK RR u.ins i = K) ∧ t8 = .int .i64 (i : Int) ∧ t7 = .int .i64 (K : Int) ∧ Hid (TwS w fn regs bl (.slice (some ⟨vb, vo, none⟩) L c) (.slice (some ⟨xb, xo, none⟩) L dc) db wr ∧ Ro wr 1 (.slice (some ⟨g, 0, none⟩) n n) n (flt enBo (rowG RR u.ins 0))))
      case atStart => exact ⟨0, 0, ⟨by omega, cntK_zero _ _⟩, rfl, rfl, unhide HG3, unhide HRO⟩
      case round =>
        clear HG3 HRO
        obtain ⟨i, k, hi, rfl, rfl, hJ⟩ := hrel
        by_cases hin : i < n
        · have i0 : (0 : Int) ≤ (i : Int) := by omega
          have i1 : (i : Int) < (n : Int) := by omega
          have hil : i < u.ins.length := by rw [unhide hnn]; exact hin
          obtain ⟨x, hx⟩ : ∃ x, u.ins[i]? = some x := ⟨_, List.getElem?_eq_getElem hil⟩
          obtain ⟨gg, goff, gcap, eg, _, _, hgb, hgc⟩ := (unhide hJ).2.full (by omega)
          cases eg
          have hrc := hgc i (by omega)
          have hrv : (flt enBo (rowG RR u.ins 0))[i]? = some (.bool (gone RR u.ins i)) := by
            have q := flt_at zBo (rowG_at RR u.ins 0 hil) 0 (by omega)
            simpa [enBo] using q
          rw [hrv, Nat.zero_add] at hrc
          have HX := hide hx
          clear hgc hrv hx
          cases hg : gone RR u.ins i with
          | true =>
            rw [hg] at hrc
            have hcg := cntK_gone (unhide HX) hg
            have HK2 : Hid (i + 1 + (gk - 1) = n ∧ cntK RR u.ins (i + 1) = k) := by have q := unhide hi; exact ⟨by omega, by rw [hcg]; exact q.2⟩
            clear hg hcg
            go_wp2_with fail
            go_roundg (gk - 1)
            case measure => have := (unhide hi).1; omega
            case rel => exact ⟨i + 1, k, HK2, by go_num, rfl, hJ⟩
          | false =>
            rw [hg] at hrc
            have hcs := cntK_stay (unhide HX) hg
            have HK2 : Hid (i + 1 + (gk - 1) = n ∧ cntK RR u.ins (i + 1) = k + 1) := by have q := unhide hi; exact ⟨by omega, by rw [hcs.1, q.2]⟩
            have hkn : k ≤ 1048576 := by have q := (List.getElem?_eq_some_iff.1 hcs.2).1; have q2 := (unhide hi).2; have q3 := kepL_len RR u.ins; rw [unhide hnn] at q3; omega
            obtain ⟨AL, hAL⟩ : ∃ AL, Hid (aft bl (b : Int) (i : Int) = AL) := ⟨_, hide rfl⟩
            have hA2 : aft (kepC bl) (b : Int) (k : Int) = AL := by
              have q := aft_stay (unhide HU) (unhide HX) (by rw [unhide hRR]; exact hg)
              rw [unhide hRR, (unhide hi).2] at q
              rw [q, unhide hAL]
            obtain ⟨AN, hAN⟩ : ∃ AN, Hid (AL.length = AN) := ⟨_, hide rfl⟩
            have hAN5 : AL.length ≤ 512 := by rw [← unhide hAL]; exact aft_len _ _ _
            obtain ⟨Y2, hY2⟩ : ∃ z, Hid (wr.drew = z) := ⟨_, hide rfl⟩
            have HS0 : Hid (Below wr.heap.size wr Y2) := by rw [← unhide hY2]; exact bl_drew wr
            have HC1 : Hid (∀ V, Below wr.heap.size wr V → w.heap.size < V.heap.size ∧ V.cell? ⟨w.heap.size, 0, none⟩ = some (.int .i64 fn) ∧ V.cell? ⟨w.heap.size, 1, none⟩ = some (.int .i64 regs) ∧ V.cell? ⟨w.heap.size, 2, none⟩ = some (.slice (some ⟨vb, vo, none⟩) L c)) := fun V hV => ((unhide hJ).1.on hV).c1
            have HC2 : Hid (∀ V, Below wr.heap.size wr V → db < V.heap.size ∧ V.cell? ⟨db, 0, none⟩ = some (.int .i64 fn) ∧ V.cell? ⟨db, 1, none⟩ = some (.int .i64 regs) ∧ V.cell? ⟨db, 2, none⟩ = some (.slice (some ⟨xb, xo, none⟩) L dc)) := fun V hV => ((unhide hJ).1.on hV).c2
            have HA1 := hide (after_any (w := Y2) (fn := fn) (regs := regs) ((unhide hJ).1.on (unhide HS0)).i (by rw [unhide hL]; exact hN) (unhide HO) ((unhide hJ).1.on (unhide HS0)).tt (b : Int) (i : Int))
            rw [unhide hAL] at HA1
            have HAD : Hid (∀ V, Below wr.heap.size wr V → Calls Tryd.prog 9 #[.agg #[.int .i64 fn, .int .i64 regs, .slice (some ⟨xb, xo, none⟩) L dc], .int .i64 (b : Int), .int .i64 (k : Int)] V (NP V AL)) := fun V hV => by
              have q := after_any (w := V) (fn := fn) (regs := regs) ((unhide hJ).1.on hV).d (by rw [unhide HKL]; exact hN) (unhide HOK) ((unhide hJ).1.on hV).tt (b : Int) (k : Int)
              rw [hA2] at q
              exact q
            clear hg hcs hA2
            go_wp2_with fail
            refine wp_region_held_drew (S := fun V => Below wr.heap.size wr V) (by kernel_rfl) (by rw [unhide hY2]; exact unhide HS0) (fun hHeld => ?_)
            clear hHeld
            rw [unhide hY2]
            clear hY2 hrc hgb
            refine wpAnyH_take (i := 0) (oi := _) (v := .agg #[.int .i64 fn, .int .i64 regs, .slice (some ⟨vb, vo, none⟩) L c]) rfl (by kernel_rfl) (by kernel_rfl) (by kernel_rfl) (fun _ _ _ h => h) (Or.inl ⟨by rfl, (by intro w' hSw; obtain ⟨q0, q1, q2, q3⟩ := unhide HC1 w' hSw; go_simp; first | done | rfl)⟩) (unhide HS0) ?_
            go_simp
            refine wpAnyH_take (i := 1) (oi := _) (v := .int .i64 (b : Int)) rfl (by kernel_rfl) (by kernel_rfl) (by kernel_rfl) (fun _ _ _ h => h) (Or.inl ⟨by rfl, (by intro w' hSw; go_simp; first | done | rfl)⟩) (unhide HS0) ?_
            go_simp
            refine wpAnyH_take (i := 2) (oi := _) (v := .int .i64 (i : Int)) rfl (by kernel_rfl) (by kernel_rfl) (by kernel_rfl) (fun _ _ _ h => h) (Or.inl ⟨by rfl, (by intro w' hSw; go_simp; first | done | rfl)⟩) (unhide HS0) ?_
            go_simp
            refine wpAnyH_take (i := 4) (oi := _) (v := .agg #[.int .i64 fn, .int .i64 regs, .slice (some ⟨xb, xo, none⟩) L dc]) rfl (by kernel_rfl) (by kernel_rfl) (by kernel_rfl) (fun _ _ _ h => h) (Or.inl ⟨by rfl, (by intro w' hSw; obtain ⟨q0, q1, q2, q3⟩ := unhide HC2 w' hSw; go_simp; first | done | rfl)⟩) (unhide HS0) ?_
            go_simp
            refine wpAnyH_take (i := 5) (oi := _) (v := .int .i64 (b : Int)) rfl (by kernel_rfl) (by kernel_rfl) (by kernel_rfl) (fun _ _ _ h => h) (Or.inl ⟨by rfl, (by intro w' hSw; go_simp; first | done | rfl)⟩) (unhide HS0) ?_
            go_simp
            refine wpAnyH_take (i := 6) (oi := _) (v := .int .i64 (k : Int)) rfl (by kernel_rfl) (by kernel_rfl) (by kernel_rfl) (fun _ _ _ h => h) (Or.inl ⟨by rfl, (by intro w' hSw; go_simp; first | done | rfl)⟩) (unhide HS0) ?_
            go_simp
            refine wpAnyH_ready (rs := [3]) (by kernel_rfl) (by simp) ?_
            refine AllReadyH.cons (o := _) rfl (fun K hK => ?_) AllReadyH.nil
            go_simp
            refine (unhide HA1).mono ?_
            rintro e Y3 ⟨ya, yc, rfl, hy⟩
            have HS3 : Hid (Below wr.heap.size wr Y3) := (unhide HS0).trans (hy.bel.mono (unhide HS0).size)
            have HY := hide hy
            rw [unhide hAN] at HY ⊢
            have HA2 := hide (unhide HAD Y3 (unhide HS3))
            clear hy HA1 HS0
            refine hK.out _ _ (unhide HS3) (fun _ => ?_)
            clear hK K
            go_simp
            refine wpAnyH_ready (rs := [7]) (by kernel_rfl) (by simp) ?_
            refine AllReadyH.cons (o := _) rfl (fun K hK => ?_) AllReadyH.nil
            go_simp
            refine (unhide HA2).mono ?_
            rintro e Y4 ⟨xa, xc, rfl, hx⟩
            have HS4 : Hid (Below wr.heap.size wr Y4) := (unhide HS3).trans (hx.bel.mono (unhide HS3).size)
            have HSN := hide (sameN_yes (l := AL) ((unhide HY).on hx.bel).row hx.row (by omega))
            rw [unhide hAN] at HSN ⊢
            clear hx HY HA2 HS3
            refine hK.out _ _ (unhide HS4) (fun _ => ?_)
            clear hK K
            go_simp
            refine wpAnyH_ready (rs := [8]) (by kernel_rfl) (by simp) ?_
            refine AllReadyH.cons (o := _) rfl (fun K hK => ?_) AllReadyH.nil
            go_simp
            refine (unhide HSN).mono ?_
            rintro e Y5 ⟨rfl, b5⟩
            have HS5 : Hid (Below wr.heap.size wr Y5) := (unhide HS4).trans (b5.mono (unhide HS4).size)
            clear b5 HSN HS4
            refine hK.out _ _ (unhide HS5) (fun _ => ?_)
            clear hK K
            go_simp
            refine wpAnyH_take (i := 9) (oi := _) (v := .bool false) rfl (by kernel_rfl) (by kernel_rfl) (by kernel_rfl) (fun _ _ _ h => h) (Or.inl ⟨by rfl, (by intro w' hSw; go_simp; first | done | rfl)⟩) (unhide HS5) ?_
            go_simp
            refine wpAnyH_done (by kernel_rfl) ?_ _
            have HJ5 : Hid (TwS w fn regs bl (.slice (some ⟨vb, vo, none⟩) L c) (.slice (some ⟨xb, xo, none⟩) L dc) db Y5 ∧ Ro Y5 1 (.slice (some ⟨g, 0, none⟩) n n) n (flt enBo (rowG RR u.ins 0))) := ⟨(unhide hJ).1.on (unhide HS5), (unhide hJ).2.fr (Fr.of_below (S := fun _ => False) (unhide HS5)) (fun _ _ e => e)⟩
            clear HC1 HC2 HS5 hJ HAD
            go_wp2_with fail
            go_roundg (gk - 1)
            case measure => have := (unhide hi).1; omega
            case rel => exact ⟨i + 1, k + 1, HK2, by go_num, by go_num, HJ5⟩
        · have i1 : ¬ (i : Int) < (n : Int) := by omega
          have HJ5 := hide (unhide hJ).1
          clear hJ
          go_wp2_with fail
          go_roundg (L - (b + 1))
          case measure => have := unhide hb; omega
          case rel => exact ⟨b + 1, by have := unhide hb; unfold Hid; omega, by go_num, HJ5⟩
    · have hbL : L = b := by have := unhide hb; omega
      have b1 : ¬ (b : Int) < (L : Int) := by omega
      have HSH := hide (shown_any (unhide hG).tt)
      have HBW := hide (unhide hG).bw
      clear hbL hG
      go_wp2_with fail
      refine (unhide HSH).mono ?_
      rintro e Z ⟨rfl, bz⟩
      have HZ := hide (bl_past (unhide HBW) bz)
      clear bz
      go_wp2_with fail
      go_ret
      exact ⟨rfl, unhide HZ⟩
end Go.Proofs.YtpbdmbmafjkinaaDoor
