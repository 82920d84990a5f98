/-
  Numbers: what the methods of a number answer (2).
-/
import Derived.Test.YtncmegafkccblaaMt0
namespace Go.Proofs.Ytncmegafkccblaa
open Go.RowKit
set_option linter.unusedVariables false
set_option linter.unusedSimpArgs false

/-- Two boxes and a third, as they were made. -/
structure Bx (w : World) (a1 a2 a3 : Array Value) (W : World) : Prop where
  h1 : W.heap[w.heap.size]? = some (.cells a1 59)
  h2 : W.heap[w.heap.size + 1]? = some (.cells a2 59)
  h3 : W.heap[w.heap.size + 1 + 1]? = some (.cells a3 38)
  b : Below w.heap.size w W
theorem Bx.go {w W W' : World} {a1 a2 a3 : Array Value} (h : Bx w a1 a2 a3 W) (k : Below W.heap.size W W') : Bx w a1 a2 a3 W' :=
  ⟨(k.block _ (Array.getElem?_eq_some_iff.1 h.h1).1).trans h.h1, (k.block _ (Array.getElem?_eq_some_iff.1 h.h2).1).trans h.h2, (k.block _ (Array.getElem?_eq_some_iff.1 h.h3).1).trans h.h3, bl_past h.b k⟩
theorem Bx.drew {w W : World} {a1 a2 a3 : Array Value} (h : Bx w a1 a2 a3 W) : Bx w a1 a2 a3 W.drew := ⟨h.h1, h.h2, h.h3, h.b.drew⟩
theorem Bx.made (w : World) (a1 a2 a3 : Array Value) : Bx w a1 a2 a3 (((w.alloc (.cells a1 59)).alloc (.cells a2 59)).alloc (.cells a3 38)) := by
  refine ⟨?_, ?_, ?_, bl_three w _ _ _⟩
  · rw [Below.heap_alloc _ _ _ (by simp only [World.size_alloc]; omega), Below.heap_alloc _ _ _ (by simp only [World.size_alloc]; omega)]; exact heap_alloc_new w _
  · rw [Below.heap_alloc _ _ _ (by simp only [World.size_alloc]; omega)]
    have := heap_alloc_new (w.alloc (.cells a1 59)) (.cells a2 59)
    simpa only [World.size_alloc] using this
  · have := heap_alloc_new ((w.alloc (.cells a1 59)).alloc (.cells a2 59)) (.cells a3 38)
    simpa only [World.size_alloc] using this
theorem Bx.cells {w W : World} {p q r s t u : Value} (h : Bx w #[p, q] #[r, s] #[t, u] W) : (W.cell? ⟨w.heap.size, 0, none⟩ = some p ∧ W.cell? ⟨w.heap.size, 1, none⟩ = some q) ∧ (W.cell? ⟨w.heap.size + 1, 0, none⟩ = some r ∧ W.cell? ⟨w.heap.size + 1, 1, none⟩ = some s) ∧ (W.cell? ⟨w.heap.size + 1 + 1, 0, none⟩ = some t ∧ W.cell? ⟨w.heap.size + 1 + 1, 1, none⟩ = some u) ∧ (W.frozen? ⟨w.heap.size + 1 + 1, 0, none⟩ = false ∧ W.frozen? ⟨w.heap.size + 1 + 1, 1, none⟩ = false) ∧ w.heap.size + 1 + 1 < W.heap.size := by
  obtain ⟨c1, f1, z1⟩ := blk_cells h.h1
  obtain ⟨c2, f2, z2⟩ := blk_cells h.h2
  obtain ⟨c3, f3, z3⟩ := blk_cells h.h3
  exact ⟨⟨c1 0, c1 1⟩, ⟨c2 0, c2 1⟩, ⟨c3 0, c3 1⟩, ⟨f3 0, f3 1⟩, z3⟩
theorem Bx.two {w W : World} {p q r s : Value} {a3 : Array Value} (h : Bx w #[p, q] #[r, s] a3 W) : (W.cell? ⟨w.heap.size, 0, none⟩ = some p ∧ W.cell? ⟨w.heap.size, 1, none⟩ = some q) ∧ (W.cell? ⟨w.heap.size + 1, 0, none⟩ = some r ∧ W.cell? ⟨w.heap.size + 1, 1, none⟩ = some s) := by
  obtain ⟨c1, f1, z1⟩ := blk_cells h.h1
  obtain ⟨c2, f2, z2⟩ := blk_cells h.h2
  exact ⟨⟨c1 0, c1 1⟩, ⟨c2 0, c2 1⟩⟩
theorem Bx.set {w W : World} {a1 a2 a3 : Array Value} (h : Bx w a1 a2 a3 W) (i : Nat) (v : Value) : Bx w a1 a2 (a3.setIfInBounds i v) (W.setCell ⟨w.heap.size + 1 + 1, i, none⟩ v) := by
  refine ⟨?_, ?_, ?_, h.b.setCell (by simp; omega) v⟩
  · rw [Below.heap_setCell _ _ _ _ (by simp; omega)]; exact h.h1
  · rw [Below.heap_setCell _ _ _ _ (by simp)]; exact h.h2
  · rw [setCell_eq_setRow W _ i a3 38 (0, 0) v h.h3]; exact setRow_heap W _ a3 _ 38 _ h.h3
theorem m58v (w : World) (n : Int) : Calls Try.prog 58 #[.int .i64 n] w fun e w' => VA w e w' := (m58 w n).mono (by rintro e w' ⟨rfl, hb⟩; exact ⟨_, _, rfl, hb⟩)
/-- One box and a second. -/
structure By (w : World) (a1 a3 : Array Value) (W : World) : Prop where
  h1 : W.heap[w.heap.size]? = some (.cells a1 59)
  h3 : W.heap[w.heap.size + 1]? = some (.cells a3 38)
  b : Below w.heap.size w W
theorem By.go {w W W' : World} {a1 a3 : Array Value} (h : By w a1 a3 W) (k : Below W.heap.size W W') : By w a1 a3 W' :=
  ⟨(k.block _ (Array.getElem?_eq_some_iff.1 h.h1).1).trans h.h1, (k.block _ (Array.getElem?_eq_some_iff.1 h.h3).1).trans h.h3, bl_past h.b k⟩
theorem By.made (w : World) (a1 a3 : Array Value) : By w a1 a3 ((w.alloc (.cells a1 59)).alloc (.cells a3 38)) := by
  refine ⟨?_, ?_, bl_two w _ _⟩
  · rw [Below.heap_alloc _ _ _ (by simp only [World.size_alloc]; omega)]; exact heap_alloc_new w _
  · have := heap_alloc_new (w.alloc (.cells a1 59)) (.cells a3 38)
    simpa only [World.size_alloc] using this
theorem By.cells {w W : World} {p q t u : Value} (h : By w #[p, q] #[t, u] W) : (W.cell? ⟨w.heap.size, 0, none⟩ = some p ∧ W.cell? ⟨w.heap.size, 1, none⟩ = some q) ∧ (W.cell? ⟨w.heap.size + 1, 0, none⟩ = some t ∧ W.cell? ⟨w.heap.size + 1, 1, none⟩ = some u) ∧ (W.frozen? ⟨w.heap.size + 1, 0, none⟩ = false ∧ W.frozen? ⟨w.heap.size + 1, 1, none⟩ = false) ∧ w.heap.size + 1 < W.heap.size := by
  obtain ⟨c1, f1, z1⟩ := blk_cells h.h1
  obtain ⟨c3, f3, z3⟩ := blk_cells h.h3
  exact ⟨⟨c1 0, c1 1⟩, ⟨c3 0, c3 1⟩, ⟨f3 0, f3 1⟩, z3⟩
set_option maxRecDepth 100000 in
set_option maxHeartbeats 800000 in
theorem m43_2 (w : World) (a b : Int) : Calls Try.prog 43 #[.agg #[.int .i64 2, .int .i64 a], .agg #[.int .i64 2, .int .i64 b]] w fun e w' => VA w e w' := by
  have H0 := hide (Bx.made w #[.int .i64 2, .int .i64 a] #[.int .i64 2, .int .i64 b] #[.int .i64 0, .int .i64 0])
  go_enter Try.func43, Try.ntmps43
  go_wp2_with fail
  refine (m65 _ 2 a b (.inl rfl)).mono ?_
  rintro e w1 ⟨rfl, hb⟩
  have H1 := hide ((unhide H0).go hb)
  clear hb
  clear H0
  obtain ⟨⟨p0, p1⟩, ⟨q0, q1⟩, ⟨r0, r1⟩, ⟨g0, g1⟩, z⟩ := (unhide H1).cells
  go_wp2_with fail
  refine (m58v _ _).mono ?_
  rintro e w2 ⟨x, y, rfl, hb⟩
  clear p0 p1 q0 q1 r0 r1 g0 g1 z
  have H2 := hide ((unhide H1).go hb)
  clear hb H1
  obtain ⟨⟨p0, p1⟩, ⟨q0, q1⟩, ⟨r0, r1⟩, ⟨g0, g1⟩, z⟩ := (unhide H2).cells
  have HB := hide (unhide H2).b
  clear H2
  go_wp2_with fail
  refine bodyPost_ret (v := .agg #[.int .i64 x, .int .i64 y]) ?_ rfl ?_
  · rw [results_cell_one rfl]
    go_simp
  · refine ⟨_, _, rfl, ?_⟩
    repeat (first | refine Below.setCell ?_ (by first | (simp; done) | (simp; omega)) _ | (with_reducible exact unhide HB))
set_option maxRecDepth 100000 in
set_option maxHeartbeats 800000 in
theorem m44_2 (w : World) (a b : Int) : Calls Try.prog 44 #[.agg #[.int .i64 2, .int .i64 a], .agg #[.int .i64 2, .int .i64 b]] w fun e w' => VA w e w' := by
  have H0 := hide (Bx.made w #[.int .i64 2, .int .i64 a] #[.int .i64 2, .int .i64 b] #[.int .i64 0, .int .i64 0])
  go_enter Try.func44, Try.ntmps44
  go_wp2_with fail
  refine (m65 _ 2 a b (.inl rfl)).mono ?_
  rintro e w1 ⟨rfl, hb⟩
  have H1 := hide ((unhide H0).go hb)
  clear hb
  clear H0
  obtain ⟨⟨p0, p1⟩, ⟨q0, q1⟩, ⟨r0, r1⟩, ⟨g0, g1⟩, z⟩ := (unhide H1).cells
  go_wp2_with fail
  refine (m58v _ _).mono ?_
  rintro e w2 ⟨x, y, rfl, hb⟩
  clear p0 p1 q0 q1 r0 r1 g0 g1 z
  have H2 := hide ((unhide H1).go hb)
  clear hb H1
  obtain ⟨⟨p0, p1⟩, ⟨q0, q1⟩, ⟨r0, r1⟩, ⟨g0, g1⟩, z⟩ := (unhide H2).cells
  have HB := hide (unhide H2).b
  clear H2
  go_wp2_with fail
  refine bodyPost_ret (v := .agg #[.int .i64 x, .int .i64 y]) ?_ rfl ?_
  · rw [results_cell_one rfl]
    go_simp
  · refine ⟨_, _, rfl, ?_⟩
    repeat (first | refine Below.setCell ?_ (by first | (simp; done) | (simp; omega)) _ | (with_reducible exact unhide HB))
set_option maxRecDepth 100000 in
set_option maxHeartbeats 800000 in
theorem m45_2 (w : World) (a b : Int) : Calls Try.prog 45 #[.agg #[.int .i64 2, .int .i64 a], .agg #[.int .i64 2, .int .i64 b]] w fun e w' => VA w e w' := by
  have H0 := hide (Bx.made w #[.int .i64 2, .int .i64 a] #[.int .i64 2, .int .i64 b] #[.int .i64 0, .int .i64 0])
  go_enter Try.func45, Try.ntmps45
  go_wp2_with fail
  refine (m65 _ 2 a b (.inl rfl)).mono ?_
  rintro e w1 ⟨rfl, hb⟩
  have H1 := hide ((unhide H0).go hb)
  clear hb
  clear H0
  obtain ⟨⟨p0, p1⟩, ⟨q0, q1⟩, ⟨r0, r1⟩, ⟨g0, g1⟩, z⟩ := (unhide H1).cells
  go_wp2_with fail
  refine (m58v _ _).mono ?_
  rintro e w2 ⟨x, y, rfl, hb⟩
  clear p0 p1 q0 q1 r0 r1 g0 g1 z
  have H2 := hide ((unhide H1).go hb)
  clear hb H1
  obtain ⟨⟨p0, p1⟩, ⟨q0, q1⟩, ⟨r0, r1⟩, ⟨g0, g1⟩, z⟩ := (unhide H2).cells
  have HB := hide (unhide H2).b
  clear H2
  go_wp2_with fail
  refine bodyPost_ret (v := .agg #[.int .i64 x, .int .i64 y]) ?_ rfl ?_
  · rw [results_cell_one rfl]
    go_simp
  · refine ⟨_, _, rfl, ?_⟩
    repeat (first | refine Below.setCell ?_ (by first | (simp; done) | (simp; omega)) _ | (with_reducible exact unhide HB))
set_option maxRecDepth 100000 in
set_option maxHeartbeats 800000 in
theorem m48_2 (w : World) (a b : Int) : Calls Try.prog 48 #[.agg #[.int .i64 2, .int .i64 a], .agg #[.int .i64 2, .int .i64 b]] w fun e w' => VA w e w' := by
  have H0 := hide (Bx.made w #[.int .i64 2, .int .i64 a] #[.int .i64 2, .int .i64 b] #[.int .i64 0, .int .i64 0])
  go_enter Try.func48, Try.ntmps48
  go_wp2_with fail
  refine (m58v _ _).mono ?_
  rintro e w2 ⟨x, y, rfl, hb⟩
  have H2 := hide ((unhide H0).go hb)
  clear hb H0
  obtain ⟨⟨p0, p1⟩, ⟨q0, q1⟩, ⟨r0, r1⟩, ⟨g0, g1⟩, z⟩ := (unhide H2).cells
  have HB := hide (unhide H2).b
  clear H2
  go_wp2_with fail
  refine bodyPost_ret (v := .agg #[.int .i64 x, .int .i64 y]) ?_ rfl ?_
  · rw [results_cell_one rfl]
    go_simp
  · refine ⟨_, _, rfl, ?_⟩
    repeat (first | refine Below.setCell ?_ (by first | (simp; done) | (simp; omega)) _ | (with_reducible exact unhide HB))
set_option maxRecDepth 100000 in
set_option maxHeartbeats 800000 in
theorem m49_2 (w : World) (a b : Int) : Calls Try.prog 49 #[.agg #[.int .i64 2, .int .i64 a], .agg #[.int .i64 2, .int .i64 b]] w fun e w' => VA w e w' := by
  have H0 := hide (Bx.made w #[.int .i64 2, .int .i64 a] #[.int .i64 2, .int .i64 b] #[.int .i64 0, .int .i64 0])
  go_enter Try.func49, Try.ntmps49
  go_wp2_with fail
  refine (m58v _ _).mono ?_
  rintro e w2 ⟨x, y, rfl, hb⟩
  have H2 := hide ((unhide H0).go hb)
  clear hb H0
  obtain ⟨⟨p0, p1⟩, ⟨q0, q1⟩, ⟨r0, r1⟩, ⟨g0, g1⟩, z⟩ := (unhide H2).cells
  have HB := hide (unhide H2).b
  clear H2
  go_wp2_with fail
  refine bodyPost_ret (v := .agg #[.int .i64 x, .int .i64 y]) ?_ rfl ?_
  · rw [results_cell_one rfl]
    go_simp
  · refine ⟨_, _, rfl, ?_⟩
    repeat (first | refine Below.setCell ?_ (by first | (simp; done) | (simp; omega)) _ | (with_reducible exact unhide HB))
set_option maxRecDepth 100000 in
set_option maxHeartbeats 800000 in
theorem m50_2 (w : World) (a b : Int) : Calls Try.prog 50 #[.agg #[.int .i64 2, .int .i64 a], .agg #[.int .i64 2, .int .i64 b]] w fun e w' => VA w e w' := by
  have H0 := hide (Bx.made w #[.int .i64 2, .int .i64 a] #[.int .i64 2, .int .i64 b] #[.int .i64 0, .int .i64 0])
  go_enter Try.func50, Try.ntmps50
  go_wp2_with fail
  refine (m58v _ _).mono ?_
  rintro e w2 ⟨x, y, rfl, hb⟩
  have H2 := hide ((unhide H0).go hb)
  clear hb H0
  obtain ⟨⟨p0, p1⟩, ⟨q0, q1⟩, ⟨r0, r1⟩, ⟨g0, g1⟩, z⟩ := (unhide H2).cells
  have HB := hide (unhide H2).b
  clear H2
  go_wp2_with fail
  refine bodyPost_ret (v := .agg #[.int .i64 x, .int .i64 y]) ?_ rfl ?_
  · rw [results_cell_one rfl]
    go_simp
  · refine ⟨_, _, rfl, ?_⟩
    repeat (first | refine Below.setCell ?_ (by first | (simp; done) | (simp; omega)) _ | (with_reducible exact unhide HB))
set_option maxRecDepth 100000 in
set_option maxHeartbeats 800000 in
theorem m51_2 (w : World) (a b : Int) : Calls Try.prog 51 #[.agg #[.int .i64 2, .int .i64 a], .agg #[.int .i64 2, .int .i64 b]] w fun e w' => VA w e w' := by
  have H0 := hide (Bx.made w #[.int .i64 2, .int .i64 a] #[.int .i64 2, .int .i64 b] #[.int .i64 0, .int .i64 0])
  go_enter Try.func51, Try.ntmps51
  go_wp2_with fail
  refine (m58v _ _).mono ?_
  rintro e w2 ⟨x, y, rfl, hb⟩
  have H2 := hide ((unhide H0).go hb)
  clear hb H0
  obtain ⟨⟨p0, p1⟩, ⟨q0, q1⟩, ⟨r0, r1⟩, ⟨g0, g1⟩, z⟩ := (unhide H2).cells
  have HB := hide (unhide H2).b
  clear H2
  go_wp2_with fail
  refine bodyPost_ret (v := .agg #[.int .i64 x, .int .i64 y]) ?_ rfl ?_
  · rw [results_cell_one rfl]
    go_simp
  · refine ⟨_, _, rfl, ?_⟩
    repeat (first | refine Below.setCell ?_ (by first | (simp; done) | (simp; omega)) _ | (with_reducible exact unhide HB))
set_option maxRecDepth 100000 in
set_option maxHeartbeats 800000 in
theorem m38_2 (w : World) (a : Int) : Calls Try.prog 38 #[.agg #[.int .i64 2, .int .i64 a]] w fun e w' => VA w e w' := by
  have H0 := hide (By.made w #[.int .i64 2, .int .i64 a] #[.int .i64 0, .int .i64 0])
  go_enter Try.func38, Try.ntmps38
  go_wp2_with fail
  refine (m58v _ _).mono ?_
  rintro e w2 ⟨x, y, rfl, hb⟩
  have H2 := hide ((unhide H0).go hb)
  clear hb H0
  obtain ⟨⟨p0, p1⟩, ⟨r0, r1⟩, ⟨g0, g1⟩, z⟩ := (unhide H2).cells
  have HB := hide (unhide H2).b
  clear H2
  go_wp2_with fail
  refine bodyPost_ret (v := .agg #[.int .i64 x, .int .i64 y]) ?_ rfl ?_
  · rw [results_cell_one rfl]
    go_simp
  · refine ⟨_, _, rfl, ?_⟩
    repeat (first | refine Below.setCell ?_ (by first | (simp; done) | (simp; omega)) _ | (with_reducible exact unhide HB))
set_option maxRecDepth 100000 in
set_option maxHeartbeats 800000 in
theorem m39_2 (w : World) (a : Int) : Calls Try.prog 39 #[.agg #[.int .i64 2, .int .i64 a]] w fun e w' => VA w e w' := by
  have H0 := hide (By.made w #[.int .i64 2, .int .i64 a] #[.int .i64 0, .int .i64 0])
  go_enter Try.func39, Try.ntmps39
  go_wp2_with fail
  refine (m58v _ _).mono ?_
  rintro e w2 ⟨x, y, rfl, hb⟩
  have H2 := hide ((unhide H0).go hb)
  clear hb H0
  obtain ⟨⟨p0, p1⟩, ⟨r0, r1⟩, ⟨g0, g1⟩, z⟩ := (unhide H2).cells
  have HB := hide (unhide H2).b
  clear H2
  go_wp2_with fail
  refine bodyPost_ret (v := .agg #[.int .i64 x, .int .i64 y]) ?_ rfl ?_
  · rw [results_cell_one rfl]
    go_simp
  · refine ⟨_, _, rfl, ?_⟩
    repeat (first | refine Below.setCell ?_ (by first | (simp; done) | (simp; omega)) _ | (with_reducible exact unhide HB))
set_option maxRecDepth 100000 in
set_option maxHeartbeats 800000 in
theorem m38_3 (w : World) (a : Int) : Calls Try.prog 38 #[.agg #[.int .i64 3, .int .i64 a]] w fun e w' => VA w e w' := by
  have H0 := hide (By.made w #[.int .i64 3, .int .i64 a] #[.int .i64 0, .int .i64 0])
  go_enter Try.func38, Try.ntmps38
  go_wp2_with fail
  refine (m61 _ a).mono ?_
  rintro e w1 ⟨⟨r, hr, rfl⟩, hb⟩
  have H1 := hide ((unhide H0).go hb)
  clear hb H0
  go_wp2_with fail
  refine (neg_any r hr _).mono ?_
  rintro e w2 ⟨rfl, rfl⟩
  clear hr
  go_wp2_with fail
  refine (m59 _ _).mono ?_
  rintro e w3 ⟨x, y, rfl, hb⟩
  have H3 := hide ((unhide H1).go hb)
  clear hb H1
  obtain ⟨⟨p0, p1⟩, ⟨r0, r1⟩, ⟨g0, g1⟩, z⟩ := (unhide H3).cells
  have HB := hide (unhide H3).b
  clear H3
  go_wp2_with fail
  refine bodyPost_ret (v := .agg #[.int .i64 x, .int .i64 y]) ?_ rfl ?_
  · rw [results_cell_one rfl]
    go_simp
  · refine ⟨_, _, rfl, ?_⟩
    repeat (first | refine Below.setCell ?_ (by first | (simp; done) | (simp; omega)) _ | (with_reducible exact unhide HB))
set_option maxRecDepth 100000 in
set_option maxHeartbeats 800000 in
theorem m40_3 (w : World) (a : Int) : Calls Try.prog 40 #[.agg #[.int .i64 3, .int .i64 a]] w fun e w' => VA w e w' := by
  have H0 := hide (By.made w #[.int .i64 3, .int .i64 a] #[.int .i64 0, .int .i64 0])
  go_enter Try.func40, Try.ntmps40
  go_wp2_with fail
  refine (m61 _ a).mono ?_
  rintro e w1 ⟨⟨r, hr, rfl⟩, hb⟩
  have H1 := hide ((unhide H0).go hb)
  clear hb H0
  go_wp2_with fail
  refine (floor_any r hr _).mono ?_
  rintro e w2 ⟨rfl, hb⟩
  have H2 := hide ((unhide H1).go hb)
  clear hb H1
  have H1 := H2
  clear hr
  go_wp2_with fail
  refine (m59 _ _).mono ?_
  rintro e w3 ⟨x, y, rfl, hb⟩
  have H3 := hide ((unhide H1).go hb)
  clear hb H1
  obtain ⟨⟨p0, p1⟩, ⟨r0, r1⟩, ⟨g0, g1⟩, z⟩ := (unhide H3).cells
  have HB := hide (unhide H3).b
  clear H3
  go_wp2_with fail
  refine bodyPost_ret (v := .agg #[.int .i64 x, .int .i64 y]) ?_ rfl ?_
  · rw [results_cell_one rfl]
    go_simp
  · refine ⟨_, _, rfl, ?_⟩
    repeat (first | refine Below.setCell ?_ (by first | (simp; done) | (simp; omega)) _ | (with_reducible exact unhide HB))
set_option maxRecDepth 100000 in
set_option maxHeartbeats 800000 in
theorem m41_3 (w : World) (a : Int) : Calls Try.prog 41 #[.agg #[.int .i64 3, .int .i64 a]] w fun e w' => VA w e w' := by
  have H0 := hide (By.made w #[.int .i64 3, .int .i64 a] #[.int .i64 0, .int .i64 0])
  go_enter Try.func41, Try.ntmps41
  go_wp2_with fail
  refine (m61 _ a).mono ?_
  rintro e w1 ⟨⟨r, hr, rfl⟩, hb⟩
  have H1 := hide ((unhide H0).go hb)
  clear hb H0
  go_wp2_with fail
  refine (sqrt_any r _).mono ?_
  rintro e w2 ⟨rfl, hb⟩
  have H2 := hide ((unhide H1).go hb)
  clear hb H1
  have H1 := H2
  clear hr
  go_wp2_with fail
  refine (m59 _ _).mono ?_
  rintro e w3 ⟨x, y, rfl, hb⟩
  have H3 := hide ((unhide H1).go hb)
  clear hb H1
  obtain ⟨⟨p0, p1⟩, ⟨r0, r1⟩, ⟨g0, g1⟩, z⟩ := (unhide H3).cells
  have HB := hide (unhide H3).b
  clear H3
  go_wp2_with fail
  refine bodyPost_ret (v := .agg #[.int .i64 x, .int .i64 y]) ?_ rfl ?_
  · rw [results_cell_one rfl]
    go_simp
  · refine ⟨_, _, rfl, ?_⟩
    repeat (first | refine Below.setCell ?_ (by first | (simp; done) | (simp; omega)) _ | (with_reducible exact unhide HB))
set_option maxRecDepth 100000 in
set_option maxHeartbeats 800000 in
theorem m42_3 (w : World) (a : Int) : Calls Try.prog 42 #[.agg #[.int .i64 3, .int .i64 a]] w fun e w' => VA w e w' := by
  have H0 := hide (By.made w #[.int .i64 3, .int .i64 a] #[.int .i64 0, .int .i64 0])
  go_enter Try.func42, Try.ntmps42
  go_wp2_with fail
  refine (m61 _ a).mono ?_
  rintro e w1 ⟨⟨r, hr, rfl⟩, hb⟩
  have H1 := hide ((unhide H0).go hb)
  clear hb H0
  go_wp2_with fail
  refine (single_any r _).mono ?_
  rintro e w2 ⟨rr, rfl, -, -, hb⟩
  have H2 := hide ((unhide H1).go hb)
  clear hb H1
  have H1 := H2
  clear hr
  go_wp2_with fail
  refine (m59 _ _).mono ?_
  rintro e w3 ⟨x, y, rfl, hb⟩
  have H3 := hide ((unhide H1).go hb)
  clear hb H1
  obtain ⟨⟨p0, p1⟩, ⟨r0, r1⟩, ⟨g0, g1⟩, z⟩ := (unhide H3).cells
  have HB := hide (unhide H3).b
  clear H3
  go_wp2_with fail
  refine bodyPost_ret (v := .agg #[.int .i64 x, .int .i64 y]) ?_ rfl ?_
  · rw [results_cell_one rfl]
    go_simp
  · refine ⟨_, _, rfl, ?_⟩
    repeat (first | refine Below.setCell ?_ (by first | (simp; done) | (simp; omega)) _ | (with_reducible exact unhide HB))
set_option maxRecDepth 100000 in
set_option maxHeartbeats 800000 in
theorem m43_3 (w : World) (a b : Int) : Calls Try.prog 43 #[.agg #[.int .i64 3, .int .i64 a], .agg #[.int .i64 3, .int .i64 b]] w fun e w' => VA w e w' := by
  have H0 := hide (Bx.made w #[.int .i64 3, .int .i64 a] #[.int .i64 3, .int .i64 b] #[.int .i64 0, .int .i64 0])
  go_enter Try.func43, Try.ntmps43
  go_wp2_with fail
  refine (m65 _ 3 a b (.inr rfl)).mono ?_
  rintro e w1 ⟨rfl, hb⟩
  have H1 := hide ((unhide H0).go hb)
  clear hb
  clear H0
  go_wp2_with fail
  refine wp_region_held_drew (S := (fun W => ∃ a3, Bx w #[.int .i64 3, .int .i64 a] #[.int .i64 3, .int .i64 b] a3 W)) (by kernel_rfl) (⟨_, (unhide H1).drew⟩) (fun hHeld => ?_)
  clear hHeld
  refine wpAnyH_take (i := 0) (oi := _) (v := .agg #[.int .i64 3, .int .i64 a]) rfl (by kernel_rfl) (by kernel_rfl) (by kernel_rfl) (fun _ _ _ h => h) (Or.inl ⟨by rfl, (by intro w' hSw; obtain ⟨a3, hSw⟩ := hSw; obtain ⟨⟨p0, p1⟩, ⟨q0, q1⟩⟩ := hSw.two; go_simp)⟩) ⟨_, (unhide H1).drew⟩ ?_
  go_simp
  refine wpAnyH_take (i := 2) (oi := _) (v := .agg #[.int .i64 3, .int .i64 b]) rfl (by kernel_rfl) (by kernel_rfl) (by kernel_rfl) (fun _ _ _ h => h) (Or.inl ⟨by rfl, (by intro w' hSw; obtain ⟨a3, hSw⟩ := hSw; obtain ⟨⟨p0, p1⟩, ⟨q0, q1⟩⟩ := hSw.two; go_simp)⟩) ⟨_, (unhide H1).drew⟩ ?_
  go_simp
  have HD := hide (unhide H1).drew
  refine wpAnyH_ready (rs := [1]) (by kernel_rfl) (by simp) ?_
  refine AllReadyH.cons (o := _) rfl (fun K hK => ?_) AllReadyH.nil
  go_simp
  refine (m61 _ a).mono ?_
  rintro e w2 ⟨⟨r1, hr1, rfl⟩, hb⟩
  have H2 := hide ((unhide HD).go hb)
  clear hb
  refine hK.out _ _ (⟨_, unhide H2⟩) (fun _ => ?_)
  clear hK K
  go_simp
  refine wpAnyH_ready (rs := [3]) (by kernel_rfl) (by simp) ?_
  refine AllReadyH.cons (o := _) rfl (fun K hK => ?_) AllReadyH.nil
  go_simp
  refine (m61 _ b).mono ?_
  rintro e w3 ⟨⟨r3, hr3, rfl⟩, hb⟩
  have H3 := hide ((unhide H2).go hb)
  clear hb
  refine hK.out _ _ (⟨_, unhide H3⟩) (fun _ => ?_)
  clear hK K
  go_simp
  refine wpAnyH_ready (rs := [4]) (by kernel_rfl) (by simp) ?_
  refine AllReadyH.cons (o := _) rfl (fun K hK => ?_) AllReadyH.nil
  go_simp
  refine (add_any r1 r3 _).mono ?_
  rintro e w4 ⟨rfl, hb⟩
  have H4 := hide ((unhide H3).go hb)
  clear hb
  refine hK.out _ _ (⟨_, unhide H4⟩) (fun _ => ?_)
  clear hK K
  go_simp
  refine wpAnyH_ready (rs := [5]) (by kernel_rfl) (by simp) ?_
  refine AllReadyH.cons (o := _) rfl (fun K hK => ?_) AllReadyH.nil
  go_simp
  refine (m59 _ _).mono ?_
  rintro e w5 ⟨x, y, rfl, hb⟩
  have H5 := hide ((unhide H4).go hb)
  clear hb
  refine hK.out _ _ (⟨_, unhide H5⟩) (fun _ => ?_)
  clear hK K
  go_simp
  obtain ⟨⟨p0, p1⟩, ⟨q0, q1⟩, ⟨r0, r1⟩, ⟨g0, g1⟩, z⟩ := (unhide H5).cells
  have HB := hide (unhide H5).b
  refine wpAnyH_ready (rs := [6]) (by kernel_rfl) (by simp) ?_
  refine AllReadyH.cons (o := _) rfl (fun K hK => ?_) AllReadyH.nil
  go_simp
  refine hK.out _ _ ⟨_, ((unhide H5).set 0 _).set 1 _⟩ (fun _ => ?_)
  clear hK K
  go_simp
  refine wpAnyH_done (by kernel_rfl) ?_ _
  go_wp2_with fail
  refine bodyPost_ret (v := .agg #[.int .i64 x, .int .i64 y]) ?_ rfl ?_
  · rw [results_cell_one rfl]
    go_simp
  · refine ⟨_, _, rfl, ?_⟩
    repeat (first | refine Below.setCell ?_ (by first | (simp; done) | (simp; omega)) _ | (with_reducible exact unhide HB))
set_option maxRecDepth 100000 in
set_option maxHeartbeats 800000 in
theorem m44_3 (w : World) (a b : Int) : Calls Try.prog 44 #[.agg #[.int .i64 3, .int .i64 a], .agg #[.int .i64 3, .int .i64 b]] w fun e w' => VA w e w' := by
  have H0 := hide (Bx.made w #[.int .i64 3, .int .i64 a] #[.int .i64 3, .int .i64 b] #[.int .i64 0, .int .i64 0])
  go_enter Try.func44, Try.ntmps44
  go_wp2_with fail
  refine (m65 _ 3 a b (.inr rfl)).mono ?_
  rintro e w1 ⟨rfl, hb⟩
  have H1 := hide ((unhide H0).go hb)
  clear hb
  clear H0
  go_wp2_with fail
  refine wp_region_held_drew (S := (fun W => ∃ a3, Bx w #[.int .i64 3, .int .i64 a] #[.int .i64 3, .int .i64 b] a3 W)) (by kernel_rfl) (⟨_, (unhide H1).drew⟩) (fun hHeld => ?_)
  clear hHeld
  refine wpAnyH_take (i := 0) (oi := _) (v := .agg #[.int .i64 3, .int .i64 a]) rfl (by kernel_rfl) (by kernel_rfl) (by kernel_rfl) (fun _ _ _ h => h) (Or.inl ⟨by rfl, (by intro w' hSw; obtain ⟨a3, hSw⟩ := hSw; obtain ⟨⟨p0, p1⟩, ⟨q0, q1⟩⟩ := hSw.two; go_simp)⟩) ⟨_, (unhide H1).drew⟩ ?_
  go_simp
  refine wpAnyH_take (i := 2) (oi := _) (v := .agg #[.int .i64 3, .int .i64 b]) rfl (by kernel_rfl) (by kernel_rfl) (by kernel_rfl) (fun _ _ _ h => h) (Or.inl ⟨by rfl, (by intro w' hSw; obtain ⟨a3, hSw⟩ := hSw; obtain ⟨⟨p0, p1⟩, ⟨q0, q1⟩⟩ := hSw.two; go_simp)⟩) ⟨_, (unhide H1).drew⟩ ?_
  go_simp
  have HD := hide (unhide H1).drew
  refine wpAnyH_ready (rs := [1]) (by kernel_rfl) (by simp) ?_
  refine AllReadyH.cons (o := _) rfl (fun K hK => ?_) AllReadyH.nil
  go_simp
  refine (m61 _ a).mono ?_
  rintro e w2 ⟨⟨r1, hr1, rfl⟩, hb⟩
  have H2 := hide ((unhide HD).go hb)
  clear hb
  refine hK.out _ _ (⟨_, unhide H2⟩) (fun _ => ?_)
  clear hK K
  go_simp
  refine wpAnyH_ready (rs := [3]) (by kernel_rfl) (by simp) ?_
  refine AllReadyH.cons (o := _) rfl (fun K hK => ?_) AllReadyH.nil
  go_simp
  refine (m61 _ b).mono ?_
  rintro e w3 ⟨⟨r3, hr3, rfl⟩, hb⟩
  have H3 := hide ((unhide H2).go hb)
  clear hb
  refine hK.out _ _ (⟨_, unhide H3⟩) (fun _ => ?_)
  clear hK K
  go_simp
  refine wpAnyH_ready (rs := [4]) (by kernel_rfl) (by simp) ?_
  refine AllReadyH.cons (o := _) rfl (fun K hK => ?_) AllReadyH.nil
  go_simp
  refine (sub_any r1 r3 hr3 _).mono ?_
  rintro e w4 ⟨rfl, hb⟩
  have H4 := hide ((unhide H3).go hb)
  clear hb
  refine hK.out _ _ (⟨_, unhide H4⟩) (fun _ => ?_)
  clear hK K
  go_simp
  refine wpAnyH_ready (rs := [5]) (by kernel_rfl) (by simp) ?_
  refine AllReadyH.cons (o := _) rfl (fun K hK => ?_) AllReadyH.nil
  go_simp
  refine (m59 _ _).mono ?_
  rintro e w5 ⟨x, y, rfl, hb⟩
  have H5 := hide ((unhide H4).go hb)
  clear hb
  refine hK.out _ _ (⟨_, unhide H5⟩) (fun _ => ?_)
  clear hK K
  go_simp
  obtain ⟨⟨p0, p1⟩, ⟨q0, q1⟩, ⟨r0, r1⟩, ⟨g0, g1⟩, z⟩ := (unhide H5).cells
  have HB := hide (unhide H5).b
  refine wpAnyH_ready (rs := [6]) (by kernel_rfl) (by simp) ?_
  refine AllReadyH.cons (o := _) rfl (fun K hK => ?_) AllReadyH.nil
  go_simp
  refine hK.out _ _ ⟨_, ((unhide H5).set 0 _).set 1 _⟩ (fun _ => ?_)
  clear hK K
  go_simp
  refine wpAnyH_done (by kernel_rfl) ?_ _
  go_wp2_with fail
  refine bodyPost_ret (v := .agg #[.int .i64 x, .int .i64 y]) ?_ rfl ?_
  · rw [results_cell_one rfl]
    go_simp
  · refine ⟨_, _, rfl, ?_⟩
    repeat (first | refine Below.setCell ?_ (by first | (simp; done) | (simp; omega)) _ | (with_reducible exact unhide HB))
set_option maxRecDepth 100000 in
set_option maxHeartbeats 800000 in
theorem m45_3 (w : World) (a b : Int) : Calls Try.prog 45 #[.agg #[.int .i64 3, .int .i64 a], .agg #[.int .i64 3, .int .i64 b]] w fun e w' => VA w e w' := by
  have H0 := hide (Bx.made w #[.int .i64 3, .int .i64 a] #[.int .i64 3, .int .i64 b] #[.int .i64 0, .int .i64 0])
  go_enter Try.func45, Try.ntmps45
  go_wp2_with fail
  refine (m65 _ 3 a b (.inr rfl)).mono ?_
  rintro e w1 ⟨rfl, hb⟩
  have H1 := hide ((unhide H0).go hb)
  clear hb
  clear H0
  go_wp2_with fail
  refine wp_region_held_drew (S := (fun W => ∃ a3, Bx w #[.int .i64 3, .int .i64 a] #[.int .i64 3, .int .i64 b] a3 W)) (by kernel_rfl) (⟨_, (unhide H1).drew⟩) (fun hHeld => ?_)
  clear hHeld
  refine wpAnyH_take (i := 0) (oi := _) (v := .agg #[.int .i64 3, .int .i64 a]) rfl (by kernel_rfl) (by kernel_rfl) (by kernel_rfl) (fun _ _ _ h => h) (Or.inl ⟨by rfl, (by intro w' hSw; obtain ⟨a3, hSw⟩ := hSw; obtain ⟨⟨p0, p1⟩, ⟨q0, q1⟩⟩ := hSw.two; go_simp)⟩) ⟨_, (unhide H1).drew⟩ ?_
  go_simp
  refine wpAnyH_take (i := 2) (oi := _) (v := .agg #[.int .i64 3, .int .i64 b]) rfl (by kernel_rfl) (by kernel_rfl) (by kernel_rfl) (fun _ _ _ h => h) (Or.inl ⟨by rfl, (by intro w' hSw; obtain ⟨a3, hSw⟩ := hSw; obtain ⟨⟨p0, p1⟩, ⟨q0, q1⟩⟩ := hSw.two; go_simp)⟩) ⟨_, (unhide H1).drew⟩ ?_
  go_simp
  have HD := hide (unhide H1).drew
  refine wpAnyH_ready (rs := [1]) (by kernel_rfl) (by simp) ?_
  refine AllReadyH.cons (o := _) rfl (fun K hK => ?_) AllReadyH.nil
  go_simp
  refine (m61 _ a).mono ?_
  rintro e w2 ⟨⟨r1, hr1, rfl⟩, hb⟩
  have H2 := hide ((unhide HD).go hb)
  clear hb
  refine hK.out _ _ (⟨_, unhide H2⟩) (fun _ => ?_)
  clear hK K
  go_simp
  refine wpAnyH_ready (rs := [3]) (by kernel_rfl) (by simp) ?_
  refine AllReadyH.cons (o := _) rfl (fun K hK => ?_) AllReadyH.nil
  go_simp
  refine (m61 _ b).mono ?_
  rintro e w3 ⟨⟨r3, hr3, rfl⟩, hb⟩
  have H3 := hide ((unhide H2).go hb)
  clear hb
  refine hK.out _ _ (⟨_, unhide H3⟩) (fun _ => ?_)
  clear hK K
  go_simp
  refine wpAnyH_ready (rs := [4]) (by kernel_rfl) (by simp) ?_
  refine AllReadyH.cons (o := _) rfl (fun K hK => ?_) AllReadyH.nil
  go_simp
  refine (mul_any r1 r3 _).mono ?_
  rintro e w4 ⟨rfl, hb⟩
  have H4 := hide ((unhide H3).go hb)
  clear hb
  refine hK.out _ _ (⟨_, unhide H4⟩) (fun _ => ?_)
  clear hK K
  go_simp
  refine wpAnyH_ready (rs := [5]) (by kernel_rfl) (by simp) ?_
  refine AllReadyH.cons (o := _) rfl (fun K hK => ?_) AllReadyH.nil
  go_simp
  refine (m59 _ _).mono ?_
  rintro e w5 ⟨x, y, rfl, hb⟩
  have H5 := hide ((unhide H4).go hb)
  clear hb
  refine hK.out _ _ (⟨_, unhide H5⟩) (fun _ => ?_)
  clear hK K
  go_simp
  obtain ⟨⟨p0, p1⟩, ⟨q0, q1⟩, ⟨r0, r1⟩, ⟨g0, g1⟩, z⟩ := (unhide H5).cells
  have HB := hide (unhide H5).b
  refine wpAnyH_ready (rs := [6]) (by kernel_rfl) (by simp) ?_
  refine AllReadyH.cons (o := _) rfl (fun K hK => ?_) AllReadyH.nil
  go_simp
  refine hK.out _ _ ⟨_, ((unhide H5).set 0 _).set 1 _⟩ (fun _ => ?_)
  clear hK K
  go_simp
  refine wpAnyH_done (by kernel_rfl) ?_ _
  go_wp2_with fail
  refine bodyPost_ret (v := .agg #[.int .i64 x, .int .i64 y]) ?_ rfl ?_
  · rw [results_cell_one rfl]
    go_simp
  · refine ⟨_, _, rfl, ?_⟩
    repeat (first | refine Below.setCell ?_ (by first | (simp; done) | (simp; omega)) _ | (with_reducible exact unhide HB))
set_option maxRecDepth 100000 in
set_option maxHeartbeats 800000 in
theorem m46_3 (w : World) (a b : Int) : Calls Try.prog 46 #[.agg #[.int .i64 3, .int .i64 a], .agg #[.int .i64 3, .int .i64 b]] w fun e w' => VA w e w' := by
  have H0 := hide (Bx.made w #[.int .i64 3, .int .i64 a] #[.int .i64 3, .int .i64 b] #[.int .i64 0, .int .i64 0])
  go_enter Try.func46, Try.ntmps46
  go_wp2_with fail
  refine (m65 _ 3 a b (.inr rfl)).mono ?_
  rintro e w1 ⟨rfl, hb⟩
  have H1 := hide ((unhide H0).go hb)
  clear hb
  clear H0
  go_wp2_with fail
  refine wp_region_held_drew (S := (fun W => ∃ a3, Bx w #[.int .i64 3, .int .i64 a] #[.int .i64 3, .int .i64 b] a3 W)) (by kernel_rfl) (⟨_, (unhide H1).drew⟩) (fun hHeld => ?_)
  clear hHeld
  refine wpAnyH_take (i := 0) (oi := _) (v := .agg #[.int .i64 3, .int .i64 a]) rfl (by kernel_rfl) (by kernel_rfl) (by kernel_rfl) (fun _ _ _ h => h) (Or.inl ⟨by rfl, (by intro w' hSw; obtain ⟨a3, hSw⟩ := hSw; obtain ⟨⟨p0, p1⟩, ⟨q0, q1⟩⟩ := hSw.two; go_simp)⟩) ⟨_, (unhide H1).drew⟩ ?_
  go_simp
  refine wpAnyH_take (i := 2) (oi := _) (v := .agg #[.int .i64 3, .int .i64 b]) rfl (by kernel_rfl) (by kernel_rfl) (by kernel_rfl) (fun _ _ _ h => h) (Or.inl ⟨by rfl, (by intro w' hSw; obtain ⟨a3, hSw⟩ := hSw; obtain ⟨⟨p0, p1⟩, ⟨q0, q1⟩⟩ := hSw.two; go_simp)⟩) ⟨_, (unhide H1).drew⟩ ?_
  go_simp
  have HD := hide (unhide H1).drew
  refine wpAnyH_ready (rs := [1]) (by kernel_rfl) (by simp) ?_
  refine AllReadyH.cons (o := _) rfl (fun K hK => ?_) AllReadyH.nil
  go_simp
  refine (m61 _ a).mono ?_
  rintro e w2 ⟨⟨r1, hr1, rfl⟩, hb⟩
  have H2 := hide ((unhide HD).go hb)
  clear hb
  refine hK.out _ _ (⟨_, unhide H2⟩) (fun _ => ?_)
  clear hK K
  go_simp
  refine wpAnyH_ready (rs := [3]) (by kernel_rfl) (by simp) ?_
  refine AllReadyH.cons (o := _) rfl (fun K hK => ?_) AllReadyH.nil
  go_simp
  refine (m61 _ b).mono ?_
  rintro e w3 ⟨⟨r3, hr3, rfl⟩, hb⟩
  have H3 := hide ((unhide H2).go hb)
  clear hb
  refine hK.out _ _ (⟨_, unhide H3⟩) (fun _ => ?_)
  clear hK K
  go_simp
  refine wpAnyH_ready (rs := [4]) (by kernel_rfl) (by simp) ?_
  refine AllReadyH.cons (o := _) rfl (fun K hK => ?_) AllReadyH.nil
  go_simp
  refine (div_any r1 r3 _).mono ?_
  rintro e w4 ⟨rfl, hb⟩
  have H4 := hide ((unhide H3).go hb)
  clear hb
  refine hK.out _ _ (⟨_, unhide H4⟩) (fun _ => ?_)
  clear hK K
  go_simp
  refine wpAnyH_ready (rs := [5]) (by kernel_rfl) (by simp) ?_
  refine AllReadyH.cons (o := _) rfl (fun K hK => ?_) AllReadyH.nil
  go_simp
  refine (m59 _ _).mono ?_
  rintro e w5 ⟨x, y, rfl, hb⟩
  have H5 := hide ((unhide H4).go hb)
  clear hb
  refine hK.out _ _ (⟨_, unhide H5⟩) (fun _ => ?_)
  clear hK K
  go_simp
  obtain ⟨⟨p0, p1⟩, ⟨q0, q1⟩, ⟨r0, r1⟩, ⟨g0, g1⟩, z⟩ := (unhide H5).cells
  have HB := hide (unhide H5).b
  refine wpAnyH_ready (rs := [6]) (by kernel_rfl) (by simp) ?_
  refine AllReadyH.cons (o := _) rfl (fun K hK => ?_) AllReadyH.nil
  go_simp
  refine hK.out _ _ ⟨_, ((unhide H5).set 0 _).set 1 _⟩ (fun _ => ?_)
  clear hK K
  go_simp
  refine wpAnyH_done (by kernel_rfl) ?_ _
  go_wp2_with fail
  refine bodyPost_ret (v := .agg #[.int .i64 x, .int .i64 y]) ?_ rfl ?_
  · rw [results_cell_one rfl]
    go_simp
  · refine ⟨_, _, rfl, ?_⟩
    repeat (first | refine Below.setCell ?_ (by first | (simp; done) | (simp; omega)) _ | (with_reducible exact unhide HB))
end Go.Proofs.Ytncmegafkccblaa
