/-
  Frames in memory: read, copied, held against each other.
-/
import Derived.Test.YtfoanikkngmeiaaVals
namespace Go.Proofs.Ytfoanikkngmeiaa
open Go.RowKit
set_option linter.unusedVariables false
set_option linter.unusedSimpArgs false
theorem one_sl {v : Value} {w : World} {sz n : Nat} {xs : List Value} (h : Rx w sz v n xs) : v.oneCell' = true := by
  obtain ⟨_, a, c, rfl, _⟩ := h
  rfl
theorem box3 {w wr : World} {u v x : Value} {e : TypeId} {B : Nat} (h : Below B (w.alloc (.cells #[u, v, x] e)) wr) (hB : w.heap.size < B) : wr.cell? ⟨w.heap.size, 0, none⟩ = some u ∧ wr.cell? ⟨w.heap.size, 1, none⟩ = some v ∧ wr.cell? ⟨w.heap.size, 2, none⟩ = some x := by
  have n0 := new_cells w #[u, v, x] e 0 u rfl
  have n1 := new_cells w #[u, v, x] e 1 v rfl
  have n2 := new_cells w #[u, v, x] e 2 x rfl
  rw [Go.WideShapes.add_plain, Nat.zero_add] at n0 n1 n2
  exact ⟨(h.cell (p := ⟨w.heap.size, 0, none⟩) hB).trans n0, (h.cell (p := ⟨w.heap.size, 1, none⟩) hB).trans n1, (h.cell (p := ⟨w.heap.size, 2, none⟩) hB).trans n2⟩
theorem results_cell_one {fn : Func} {p : Tmp} {ty : TypeId} (h : fn.results = #[.cell p ty]) (tmps : Array Value) (P : Program) (w : World) :
    (results fn tmps).run P w = ((asAddr (tmps.getD p undef)).run P w).andThen fun a w₁ => (loadVar ty a).run P w₁ := by
  simp only [results, h]
  simp [Sem.run_bind, Result.andThen]
theorem blk1 (w : World) (o1 : Obj) : (w.alloc o1).heap[w.heap.size]? = some o1 := heap_alloc_new w o1
theorem blk3 (w : World) (o1 o2 o3 : Obj) : (((w.alloc o1).alloc o2).alloc o3).heap[w.heap.size]? = some o1 ∧ (((w.alloc o1).alloc o2).alloc o3).heap[w.heap.size + 1]? = some o2 ∧ (((w.alloc o1).alloc o2).alloc o3).heap[w.heap.size + 1 + 1]? = some o3 := by
  refine ⟨?_, ?_, ?_⟩
  · rw [Below.heap_alloc _ _ _ (by simp only [World.size_alloc]; omega), Below.heap_alloc _ _ _ (by simp only [World.size_alloc]; omega)]; exact heap_alloc_new w o1
  · rw [Below.heap_alloc _ _ _ (by simp only [World.size_alloc]; omega)]
    have := heap_alloc_new (w.alloc o1) o2
    simpa only [World.size_alloc] using this
  · have := heap_alloc_new ((w.alloc o1).alloc o2) o3
    simpa only [World.size_alloc] using this
theorem blk_cells {w : World} {k : Nat} {arr : Array Value} {t : TypeId} (h : w.heap[k]? = some (.cells arr t)) : (∀ j, w.cell? ⟨k, j, none⟩ = arr[j]?) ∧ (∀ j, w.frozen? ⟨k, j, none⟩ = false) ∧ k < w.heap.size :=
  ⟨fun j => by simp [World.cell?, h], fun j => by simp [World.frozen?, h], (Array.getElem?_eq_some_iff.1 h).1⟩
theorem Below.alloc3 (w : World) (o1 o2 o3 : Obj) : Below w.heap.size w (((w.alloc o1).alloc o2).alloc o3) :=
  (((Below.refl _ w).alloc (Nat.le_refl _) o1).alloc (by simp only [World.size_alloc]; omega) o2).alloc (by simp only [World.size_alloc]; omega) o3
end Go.Proofs.Ytfoanikkngmeiaa
