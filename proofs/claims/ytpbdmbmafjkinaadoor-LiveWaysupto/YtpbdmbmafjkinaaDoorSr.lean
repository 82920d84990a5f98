/-
  What an operand is known as; what an instruction moves; a register as an operand.
-/
import Derived.Test.YtpbdmbmafjkinaaDoorPri
namespace Go.Proofs.YtpbdmbmafjkinaaDoor
open Go.RowKit
set_option linter.unusedVariables false
set_option linter.unusedSimpArgs false
theorem box1n (w : World) (o : Obj) : Below w.heap.size w (w.alloc o) := (Below.refl _ w).alloc (Nat.le_refl _) _
/-- Boxes, each as it was made. -/
structure BX (w : World) (cs : List (Nat × Array Value × TypeId)) (W : World) : Prop where
  h : ∀ (i : Nat) (e : Nat × Array Value × TypeId), cs[i]? = some e → W.heap[e.1]? = some (.cells e.2.1 e.2.2)
  b : Below w.heap.size w W
section
variable {w W W' : World} {cs : List (Nat × Array Value × TypeId)}
theorem BX.nil (w : World) : BX w [] w := ⟨fun i e he => by simp at he, Below.refl _ w⟩
theorem BX.go (h : BX w cs W) (k : Below W.heap.size W W') : BX w cs W' := ⟨fun i e he => (k.block _ (Array.getElem?_eq_some_iff.1 (h.h i e he)).1).trans (h.h i e he), bl_past h.b k⟩
theorem BX.add (h : BX w cs W) (a : Array Value) (t : TypeId) : BX w (cs ++ [(W.heap.size, a, t)]) (W.alloc (.cells a t)) := by
  have g := h.go (box1n W (.cells a t))
  refine ⟨fun i e he => ?_, g.b⟩
  by_cases q : i < cs.length
  · exact g.h i e (by rw [List.getElem?_append_left q] at he; exact he)
  · rw [List.getElem?_append_right (by omega)] at he
    have : i - cs.length = 0 := by
      have := (List.getElem?_eq_some_iff.1 he).1
      simp at this; omega
    rw [this] at he
    cases he
    exact heap_alloc_new W _
theorem BX.fr {Z : Nat → Prop} (h : BX w cs W) (k : Fr Z W W') (hz : ∀ (i : Nat) (e : Nat × Array Value × TypeId), cs[i]? = some e → ¬ Z e.1) (hw : ∀ b, b < w.heap.size → ¬ Z b) : BX w cs W' :=
  ⟨fun i e he => (k.block _ (Array.getElem?_eq_some_iff.1 (h.h i e he)).1 (hz i e he)).trans (h.h i e he), h.b.trans (k.below h.b.size hw)⟩
theorem BX.lt (h : BX w cs W) {i : Nat} {e : Nat × Array Value × TypeId} (he : cs[i]? = some e) : e.1 < W.heap.size := (Array.getElem?_eq_some_iff.1 (h.h i e he)).1
theorem BX.ce (h : BX w cs W) (i : Nat) {e : Nat × Array Value × TypeId} (he : cs[i]? = some e) (j : Nat) : W.cell? ⟨e.1, j, none⟩ = e.2.1[j]? := (blk_cells (h.h i e he)).1 j
end
theorem BX.two (w : World) (a0 a1 : Array Value) (t0 t1 : TypeId) : BX w [(w.heap.size, a0, t0), (w.heap.size + 1, a1, t1)] ((w.alloc (.cells a0 t0)).alloc (.cells a1 t1)) := by
  have h := ((BX.nil w).add a0 t0).add a1 t1
  simpa only [World.size_alloc, List.nil_append, List.cons_append] using h
theorem BX.three (w : World) (a0 a1 a2 : Array Value) (t0 t1 t2 : TypeId) : BX w [(w.heap.size, a0, t0), (w.heap.size + 1, a1, t1), (w.heap.size + 1 + 1, a2, t2)] (((w.alloc (.cells a0 t0)).alloc (.cells a1 t1)).alloc (.cells a2 t2)) := by
  have h := (((BX.nil w).add a0 t0).add a1 t1).add a2 t2
  simpa only [World.size_alloc, List.nil_append, List.cons_append] using h
end Go.Proofs.YtpbdmbmafjkinaaDoor
