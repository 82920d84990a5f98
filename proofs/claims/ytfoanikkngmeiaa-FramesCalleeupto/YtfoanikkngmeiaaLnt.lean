/-
  lent: a state in memory of its own, and its rooms.
-/
import Derived.Test.YtfoanikkngmeiaaLni
import Derived.Laws.ResultCell
namespace Go.Proofs.Ytfoanikkngmeiaa
open Go.RowKit
set_option linter.unusedVariables false
set_option linter.unusedSimpArgs false
theorem blk2 (w : World) (o1 o2 : Obj) : ((w.alloc o1).alloc o2).heap[w.heap.size]? = some o1 ∧ ((w.alloc o1).alloc o2).heap[w.heap.size + 1]? = some o2 := by
  refine ⟨?_, ?_⟩
  · rw [Below.heap_alloc _ _ _ (by simp only [World.size_alloc]; omega)]; exact heap_alloc_new w o1
  · have := heap_alloc_new (w.alloc o1) o2
    simpa only [World.size_alloc] using this
theorem upto_room {w : World} {l : List (Int × Int)} {g off n cap : Nat} (h : PR w l (.slice (some ⟨g, off, none⟩) n cap)) : Ro w 2 (.slice (some ⟨g, off, none⟩) l.length cap) l.length (flt enI l) := by
  obtain ⟨_, _, e, _⟩ := h.shape
  cases e
  have := h.upto rfl (k := l.length) (by omega)
  rw [flt_take zI, List.take_left' rfl] at this
  exact this
/-- Where a row of one's own is that has something. -/
theorem OW.at {T U : Type} {en : T → List Value} {sz : Nat} {P : World → U → T → Prop} {bl : T → Nat → Prop} {Z : Nat → Prop} {w : World} {a : Option Addr} {n cap : Nat} {us : List U} {xs : List T} (hz : ∀ x, (en x).length = sz) (h : OW en sz P bl Z w (.slice a n cap) us xs) {i : Nat} {u : U} (hu : us[i]? = some u) :
    ∃ g off x, a = some ⟨g, off, none⟩ ∧ n = us.length ∧ xs[i]? = some x ∧ P w u x ∧ g < w.heap.size ∧ (∀ (j : Nat) z, (en x)[j]? = some z → w.cell? ⟨g, off + i * sz + j, none⟩ = some z) ∧ ∀ k, w.frozen? ⟨g, k, none⟩ = false := by
  have hi := (List.getElem?_eq_some_iff.1 hu).1
  have hl := h.len
  obtain ⟨_, _, e2, _⟩ := h.row.shape
  cases e2
  have hx : xs[i]? = some (xs[i]'(by omega)) := List.getElem?_eq_getElem (by omega)
  have hr : Rx w sz (.slice a us.length cap) xs.length (flt en xs) := by rw [hl]; exact Rx.of_ro h.row
  obtain ⟨g, off, cap', e, _, _, hb, hc⟩ := hr.elem hz hx
  injection e with e1 _ _
  subst e1
  exact ⟨g, off, _, rfl, rfl, hx, h.el i u _ hu hx, hb, hc, fun k => h.row.free rfl k⟩
end Go.Proofs.Ytfoanikkngmeiaa
