/-
  Small things of the book (2).
-/
import Derived.Test.YtjjfpokmpcpicaaBkB
import Derived.Test.YtjjfpokmpcpicaaSoP
import Derived.Lib.RowBridge
import Derived.Lib.SortBridge
namespace Go.Proofs.Ytjjfpokmpcpicaa
open Go.RowKit Go.Sort Go.Lib
set_option linter.unusedVariables false
set_option linter.unusedSimpArgs false
theorem arr_split {α : Type} (a b : Array α) (h : a.size ≤ b.size) (hk : ∀ k, k < a.size → b[k]? = a[k]?) : b = a ++ b.extract a.size b.size := by
  refine Array.ext_getElem? (fun i => ?_)
  rw [Array.getElem?_append]
  by_cases q : i < a.size
  · rw [if_pos q]; exact hk i q
  · rw [if_neg q, Array.getElem?_extract, Nat.min_self]
    by_cases r : i < b.size
    · rw [if_pos (by omega), show a.size + (i - a.size) = i by omega]
    · rw [if_neg (by omega), Array.getElem?_eq_none (by omega)]
theorem grow_of {W w' : World} (h : Below W.heap.size W w') (hd : W.drawn ≤ w'.drawn) : ∃ q os', w' = Go.Sort.grow (W.drewN q) os' := by
  have hh := arr_split W.heap w'.heap h.size h.block
  refine ⟨w'.drawn - W.drawn, w'.heap.extract W.heap.size w'.heap.size, ?_⟩
  have h1 := h.os
  have h2 := h.tape
  have h3 := h.output
  have h4 : w'.drawn = W.drawn + (w'.drawn - W.drawn) := by omega
  unfold Go.Sort.grow World.drewN
  obtain ⟨heap', tape', drawn', os', out'⟩ := w'
  simp only at hh h1 h2 h3 h4 ⊢
  rw [← hh, ← h4, h1, h2, h3]
theorem Gx.mk1 {T : Type} {w wr w' : World} {sz : Nat} {en : T → List Value} {l : List T} {v : Value} (h : Gx w sz en l v wr) (k : Below wr.heap.size wr w') : Gx w sz en l v w' :=
  ⟨h.1.fr (Fr.of_below (S := fun _ => False) k) (fun _ _ e => e), bl_past h.2.1 k, h.2.2⟩
theorem growW_fr0 (w : World) (os : Array Obj) : Fr (fun _ => False) w (grow w os) := by
  refine ⟨rfl, rfl, rfl, by simp [grow], fun k hk _ => ?_⟩
  show (w.heap ++ os)[k]? = w.heap[k]?
  rw [Array.getElem?_append_left hk]
end Go.Proofs.Ytjjfpokmpcpicaa
