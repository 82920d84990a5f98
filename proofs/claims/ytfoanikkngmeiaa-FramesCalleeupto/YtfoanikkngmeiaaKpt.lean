/-
  kept: a state as it was lent.
-/
import Derived.Test.YtfoanikkngmeiaaLnt
namespace Go.Proofs.Ytfoanikkngmeiaa
open Go.RowKit
set_option linter.unusedVariables false
set_option linter.unusedSimpArgs false
theorem RmV.shape {w : World} {v : Value} {ls : List (List (Int × Int))} (h : RmV w v ls) : ∃ a cap, v = .slice a ls.length cap ∧ ls.length ≤ cap ∧ cap ≤ maxLen := by
  obtain ⟨R, h1, h2, _⟩ := h
  rw [h1] at h2
  exact h2.shape
theorem RmV.one {w : World} {a : Option Addr} {n cap : Nat} {ls : List (List (Int × Int))} (h : RmV w (.slice a n cap) ls) {i : Nat} {l : List (Int × Int)} (hl : ls[i]? = some l) :
    ∃ b off ra rc, a = some ⟨b, off, none⟩ ∧ b < w.heap.size ∧ w.cell? ⟨b, off + i, none⟩ = some (.slice ra (l.length + 64) rc) ∧ Rx w 2 (.slice ra (l.length + 64) rc) (l ++ mkV 64).length (flt enI (l ++ mkV 64)) ∧ l.length + 64 ≤ rc ∧ rc ≤ maxLen := by
  obtain ⟨R, h1, h2, h3⟩ := h
  have hi := (List.getElem?_eq_some_iff.1 hl).1
  have hx : R[i]? = some (R[i]'(by omega)) := List.getElem?_eq_getElem (by omega)
  obtain ⟨b, off, cap', e, _, _, hb, hc⟩ := h2.elem zV hx
  injection e with e1 _ _
  subst e1
  have h4 := h3 i l _ hl hx
  have h5 := hc 0 _ rfl
  obtain ⟨ra, rc, e2, f1, f2⟩ := h4.shape
  rw [e2] at h4 h5
  rw [Nat.mul_one, Nat.add_zero] at h5
  rw [lmV_length] at h5 f1
  refine ⟨b, off, ra, rc, rfl, hb, h5, ?_, f1, f2⟩
  rw [show (.slice ra (l.length + 64) rc : Value) = .slice ra (l ++ mkV 64).length rc by rw [lmV_length]]
  exact h4
end Go.Proofs.Ytfoanikkngmeiaa
