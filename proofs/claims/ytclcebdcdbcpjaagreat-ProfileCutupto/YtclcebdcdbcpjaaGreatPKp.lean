/-
  A profile that was lent is as it was.
-/
import Derived.Test.YtclcebdcdbcpjaaGreatPLn
namespace Go.Proofs.YtclcebdcdbcpjaaGreat
open Go.RowKit
set_option linter.unusedVariables false
set_option linter.unusedSimpArgs false
/-- One list of a lent profile: where it lies, and its marks. -/
theorem OW.mark {Z : Nat → Prop} {w : World} {a : Option Addr} {n cap : Nat} {f : List (List Sp)} {vs : List Value} (h : LO Z w (.slice a n cap) f vs) {i : Nat} {l : List Sp} (hl : f[i]? = some l) :
    ∃ b off gb go gc, a = some ⟨b, off, none⟩ ∧ b < w.heap.size ∧ w.cell? ⟨b, off + i, none⟩ = some (.slice (some ⟨gb, go, none⟩) l.length gc) ∧ l.length + 64 ≤ gc ∧ gc ≤ maxLen ∧ gb < w.heap.size ∧
      ∀ j, j < 64 → w.cell? ⟨gb, go + (l.length + j) * 4, none⟩ = some (.int .i64 (-9)) ∧ w.cell? ⟨gb, go + (l.length + j) * 4 + 1, none⟩ = some (.int .u16 0) ∧ w.cell? ⟨gb, go + (l.length + j) * 4 + 2, none⟩ = some (.int .u16 0) ∧ w.cell? ⟨gb, go + (l.length + j) * 4 + 3, none⟩ = some (.int .i64 (j : Int)) := by
  have hi := (List.getElem?_eq_some_iff.1 hl).1
  have hln := h.len
  have hx : vs[i]? = some (vs[i]'(by omega)) := List.getElem?_eq_getElem (by omega)
  have hrow := Rx.of_ro h.row
  rw [← hln] at hrow
  obtain ⟨b, off, cap', e, _, _, hb, hc⟩ := hrow.elem zV hx
  cases e
  obtain ⟨gb, go, gc, eu, hr⟩ := h.el i l _ hl hx
  rw [eu] at hc
  have hc0 := hc 0 _ rfl
  rw [Nat.mul_one, Nat.add_zero] at hc0
  obtain ⟨_, _, _, e2, m1, m2, m3, _⟩ := hr.full (by omega)
  cases e2
  refine ⟨b, off, gb, go, gc, rfl, hb, hc0, m1, m2, m3, fun j hj => ?_⟩
  have hat : (l ++ mkS 64)[l.length + j]? = some ⟨-9, 0, 0, (j : Int)⟩ := by
    rw [List.getElem?_append_right (by omega), show l.length + j - l.length = j by omega]; exact mkS_at hj
  have hrx := Rx.of_ro hr
  rw [show l.length + 64 = (l ++ mkS 64).length by rw [List.length_append, mkS_length]] at hrx
  obtain ⟨_, _, e3, _, s0, s1, s2, s3⟩ := hrx.spot hat
  cases e3
  exact ⟨s0, s1, s2, s3⟩
end Go.Proofs.YtclcebdcdbcpjaaGreat
