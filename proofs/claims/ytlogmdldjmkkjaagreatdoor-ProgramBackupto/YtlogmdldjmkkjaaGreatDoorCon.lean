/-
  The document's fault of one constant.
-/
import Derived.Test.YtlogmdldjmkkjaaGreatDoorConsts
namespace Go.Proofs.YtlogmdldjmkkjaaGreatDoor
open Go.RowKit Go.Maps
set_option linter.unusedVariables false
set_option linter.unusedSimpArgs false
noncomputable section
open Classical
def conE (c : Cn) (pre : List Cn) : Int := if rfB c = false then 4 else if c.text.size > 4096 then 5 else if c ∈ pre then 15 else 0
theorem cn_ne {c d : Cn} (h : c ≠ d) : ((c.kind == d.kind) && ((c.n == d.n) && (c.text.toList == d.text.toList))) = false := by
  by_cases h1 : c.kind = d.kind
  · by_cases h2 : c.n = d.n
    · have h3 : c.text ≠ d.text := fun e => h (by cases c; cases d; simp at h1 h2 e; simp [h1, h2, e])
      have h4 : c.text.toList ≠ d.text.toList := fun e => h3 (by
        rw [ByteArray.toList_eq, ByteArray.toList_eq] at e
        cases hc : c.text; cases hd : d.text
        rw [hc, hd] at e
        simp at e
        rw [e])
      rw [beq_eq_false_iff_ne.2 h4]; simp
    · rw [beq_eq_false_iff_ne.2 h2]; simp
  · rw [beq_eq_false_iff_ne.2 h1]; simp
end
end Go.Proofs.YtlogmdldjmkkjaaGreatDoor
