/-
  The document's fault of one constant.
-/
import Derived.Test.YtlogmdldjmkkjaaGreatDoorConsts
namespace Go.Proofs.YtlogmdldjmkkjaaGreatDoor
open Go.RowKit Go.Maps
set_option linter.unusedVariables false
set_option linter.unusedSimpArgs false
noncomputable section
open Classical
def conE (c : Cn) (pre : List Cn) : Int := if rfB c = false then 4 else if c.text.size > 4096 then 5 else if c ∈ pre then 15 else 0
end
end Go.Proofs.YtlogmdldjmkkjaaGreatDoor
