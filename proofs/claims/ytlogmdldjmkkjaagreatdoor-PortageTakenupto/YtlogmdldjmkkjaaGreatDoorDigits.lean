/-
  The digits of a form. (No Go in sight.)
-/
import Derived.Test.YtlogmdldjmkkjaaGreatDoorMath
namespace Go.Proofs.YtlogmdldjmkkjaaGreatDoor.Wm
open Go

end Go.Proofs.YtlogmdldjmkkjaaGreatDoor.Wm
