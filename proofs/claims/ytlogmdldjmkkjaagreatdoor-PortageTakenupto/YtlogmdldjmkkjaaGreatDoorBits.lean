/-
  bits.Len64 of this program by the library's contract.
-/
import Derived.Shelf.Small.Bits
import Derived.Test.YtlogmdldjmkkjaaGreatDoorProg
namespace Go.Proofs.YtlogmdldjmkkjaaGreatDoor
open Go.Shelf
end Go.Proofs.YtlogmdldjmkkjaaGreatDoor
