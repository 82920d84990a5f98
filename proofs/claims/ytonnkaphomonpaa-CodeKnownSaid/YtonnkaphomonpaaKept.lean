/-
  What was lent is as it was.
-/
import Derived.Test.YtonnkaphomonpaaLent
namespace Go.Proofs.Ytonnkaphomonpaa
open Go.RowKit

end Go.Proofs.Ytonnkaphomonpaa
