/-
  read, at another kind.
-/
import Derived.Test.YtjifgnpcadeonaaRead8
namespace Go.Proofs.Ytjifgnpcadeonaa
open Go.RowKit

end Go.Proofs.Ytjifgnpcadeonaa
