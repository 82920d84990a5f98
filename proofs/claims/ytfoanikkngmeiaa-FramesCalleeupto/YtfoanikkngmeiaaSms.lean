/-
  States held against each other.
-/
import Derived.Test.YtfoanikkngmeiaaSmr
namespace Go.Proofs.Ytfoanikkngmeiaa
open Go.RowKit
set_option linter.unusedVariables false
set_option linter.unusedSimpArgs false
set_option linter.unusedVariables false
set_option linter.unusedSimpArgs false
end Go.Proofs.Ytfoanikkngmeiaa
