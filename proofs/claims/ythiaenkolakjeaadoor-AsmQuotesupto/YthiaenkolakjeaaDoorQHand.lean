/-
  The laid variables: a world that meets them.
-/
import Derived.Test.YthiaenkolakjeaaDoorRows
import Derived.Test.YthiaenkolakjeaaDoorCards
import Derived.Test.YthiaenkolakjeaaDoorTie
import Derived.Test.YthiaenkolakjeaaDoorQLaw
import Derived.ProofKit
import Derived.OpenShut
import Derived.ShutString
import Derived.ChangeOld
import Derived.SizedLaws
import Derived.Lib.SmallJoins
import Derived.LaidHandle
import Derived.LaidOnce
import Derived.SevenTiedAt
import Derived.Deep.DeepHandedRow
import Derived.JoinedCond
namespace Go.Proofs.YthiaenkolakjeaaDoor
open Go.ChangeShapes Go.WideShapes Go.ChangeAt Go.RowKit Go.Joins
set_option linter.unusedVariables false
theorem hown : ownKnob Tryd.prog.godebug = none := by kernel_rfl
def valOf : DataW Unit → Value
  | .lit (.int k z) => .int k z
  | _ => .int .u8 0
def valsOf : DataW Unit → List Value
  | .agg ps => ps.map valOf
  | _ => []
def bytOf : DataW Unit → ByteArray
  | .iface _ (.ptr (.agg [.lit (.string bs)])) => ⟨bs.toArray⟩
  | _ => ⟨#[]⟩
noncomputable def refill (w : World) (g : Nat) (vs : List Value) : World :=
  { w with heap := w.heap.modify g fun
      | .cells _ t frozen => .cells vs.toArray t frozen
      | o => o }
noncomputable def laidWorld (os : Os) : World :=
  let w0 := World.holding Tryd.prog os ⟨#[], #[], []⟩
  let w1 := refill (refill (refill w0 2 (valsOf Rows.laid_internal_strconv_uint64pow10)) 3 (valsOf Rows.laid_math_bits_deBruijn32tab)) 4 (valsOf Rows.laid_math_bits_deBruijn64tab)
  let w2 := refill (refill w1 1 [.iface 58 (.pointer (some ⟨w1.heap.size, 0, none⟩))]) 0 [.iface 58 (.pointer (some ⟨w1.heap.size + 1, 0, none⟩))]
  (w2.alloc (.cells #[.string (bytOf Rows.laid_strconv_ErrRange)] 60)).alloc (.cells #[.string (bytOf Rows.laid_strconv_ErrSyntax)] 60)
theorem laidWorld_met (os : Os) (args : Array Value) : laidMetH Tryd.prog Rows.asmQuotedRow.laid ((laidWorld os).forCall (fun _ _ => 0) ⟨#[], args, []⟩).memory :=
  laidMet_of_run' 8 (by kernel_rfl) (by kernel_rfl)
end Go.Proofs.YthiaenkolakjeaaDoor
