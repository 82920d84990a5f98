/-
  The laid tables: what they give a walk, and a world that meets them.
-/
import Derived.Test.YtpceokegcjombaaDoorCards
import Derived.Test.YtpceokegcjombaaDoorTie
import Derived.Test.YtpceokegcjombaaDoorLLaw
import Derived.Test.YtpceokegcjombaaDoorPIn
import Derived.Lib.LaidTab
import Derived.Stop.LaidErr
import Derived.LaidHandle
import Derived.LaidOnce
import Derived.SevenTiedAt
import Derived.Deep.DeepHandedRow
import Derived.JoinedCond
namespace Go.Proofs.YtpceokegcjombaaDoor
open Go.ChangeShapes Go.WideShapes Go.ChangeAt Go.RowKit Go.Joins
set_option linter.unusedVariables false
theorem t10_of {W : World} (h : laidMetH Tryd.prog Rows.listInstrUptoRow.laid W) : T10 W := by
  have h1 : laidMet Tryd.prog Rows.listInstrUptoRow.laid W := h
  have h3 : laidMet Tryd.prog [(tabName, Rows.laid_internal_strconv_uint64pow10)] W := laidMet.tail (laidMet.tail h1)
  have e : (Rows.laid_internal_strconv_uint64pow10 : DataW Unit) = Lib.tabData .u64 Lib.pow10Tab := by kernel_rfl
  rw [e] at h3
  exact Lib.tabIs_of_head (P := Tryd.prog) (W := W) (k := .u64) (zs := Lib.pow10Tab) (rest := []) (g := 0) (t := 91) (e := 53) (n := 20) (by kernel_rfl) (by kernel_rfl) Tryd.underlying91 Tryd.underlying53 (by kernel_rfl) (by kernel_rfl) h3
def valOf : DataW Unit → Value
  | .lit (.int k z) => .int k z
  | _ => .int .u8 0
def valsOf : DataW Unit → List Value
  | .agg ps => ps.map valOf
  | _ => []
noncomputable def refill (w : World) (g : Nat) (vs : List Value) : World :=
  { w with heap := w.heap.modify g fun
      | .cells _ t frozen => .cells vs.toArray t frozen
      | o => o }
noncomputable def laidWorld (os : Os) : World :=
  let w0 := World.holding Tryd.prog os ⟨#[], #[], []⟩
  refill (refill (refill w0 0 (valsOf Rows.laid_internal_strconv_uint64pow10)) 2 (valsOf Rows.laid_math_bits_deBruijn32tab)) 3 (valsOf Rows.laid_math_bits_deBruijn64tab)
theorem laidWorld_met (os : Os) (args : Array Value) : laidMetH Tryd.prog Rows.listInstrUptoRow.laid ((laidWorld os).forCall (fun _ _ => 0) ⟨#[], args, []⟩).memory :=
  laidMet_of_run' 8 (by kernel_rfl) (by kernel_rfl)
end Go.Proofs.YtpceokegcjombaaDoor
