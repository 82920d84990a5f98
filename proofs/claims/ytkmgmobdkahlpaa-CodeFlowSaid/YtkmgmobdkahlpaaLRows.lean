/-
  The laws with all that comes in.
-/
import Derived.Test.YtkmgmobdkahlpaaLNames
import Derived.Test.YtkmgmobdkahlpaaLFlow
namespace Go.Proofs.Ytkmgmobdkahlpaa
open Go.RowKit
theorem namesRow (op : Int) (s : ByteArray) (w : World) (_ : -9223372036854775808 ≤ op) (_ : op ≤ 9223372036854775807) (_ : s.size ≤ maxLen) : Calls Try.prog 3 #[.int .i64 op, .string s] w fun e w' => e = .returned (.bool true) ∧ Below w.heap.size w w' := namesLaw op s w
theorem kindsRow (op : Int) (w : World) (_ : -9223372036854775808 ≤ op) (_ : op ≤ 9223372036854775807) : Calls Try.prog 4 #[.int .i64 op] w fun e w' => e = .returned (.bool true) ∧ Below w.heap.size w w' := kindsLaw op w
theorem flowRow (op : Int) (w : World) (_ : -9223372036854775808 ≤ op) (_ : op ≤ 9223372036854775807) : Calls Try.prog 8 #[.int .i64 op] w fun e w' => e = .returned (.bool true) ∧ Below w.heap.size w w' := flowLaw op w
end Go.Proofs.Ytkmgmobdkahlpaa
