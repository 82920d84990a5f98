/-
  LiveAfter, of a code that came in.
-/
import Derived.Test.YtpbdmbmafjkinaaDoorCIn2
import Derived.Test.YtpbdmbmafjkinaaDoorAfL
namespace Go.Proofs.YtpbdmbmafjkinaaDoor.into
open Go.RowKit
set_option linter.unusedVariables false
theorem afterIn {W : World} {v : Value} (h : CoI2 W v) (hT : TT W) (b i ob oi : Int) : Calls Tryd.prog 3 #[v, .int .i64 b, .int .i64 i, .int .i64 ob, .int .i64 oi] W fun e w' => e = .returned (.bool true) ∧ Below W.heap.size W w' := by
  obtain ⟨fn, regs, bl, bv, rfl, h1, h2, h3, h4⟩ := h
  exact afterLaw h1 h3 h2 h4 hT b i ob oi
end Go.Proofs.YtpbdmbmafjkinaaDoor.into
