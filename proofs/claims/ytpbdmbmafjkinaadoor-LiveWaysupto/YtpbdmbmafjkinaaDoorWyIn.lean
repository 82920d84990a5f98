/-
  LiveWays, of a code that came in.
-/
import Derived.Test.YtpbdmbmafjkinaaDoorCIn2
import Derived.Test.YtpbdmbmafjkinaaDoorWl
namespace Go.Proofs.YtpbdmbmafjkinaaDoor.into
open Go.RowKit
set_option linter.unusedVariables false
theorem waysIn {W : World} {v : Value} (h : CoI2 W v) (hT : TT W) : Calls Tryd.prog 5 #[v] W fun e w' => e = .returned (.bool true) ∧ Below W.heap.size W w' := by
  obtain ⟨fn, regs, bl, bv, rfl, h1, h2, h3, h4⟩ := h
  exact waysLaw h1 (fun b hb => (h3 b hb).l) h2 hT
end Go.Proofs.YtpbdmbmafjkinaaDoor.into
