/-
  CopiesKeeps, of a code that came in.
-/
import Derived.Test.YtpbdpejhjdoleaaCIn
import Derived.Test.YtpbdpejhjdoleaaKpL
namespace Go.Proofs.Ytpbdpejhjdoleaa.into
open Go.RowKit
set_option linter.unusedVariables false
theorem keepsIn {W : World} {v : Value} (h : CoI W v) : Calls Try.prog 5 #[v] W fun e w' => e = .returned (.bool true) ∧ Below W.heap.size W w' := by
  obtain ⟨fn, regs, bl, bv, rfl, h1, h2, h3⟩ := h
  exact keepsLaw h1 h3 h2
end Go.Proofs.Ytpbdpejhjdoleaa.into
