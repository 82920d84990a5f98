/-
  LiveMemory, of a code that came in.
-/
import Derived.Test.YtiamoinhmkhaoaaCIn2
import Derived.Test.YtiamoinhmkhaoaaLm
namespace Go.Proofs.Ytiamoinhmkhaoaa.into
open Go.RowKit
set_option linter.unusedVariables false
theorem memIn {W : World} {v : Value} (h : CoI2 W v) : Calls Try.prog 4 #[v] W fun e w' => e = .returned (.bool true) ∧ Below W.heap.size W w' := by
  obtain ⟨fn, regs, bl, bv, rfl, h1, h2, h3, h4⟩ := h
  exact memLaw h1 h3 h2 h4
end Go.Proofs.Ytiamoinhmkhaoaa.into
