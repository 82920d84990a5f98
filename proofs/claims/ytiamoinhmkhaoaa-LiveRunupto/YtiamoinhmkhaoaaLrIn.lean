/-
  LiveRun, of codes that came in.
-/
import Derived.Test.YtiamoinhmkhaoaaCIn2
import Derived.Test.YtiamoinhmkhaoaaLr
namespace Go.Proofs.Ytiamoinhmkhaoaa.into
open Go.RowKit
set_option linter.unusedVariables false
theorem runIn {W : World} {v v' : Value} (h : CoI2 W v) (h' : CoI2 W v') : Calls Try.prog 3 #[v, v'] W fun e w' => e = .returned (.bool true) ∧ Below W.heap.size W w' := by
  obtain ⟨fn, regs, bl, bv, rfl, h1, h2, h3, h4⟩ := h
  obtain ⟨fn', regs', bl', bv', rfl, q1, q2, q3, q4⟩ := h'
  exact runLaw h1 h3 h2 h4 q1 q3 q2
end Go.Proofs.Ytiamoinhmkhaoaa.into
