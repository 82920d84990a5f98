/-
  The map of writes; what copies.Run does, told of lists.
-/
import Derived.Test.YtpbdmbmafjkinaaDoorRgK
import Derived.DeepKeys5
import Derived.Maps.Own
namespace Go.Proofs.YtpbdmbmafjkinaaDoor
open Go.RowKit Go.Maps
noncomputable section
open Classical
set_option linter.unusedVariables false
set_option linter.unusedSimpArgs false
def I64 (k : Int) : Prop := (Lit.int .i64 k).wf = true
def OkO (o : Op) : Prop := I64 o.k ∧ I64 o.n
/-- Right numbers. -/
def OkI (x : RIn) : Prop := I64 x.dst ∧ (∀ o ∈ x.args, OkO o) ∧ ∀ s ∈ x.ex, ∀ o ∈ s.sl, OkO o
theorem ok0 : OkO ⟨0, 0⟩ := ⟨by show (Lit.int .i64 0).wf = true; decide, by show (Lit.int .i64 0).wf = true; decide⟩
end
end Go.Proofs.YtpbdmbmafjkinaaDoor
