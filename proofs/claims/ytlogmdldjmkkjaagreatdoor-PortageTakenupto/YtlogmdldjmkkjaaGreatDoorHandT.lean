/-
  What came in: a program, bytes; the laid variables.
-/
import Derived.Test.YtlogmdldjmkkjaaGreatDoorCards
import Derived.Test.YtlogmdldjmkkjaaGreatDoorTie
import Derived.Test.YtlogmdldjmkkjaaGreatDoorDDe
import Derived.Test.YtlogmdldjmkkjaaGreatDoorPIn
import Derived.WalkKit
import Derived.ProofKit
import Derived.OpenShut
import Derived.ShutString
import Derived.ChangeOld
import Derived.Below
import Derived.SizedLaws
import Derived.Lib.SmallJoins
import Derived.LaidHandle
import Derived.LaidOnce
import Derived.SevenTiedAt
import Derived.Deep.DeepHandedRow
import Derived.JoinedCond
namespace Go.Proofs.YtlogmdldjmkkjaaGreatDoor
open Go.ChangeShapes Go.WideShapes Go.ChangeAt Go.RowKit Go.Joins
set_option linter.unusedVariables false
set_option maxRecDepth 100000
namespace into
end into
theorem into.okp {p : Pg} (h3 : ∀ (i : Nat) (f : Fc), p.funcs[i]? = some f → into.okF f) (h4 : ∀ c ∈ p.consts, into.okC c) : OkP p := by
  have wf : ∀ k : Int, into.I64' k → (Lit.int .i64 k).wf = true := fun k hk => by
    unfold into.I64' at hk
    exact Go.WalkArith.wf_i64 ⟨by omega, by omega⟩
  refine ⟨fun c hc => ⟨wf _ (h4 c hc).1, wf _ (h4 c hc).2.1, (h4 c hc).2.2⟩, fun i f hf => ⟨Nat.le_trans (h3 i f hf).1 (by decide), ?_⟩⟩
  have := (h3 i f hf).2.2.1
  unfold maxLen at this
  omega
theorem Tryz.tsize : Tryz.prog.types.size = 324 := by kernel_rfl
theorem Tryz.oneRow : ((List.range 324).filter fun t => Tryz.prog.rowNamed t [101, 114, 114, 111, 114]) = [96] := by kernel_rfl
theorem Tryz.et : Tryz.prog.globalNamed "errors.errorType" = some 0 := by kernel_rfl
theorem laid_of {W : World} (h : laidMetH Tryz.prog Rows.portageTakenUptoRow.laid W) : Laid W := by
  have h' : laidMet Tryz.prog [] W ∧ handlesMet Tryz.prog Rows.portageTakenUptoRow.laid W := h
  obtain ⟨name, u, ty, e1, e2, e3, e4, e5⟩ := h'.2 _ (List.mem_singleton.2 rfl)
  have en : name = [101, 114, 114, 111, 114] := (Option.some.inj e1).symm
  subst en
  have eu : some 257 = some u := by rw [← e2]; kernel_rfl
  obtain rfl := Option.some.inj eu
  have hm : ty ∈ (List.range 324).filter fun t => Tryz.prog.rowNamed t [101, 114, 114, 111, 114] := List.mem_filter.2 ⟨List.mem_range.2 (by rw [← Tryz.tsize]; exact e3), e4⟩
  rw [Tryz.oneRow] at hm
  obtain rfl := List.mem_singleton.1 hm
  have hh : typeHandle Tryz.prog 96 = .pointer (some ⟨2, 96, none⟩) := by kernel_rfl
  rw [hh] at e5
  unfold Laid
  simpa using World.var?_cell Tryz.et e5 0
noncomputable def lay0 (h : Array Obj) : Array Obj := h.modify 0 fun
  | .cells _ t frozen => .cells #[.iface 257 (.agg #[.pointer (some ⟨2, 96, none⟩)])] t frozen
  | o => o
noncomputable def laidWorld (os : Os) : World :=
  { World.holding Tryz.prog os ⟨#[], #[], []⟩ with heap := lay0 (World.holding Tryz.prog os ⟨#[], #[], []⟩).heap }
theorem laidWorld_met (os : Os) (args : Array Value) : laidMetH Tryz.prog Rows.portageTakenUptoRow.laid ((laidWorld os).forCall (fun _ _ => 0) ⟨#[], args, []⟩).memory :=
  laidMetH_of_parts (laidMet_nil _ _) (by kernel_rfl)
end Go.Proofs.YtlogmdldjmkkjaaGreatDoor
