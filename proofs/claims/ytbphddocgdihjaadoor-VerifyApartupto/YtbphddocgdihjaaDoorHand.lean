/-
  The laid variable: what the condition gives a walk, and a world that meets it.
-/
import Derived.Test.YtbphddocgdihjaaDoorCards
import Derived.Test.YtbphddocgdihjaaDoorTie
import Derived.Test.YtbphddocgdihjaaDoorVFall
import Derived.Test.YtbphddocgdihjaaDoorPIn
import Derived.LaidHandle
import Derived.LaidOnce
import Derived.SevenTiedAt
import Derived.Deep.DeepHandedRow
import Derived.JoinedCond
namespace Go.Proofs.YtbphddocgdihjaaDoor
open Go.ChangeShapes Go.WideShapes Go.ChangeAt Go.RowKit Go.Joins
set_option linter.unusedVariables false
theorem Tryd.tsize : Tryd.prog.types.size = 184 := by kernel_rfl
theorem Tryd.oneRow : ((List.range 184).filter fun t => Tryd.prog.rowNamed t [101, 114, 114, 111, 114]) = [59] := by kernel_rfl
theorem Tryd.et : Tryd.prog.globalNamed "errors.errorType" = some 0 := by kernel_rfl
theorem laid_of {W : World} (h : laidMetH Tryd.prog Rows.verifyHeightsRow.laid W) : Laid W := by
  have h' : laidMet Tryd.prog [] W ∧ handlesMet Tryd.prog Rows.verifyHeightsRow.laid W := h
  obtain ⟨name, u, ty, e1, e2, e3, e4, e5⟩ := h'.2 _ (List.mem_singleton.2 rfl)
  have en : name = [101, 114, 114, 111, 114] := (Option.some.inj e1).symm
  subst en
  have eu : some 132 = some u := by rw [← e2]; kernel_rfl
  obtain rfl := Option.some.inj eu
  have hm : ty ∈ (List.range 184).filter fun t => Tryd.prog.rowNamed t [101, 114, 114, 111, 114] := List.mem_filter.2 ⟨List.mem_range.2 (by rw [← Tryd.tsize]; exact e3), e4⟩
  rw [Tryd.oneRow] at hm
  obtain rfl := List.mem_singleton.1 hm
  have hh : typeHandle Tryd.prog 59 = .pointer (some ⟨1, 59, none⟩) := by kernel_rfl
  rw [hh] at e5
  unfold Laid
  simpa using World.var?_cell Tryd.et e5 0
noncomputable def laidWorld (os : Os) : World :=
  { World.holding Tryd.prog os ⟨#[], #[], []⟩ with heap := (World.holding Tryd.prog os ⟨#[], #[], []⟩).heap.modify 0 fun
      | .cells _ t frozen => .cells #[.iface 132 (.agg #[.pointer (some ⟨1, 59, none⟩)])] t frozen
      | o => o }
theorem laidWorld_met (os : Os) (args : Array Value) : laidMetH Tryd.prog Rows.verifyHeightsRow.laid ((laidWorld os).forCall (fun _ _ => 0) ⟨#[], args, []⟩).memory :=
  laidMetH_of_parts (laidMet_nil _ _) (by kernel_rfl)
/-- What came in, as the laws ask it. -/
theorem into.okp {p : Pg} (h3 : ∀ (i : Nat) (f : Fc), p.funcs[i]? = some f → into.okF f) (h4 : ∀ c ∈ p.consts, into.okC c) : OkP p := by
  have wf : ∀ k : Int, into.I64' k → (Lit.int .i64 k).wf = true := fun k hk => by
    unfold into.I64' at hk
    exact Go.WalkArith.wf_i64 ⟨by omega, by omega⟩
  refine ⟨fun c hc => ⟨wf _ (h4 c hc).1, wf _ (h4 c hc).2.1, (h4 c hc).2.2⟩, fun i f hf => ⟨Nat.le_trans (h3 i f hf).1 (by decide), ?_⟩⟩
  have := (h3 i f hf).2.2.1
  unfold maxLen at this
  omega
end Go.Proofs.YtbphddocgdihjaaDoor
