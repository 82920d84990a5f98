/-
  The laid variable: what the condition gives a walk, and a world that meets it.
-/
import Derived.Test.YtfaafamdjcojlaaDoorCards
import Derived.Test.YtfaafamdjcojlaaDoorTie
import Derived.Test.YtfaafamdjcojlaaDoorChecks
import Derived.Test.YtfaafamdjcojlaaDoorPIn
import Derived.LaidHandle
import Derived.LaidOnce
import Derived.SevenTiedAt
import Derived.Deep.DeepHandedRow
import Derived.JoinedCond
namespace Go.Proofs.YtfaafamdjcojlaaDoor
open Go.ChangeShapes Go.WideShapes Go.ChangeAt Go.RowKit Go.Joins
set_option linter.unusedVariables false
theorem Tryd.tsize : Tryd.prog.types.size = 167 := by kernel_rfl
theorem Tryd.oneRow : ((List.range 167).filter fun t => Tryd.prog.rowNamed t [101, 114, 114, 111, 114]) = [68] := by kernel_rfl
theorem Tryd.et : Tryd.prog.globalNamed "errors.errorType" = some 0 := by kernel_rfl
theorem laid_of {W : World} (h : laidMetH Tryd.prog Rows.programChecksRow.laid W) : Laid W := by
  have h' : laidMet Tryd.prog [] W ∧ handlesMet Tryd.prog Rows.programChecksRow.laid W := h
  obtain ⟨name, u, ty, e1, e2, e3, e4, e5⟩ := h'.2 _ (List.mem_singleton.2 rfl)
  have en : name = [101, 114, 114, 111, 114] := (Option.some.inj e1).symm
  subst en
  have eu : some 112 = some u := by rw [← e2]; kernel_rfl
  obtain rfl := Option.some.inj eu
  have hm : ty ∈ (List.range 167).filter fun t => Tryd.prog.rowNamed t [101, 114, 114, 111, 114] := List.mem_filter.2 ⟨List.mem_range.2 (by rw [← Tryd.tsize]; exact e3), e4⟩
  rw [Tryd.oneRow] at hm
  obtain rfl := List.mem_singleton.1 hm
  have hh : typeHandle Tryd.prog 68 = .pointer (some ⟨1, 68, none⟩) := by kernel_rfl
  rw [hh] at e5
  unfold Laid
  simpa using World.var?_cell Tryd.et e5 0
noncomputable def laidWorld (os : Os) : World :=
  { World.holding Tryd.prog os ⟨#[], #[], []⟩ with heap := (World.holding Tryd.prog os ⟨#[], #[], []⟩).heap.modify 0 fun
      | .cells _ t frozen => .cells #[.iface 112 (.agg #[.pointer (some ⟨1, 68, none⟩)])] t frozen
      | o => o }
theorem laidWorld_met (os : Os) (args : Array Value) : laidMetH Tryd.prog Rows.programChecksRow.laid ((laidWorld os).forCall (fun _ _ => 0) ⟨#[], args, []⟩).memory :=
  laidMetH_of_parts (laidMet_nil _ _) (by kernel_rfl)
/-- What came in, as the laws ask it. -/
theorem into.inp {p : Pg} (h1 : p.funcs.length ≤ 1048576) (h2 : p.consts.length ≤ 1048576) (h3 : ∀ (i : Nat) (f : Fc), p.funcs[i]? = some f → into.okF f) (h4 : ∀ c ∈ p.consts, into.okC c) : InP p := by
  have wf : ∀ k : Int, into.I64' k → (Lit.int .i64 k).wf = true := fun k hk => by
    unfold into.I64' at hk
    exact Go.WalkArith.wf_i64 ⟨by omega, by omega⟩
  refine ⟨h1, h2, fun i f hf => ⟨(h3 i f hf).1, (h3 i f hf).2.1⟩, fun c hc => ⟨wf _ (h4 c hc).1, wf _ (h4 c hc).2.1, (h4 c hc).2.2⟩, fun i f hf => (h3 i f hf).2.2.1, fun i f hf q hq => ?_⟩
  have := ((h3 i f hf).2.2.2.2.2.1 q hq).2
  unfold into.I64' at this
  exact ⟨by omega, by omega⟩
end Go.Proofs.YtfaafamdjcojlaaDoor
