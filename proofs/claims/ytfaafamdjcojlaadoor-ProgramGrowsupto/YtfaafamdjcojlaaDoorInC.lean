/-
  A constant that came in.
-/
import Derived.Test.YtfaafamdjcojlaaDoorHand
namespace Go.Proofs.YtfaafamdjcojlaaDoor
open Go.ChangeShapes Go.WideShapes Go.ChangeAt Go.RowKit Go.Joins
set_option linter.unusedVariables false
set_option maxRecDepth 100000 in
theorem into.inC {H : Type} {enc : TypeId × Value → H} {W : World} {base : Nat} {v : Value} {d : DataW H} {p : List MemPlace} (hv : Value.okWide Tryd.prog W .any base 39 v) (h : DataW.Trod enc Tryd.prog W 0 (fun _ => true) true 39 v d p) :
    ∃ c : Cn, v = .agg #[.int .i64 c.kind, .int .i64 c.n, .string c.text] ∧ OkC c := by
  obtain ⟨fuel, hf⟩ := h
  obtain ⟨cs, rfl, hcs⟩ := okWide_struct Tryd.underlying39 hv
  rw [into.cellsC] at hcs
  obtain ⟨cl⟩ := cs
  simp only [Value.cells] at hf
  obtain ⟨x, e, hx⟩ := into.con_cells fuel cl _ hcs hf
  subst e
  have wf : ∀ k : Int, into.I64' k → (Lit.int .i64 k).wf = true := fun k hk => by
    unfold into.I64' at hk
    exact Go.WalkArith.wf_i64 ⟨by omega, by omega⟩
  exact ⟨x, rfl, wf _ hx.1, wf _ hx.2.1, hx.2.2⟩
end Go.Proofs.YtfaafamdjcojlaaDoor
