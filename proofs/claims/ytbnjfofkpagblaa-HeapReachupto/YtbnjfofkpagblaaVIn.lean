/-
  A row of values that came in.
-/
import Derived.Test.YtbnjfofkpagblaaSIn
namespace Go.Proofs.Ytbnjfofkpagblaa.into
open Go.ChangeShapes Go.WideShapes Go.ChangeAt Go.RowKit Go.Joins
set_option linter.unusedVariables false
section
variable {H : Type} {enc : TypeId × Value → H} {W : World}
set_option maxRecDepth 100000 in
theorem inVs {base : Nat} {v : Value} {d : DataW H} {p : List MemPlace} (hv : Value.okWide Try.prog W .any base 30 v) (h : DataW.Trod enc Try.prog W 0 (fun _ => true) true 30 v d p) (hb : Rows.uptoBulk d ≤ 1048576) :
    ∃ l : List (Int × Int), Rx W 2 v l.length (flt enI l) ∧ l.length < 1048576 ∧ ∀ p ∈ l, okI p := by
  obtain ⟨fuel, hf⟩ := h
  obtain ⟨a0, len0, cap0, rfl⟩ := okWide_slice Try.underlying30 hv
  simp only [Value.cells] at hf
  obtain ⟨l, ds, rs, hx, hl, hy, ho⟩ := rows_cell zI (by omega) ((0 : Int), (0 : Int)) Try.underlying30 cellsV (fun p _ => okI p) val_cells hf
  refine ⟨l, hx, Nat.lt_of_lt_of_le (less_of hy hl) hb, fun x hx => ?_⟩
  obtain ⟨i, hi, rfl⟩ := List.getElem_of_mem hx
  obtain ⟨_, _, h⟩ := ho i _ (List.getElem?_eq_getElem hi)
  exact h
end
end Go.Proofs.Ytbnjfofkpagblaa.into
