/-
  The variable ErrSyntax, as the row lays it.
-/
import Derived.Test.YthiaenkolakjeaaDoorQHand
import Derived.Test.YthiaenkolakjeaaDoorQShl
import Derived.Stop.LaidErr
import Derived.LaidLaws
namespace Go.Proofs.YthiaenkolakjeaaDoor
open Go.ChangeShapes Go.WideShapes Go.ChangeAt Go.RowKit Go.Joins
set_option linter.unusedVariables false
theorem star58 : "*" ++ "errors.errorString" = "*errors.errorString" := by decide
theorem row58 (u : TypeId) (h : Tryd.prog.typeName? 3 u = some "*errors.errorString") : u = 58 :=
  typeName_ptr_named (nm := "errors.errorString") (by rw [star58]; kernel_rfl) (by kernel_rfl) (by decide) u (by rw [star58]; exact h)
theorem er_of {W : World} (h : laidMetH Tryd.prog Rows.asmQuotesUptoRow.laid W) : Er W := by
  have h' : laidMet Tryd.prog Rows.asmQuotesUptoRow.laid W := h
  have hg : Tryd.prog.globalNamed "strconv.ErrSyntax" = some 0 := by kernel_rfl
  have ht : (Tryd.prog.globals[0]?).map (·.type) = some 34 := by kernel_rfl
  obtain ⟨a, s, hv, _⟩ := laid_sentinel (laidMet.tail (laidMet.tail (laidMet.tail (laidMet.tail h')))) hg ht Tryd.underlying34 row58 Tryd.underlying58 Tryd.underlying60 rfl rfl Tryd.underlying9 (by kernel_rfl) (by kernel_rfl)
  exact ⟨_, by simpa using World.var?_cell hg hv 0, .inr ⟨_, _, rfl⟩⟩
end Go.Proofs.YthiaenkolakjeaaDoor
