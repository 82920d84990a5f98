/-
  The laid table: what the condition gives a walk, and a world that meets it.
-/
import Derived.Test.YtpbdmbmafjkinaaDoorCards
import Derived.Test.YtpbdmbmafjkinaaDoorTie
import Derived.Test.YtpbdmbmafjkinaaDoorTz
import Derived.Test.YtpbdmbmafjkinaaDoorCIn2
import Derived.Lib.LaidTab
import Derived.LaidOnce
import Derived.SevenTiedAt
import Derived.Deep.DeepHandedRow
import Derived.JoinedCond
namespace Go.Proofs.YtpbdmbmafjkinaaDoor
open Go.ChangeShapes Go.WideShapes Go.ChangeAt Go.RowKit Go.Joins
set_option linter.unusedVariables false
theorem tt_of {W : World} (h : laidMetH Tryd.prog Rows.liveAfterUptoRow.laid W) : TT W := by
  have h1 : laidMet Tryd.prog Rows.liveAfterUptoRow.laid W := h
  have h2 := Lib.tabIs_of_head (P := Tryd.prog) (W := W) (k := .u8) (zs := ttab) (rest := []) (g := 0) (t := 104) (e := 5) (n := 64) (by kernel_rfl) (by kernel_rfl) Tryd.underlying104 Tryd.underlying5 (by kernel_rfl) (by kernel_rfl) (show laidMet Tryd.prog ((_, Lib.tabData .u8 ttab) :: []) W from h1)
  have h3 := fun i hi => h2.cell (g := 0) (by kernel_rfl) i hi
  refine ⟨World.block_lt_of_cell? W _ (h3 0 (by rw [ttab_len]; omega)), fun i hi => ?_⟩
  exact h3 i (by rw [ttab_len]; exact hi)
noncomputable def laidWorld (os : Os) : World :=
  let w0 := World.holding Tryd.prog os ⟨#[], #[], []⟩
  { w0 with heap := w0.heap.modify 0 fun
      | .cells _ t frozen => .cells (ttab.map (Value.int .u8)).toArray t frozen
      | o => o }
theorem laidWorld_met (os : Os) (args : Array Value) : laidMetH Tryd.prog Rows.liveAfterUptoRow.laid ((laidWorld os).forCall (fun _ _ => 0) ⟨#[], args, []⟩).memory :=
  laidMet_of_run' 8 (by kernel_rfl) (by kernel_rfl)
end Go.Proofs.YtpbdmbmafjkinaaDoor
