/-
  Kinds, effects.
-/
import Derived.Test.YtonnkaphomonpaaEff
import Derived.Test.YtonnkaphomonpaaEnc
import Derived.Deep.RegionHeld3
namespace Go.Proofs.Ytonnkaphomonpaa
open Go.RowKit

theorem beq_bool (b : Bool) (w : World) : (binOp .eql 4 (.bool b) (.bool b)).run Try.prog w = .ok (.bool true) w := by cases b <;> kernel_rfl

set_option maxRecDepth 100000 in
set_option maxHeartbeats 2000000 in
theorem kindsLaw (op : Int) (w : World) : Calls Try.prog 10 #[.int .i64 op] w fun e w' => e = .returned (.bool true) ∧ Below w.heap.size w w' := by
  have H1 := hide (fun w => dOperand_any w op)
  have H2 := hide (fun w => operand_any w op)
  have H3 := hide (fun w => ends_any w op)
  have H4 := hide (fun w => dEnds_any w op)
  have H5 := hide (fun w => jumps_any w op)
  have H6 := hide (fun w => dJumps_any w op)
  generalize isOp op = b at *
  generalize kdI op = d at *
  generalize enB op = eb at *
  generalize jmB op = jb at *
  have e4 := beq_bool
  go_enter Try.func10, Try.ntmps10
  go_wp2_with fail
  refine (unhide H1 _).mono ?_
  rintro e w1 ⟨rfl, hb1⟩
  have B1 := hide hb1
  clear hb1
  go_wp2_with fail
  refine (unhide H2 _).mono ?_
  rintro e w2 ⟨rfl, hb2⟩
  have B2 := hide hb2
  clear hb2
  go_wp2_with fail
  refine (unhide H3 _).mono ?_
  rintro e w3 ⟨rfl, rfl⟩
  go_wp2_with fail
  refine (unhide H4 _).mono ?_
  rintro e w4 ⟨rfl, rfl⟩
  go_wp2_with fail
  refine (unhide H5 _).mono ?_
  rintro e w5 ⟨rfl, hb5⟩
  have B5 := hide hb5
  clear hb5
  go_wp2_with fail
  refine (unhide H6 _).mono ?_
  rintro e w6 ⟨rfl, rfl⟩
  go_wp2_with fail
  go_ret
  refine ⟨rfl, ?_⟩
  have s1 := (unhide B1).size
  have s2 := (unhide B2).size
  exact Bl.go (Bl.go (unhide B1) s1 (unhide B2)) (by omega) (unhide B5)



set_option maxRecDepth 100000 in
set_option maxHeartbeats 2000000 in
theorem num_any (x : Int) (w : World) : Calls Try.prog 14 #[.int .i64 x] w fun e w' => e = .returned (.int .i64 x) ∧ w' = w := by
  go_enter Try.func14, Try.ntmps14
  go_wp2
  go_ret
  exact ⟨rfl, rfl⟩

end Go.Proofs.Ytonnkaphomonpaa
