/-
  Numbers: what the methods of a number answer.
-/
import Derived.Test.YtncmegafkccblaaRConv
namespace Go.Proofs.Ytncmegafkccblaa
open Go.RowKit
set_option linter.unusedVariables false
set_option linter.unusedSimpArgs false

/-- A value's two cells. -/
def nv (k n : Int) : Value := .agg #[.int .i64 k, .int .i64 n]
/-- Some value came back, and nothing elder was turned. -/
def VA (w : World) (e : Ending) (w' : World) : Prop := ∃ x y : Int, e = .returned (.agg #[.int .i64 x, .int .i64 y]) ∧ Below w.heap.size w w'
theorem bl_one (w : World) (o : Obj) : Below w.heap.size w (w.alloc o) := (Below.refl _ w).alloc (Nat.le_refl _) o

set_option maxRecDepth 100000 in
set_option maxHeartbeats 800000 in
theorem m58 (w : World) (n : Int) : Calls Try.prog 58 #[.int .i64 n] w fun e w' => e = .returned (.agg #[.int .i64 2, .int .i64 n]) ∧ Below w.heap.size w w' := by
  have HB := hide (bl_one w)
  go_enter Try.func58, Try.ntmps58
  go_wp2_with fail
  refine bodyPost_ret (v := .agg #[.int .i64 2, .int .i64 n]) ?_ rfl ?_
  · rw [results_cell_one rfl]
    go_simp
  · refine ⟨rfl, ?_⟩
    repeat (first | refine Below.setCell ?_ (by first | (simp; done) | (simp; omega)) _ | (with_reducible exact unhide HB _))
set_option maxRecDepth 100000 in
set_option maxHeartbeats 800000 in
theorem m59 (w : World) (r : Int) : Calls Try.prog 59 #[.int .u64 r] w fun e w' => VA w e w' := by
  have HB := hide (bl_one w)
  go_enter Try.func59, Try.ntmps59
  go_wp2_with fail
  refine bodyPost_ret (v := .agg #[.int .i64 3, .int .i64 (wrap64 r)]) ?_ rfl ?_
  · rw [results_cell_one rfl]
    go_simp
  · refine ⟨_, _, rfl, ?_⟩
    repeat (first | refine Below.setCell ?_ (by first | (simp; done) | (simp; omega)) _ | (with_reducible exact unhide HB _))
set_option maxRecDepth 100000 in
set_option maxHeartbeats 800000 in
theorem m70 (w : World) (b : Bool) : Calls Try.prog 70 #[.bool b] w fun e w' => VA w e w' := by
  have HB := hide (bl_one w)
  cases b
  · go_enter Try.func70, Try.ntmps70
    go_wp2_with fail
    refine bodyPost_ret (v := .agg #[.int .i64 1, .int .i64 0]) ?_ rfl ?_
    · rw [results_cell_one rfl]
      go_simp
    · refine ⟨_, _, rfl, ?_⟩
      repeat (first | refine Below.setCell ?_ (by first | (simp; done) | (simp; omega)) _ | (with_reducible exact unhide HB _))
  · go_enter Try.func70, Try.ntmps70
    go_wp2_with fail
    refine bodyPost_ret (v := .agg #[.int .i64 1, .int .i64 1]) ?_ rfl ?_
    · rw [results_cell_one rfl]
      go_simp
    · refine ⟨_, _, rfl, ?_⟩
      repeat (first | refine Below.setCell ?_ (by first | (simp; done) | (simp; omega)) _ | (with_reducible exact unhide HB _))
set_option maxRecDepth 100000 in
set_option maxHeartbeats 800000 in
theorem m61 (w : World) (n : Int) : Calls Try.prog 61 #[.agg #[.int .i64 3, .int .i64 n]] w fun e w' => (∃ r : Nat, r < 18446744073709551616 ∧ e = .returned (.int .u64 (r : Int))) ∧ Below w.heap.size w w' := by
  have HB := hide (bl_one w)
  obtain ⟨r, hr, hr2⟩ : ∃ r : Nat, Hid (IntKind.u64.wrap n = (r : Int)) ∧ Hid (r < 18446744073709551616) := ⟨(IntKind.u64.wrap n).toNat, by unfold Hid; go_arith, by unfold Hid; go_arith⟩
  go_enter Try.func61, Try.ntmps61
  go_wp2_with fail
  rw [unhide hr]
  go_ret
  exact ⟨⟨r, unhide hr2, rfl⟩, unhide HB _⟩
set_option maxRecDepth 100000 in
set_option maxHeartbeats 800000 in
theorem m65 (w : World) (k a b : Int) (hk : k = 2 ∨ k = 3) : Calls Try.prog 65 #[.agg #[.int .i64 k, .int .i64 a], .agg #[.int .i64 k, .int .i64 b]] w fun e w' => e = .returned (.bool (decide (k = 2))) ∧ Below w.heap.size w w' := by
  have HB := hide (bl_two w)
  rcases hk with rfl | rfl
  all_goals
    go_enter Try.func65, Try.ntmps65
    go_wp2
    go_ret
    exact ⟨rfl, unhide HB _ _⟩
end Go.Proofs.Ytncmegafkccblaa
