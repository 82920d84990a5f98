/-
  Which function an operation is; which operations there are on numbers of one kind.
-/
import Derived.Test.YtncmegafkccblaaMt2
namespace Go.Proofs.Ytncmegafkccblaa
open Go.RowKit
set_option linter.unusedVariables false
set_option linter.unusedSimpArgs false
set_option maxRecDepth 100000 in
set_option maxHeartbeats 800000 in
theorem of17 (w : World) : Calls Try.prog 26 #[.int .i64 17] w fun e w' => e = .returned (.func (.func 38) #[] #[]) ∧ w' = w := by
  go_enter Try.func26, Try.ntmps26
  go_wp2_with (refine wpList_skip 4 4 rfl ⟨#[.int .i64 17, undef, .func (.func 38) #[] #[], .agg #[.nilFunc, .nilFunc, .nilFunc, .nilFunc, .nilFunc, .nilFunc, .nilFunc, .nilFunc, .nilFunc, .nilFunc, .nilFunc, .nilFunc, .nilFunc, .nilFunc, .nilFunc, .nilFunc, .nilFunc, .func (.func 38) #[] #[], .nilFunc, .nilFunc, .nilFunc, .func (.func 39) #[] #[], .nilFunc, .nilFunc, .nilFunc, .nilFunc, .nilFunc, .nilFunc, .nilFunc, .nilFunc, .nilFunc, .nilFunc, .nilFunc, .func (.func 42) #[] #[], .nilFunc, .nilFunc, .func (.func 40) #[] #[], .func (.func 41) #[] #[], .nilFunc, .nilFunc, .nilFunc, .nilFunc, .nilFunc, .nilFunc, .nilFunc, .nilFunc, .nilFunc, .nilFunc, .nilFunc, .nilFunc, .nilFunc, .nilFunc, .nilFunc, .nilFunc, .nilFunc, .nilFunc, .nilFunc, .nilFunc, .nilFunc, .nilFunc, .nilFunc, .nilFunc, .nilFunc, .nilFunc, .nilFunc, .nilFunc, .nilFunc], .int .i64 17, .func (.func 38) #[] #[]], []⟩ (by kernel_rfl) ?_; simp only [List.drop])
  go_ret
  exact ⟨rfl, rfl⟩
set_option maxRecDepth 100000 in
set_option maxHeartbeats 800000 in
theorem of21 (w : World) : Calls Try.prog 26 #[.int .i64 21] w fun e w' => e = .returned (.func (.func 39) #[] #[]) ∧ w' = w := by
  go_enter Try.func26, Try.ntmps26
  go_wp2_with (refine wpList_skip 4 4 rfl ⟨#[.int .i64 21, undef, .func (.func 39) #[] #[], .agg #[.nilFunc, .nilFunc, .nilFunc, .nilFunc, .nilFunc, .nilFunc, .nilFunc, .nilFunc, .nilFunc, .nilFunc, .nilFunc, .nilFunc, .nilFunc, .nilFunc, .nilFunc, .nilFunc, .nilFunc, .func (.func 38) #[] #[], .nilFunc, .nilFunc, .nilFunc, .func (.func 39) #[] #[], .nilFunc, .nilFunc, .nilFunc, .nilFunc, .nilFunc, .nilFunc, .nilFunc, .nilFunc, .nilFunc, .nilFunc, .nilFunc, .func (.func 42) #[] #[], .nilFunc, .nilFunc, .func (.func 40) #[] #[], .func (.func 41) #[] #[], .nilFunc, .nilFunc, .nilFunc, .nilFunc, .nilFunc, .nilFunc, .nilFunc, .nilFunc, .nilFunc, .nilFunc, .nilFunc, .nilFunc, .nilFunc, .nilFunc, .nilFunc, .nilFunc, .nilFunc, .nilFunc, .nilFunc, .nilFunc, .nilFunc, .nilFunc, .nilFunc, .nilFunc, .nilFunc, .nilFunc, .nilFunc, .nilFunc, .nilFunc], .int .i64 21, .func (.func 39) #[] #[]], []⟩ (by kernel_rfl) ?_; simp only [List.drop])
  go_ret
  exact ⟨rfl, rfl⟩
set_option maxRecDepth 100000 in
set_option maxHeartbeats 800000 in
theorem of36 (w : World) : Calls Try.prog 26 #[.int .i64 36] w fun e w' => e = .returned (.func (.func 40) #[] #[]) ∧ w' = w := by
  go_enter Try.func26, Try.ntmps26
  go_wp2_with (refine wpList_skip 4 4 rfl ⟨#[.int .i64 36, undef, .func (.func 40) #[] #[], .agg #[.nilFunc, .nilFunc, .nilFunc, .nilFunc, .nilFunc, .nilFunc, .nilFunc, .nilFunc, .nilFunc, .nilFunc, .nilFunc, .nilFunc, .nilFunc, .nilFunc, .nilFunc, .nilFunc, .nilFunc, .func (.func 38) #[] #[], .nilFunc, .nilFunc, .nilFunc, .func (.func 39) #[] #[], .nilFunc, .nilFunc, .nilFunc, .nilFunc, .nilFunc, .nilFunc, .nilFunc, .nilFunc, .nilFunc, .nilFunc, .nilFunc, .func (.func 42) #[] #[], .nilFunc, .nilFunc, .func (.func 40) #[] #[], .func (.func 41) #[] #[], .nilFunc, .nilFunc, .nilFunc, .nilFunc, .nilFunc, .nilFunc, .nilFunc, .nilFunc, .nilFunc, .nilFunc, .nilFunc, .nilFunc, .nilFunc, .nilFunc, .nilFunc, .nilFunc, .nilFunc, .nilFunc, .nilFunc, .nilFunc, .nilFunc, .nilFunc, .nilFunc, .nilFunc, .nilFunc, .nilFunc, .nilFunc, .nilFunc, .nilFunc], .int .i64 36, .func (.func 40) #[] #[]], []⟩ (by kernel_rfl) ?_; simp only [List.drop])
  go_ret
  exact ⟨rfl, rfl⟩
set_option maxRecDepth 100000 in
set_option maxHeartbeats 800000 in
theorem of37 (w : World) : Calls Try.prog 26 #[.int .i64 37] w fun e w' => e = .returned (.func (.func 41) #[] #[]) ∧ w' = w := by
  go_enter Try.func26, Try.ntmps26
  go_wp2_with (refine wpList_skip 4 4 rfl ⟨#[.int .i64 37, undef, .func (.func 41) #[] #[], .agg #[.nilFunc, .nilFunc, .nilFunc, .nilFunc, .nilFunc, .nilFunc, .nilFunc, .nilFunc, .nilFunc, .nilFunc, .nilFunc, .nilFunc, .nilFunc, .nilFunc, .nilFunc, .nilFunc, .nilFunc, .func (.func 38) #[] #[], .nilFunc, .nilFunc, .nilFunc, .func (.func 39) #[] #[], .nilFunc, .nilFunc, .nilFunc, .nilFunc, .nilFunc, .nilFunc, .nilFunc, .nilFunc, .nilFunc, .nilFunc, .nilFunc, .func (.func 42) #[] #[], .nilFunc, .nilFunc, .func (.func 40) #[] #[], .func (.func 41) #[] #[], .nilFunc, .nilFunc, .nilFunc, .nilFunc, .nilFunc, .nilFunc, .nilFunc, .nilFunc, .nilFunc, .nilFunc, .nilFunc, .nilFunc, .nilFunc, .nilFunc, .nilFunc, .nilFunc, .nilFunc, .nilFunc, .nilFunc, .nilFunc, .nilFunc, .nilFunc, .nilFunc, .nilFunc, .nilFunc, .nilFunc, .nilFunc, .nilFunc, .nilFunc], .int .i64 37, .func (.func 41) #[] #[]], []⟩ (by kernel_rfl) ?_; simp only [List.drop])
  go_ret
  exact ⟨rfl, rfl⟩
set_option maxRecDepth 100000 in
set_option maxHeartbeats 800000 in
theorem of33 (w : World) : Calls Try.prog 26 #[.int .i64 33] w fun e w' => e = .returned (.func (.func 42) #[] #[]) ∧ w' = w := by
  go_enter Try.func26, Try.ntmps26
  go_wp2_with (refine wpList_skip 4 4 rfl ⟨#[.int .i64 33, undef, .func (.func 42) #[] #[], .agg #[.nilFunc, .nilFunc, .nilFunc, .nilFunc, .nilFunc, .nilFunc, .nilFunc, .nilFunc, .nilFunc, .nilFunc, .nilFunc, .nilFunc, .nilFunc, .nilFunc, .nilFunc, .nilFunc, .nilFunc, .func (.func 38) #[] #[], .nilFunc, .nilFunc, .nilFunc, .func (.func 39) #[] #[], .nilFunc, .nilFunc, .nilFunc, .nilFunc, .nilFunc, .nilFunc, .nilFunc, .nilFunc, .nilFunc, .nilFunc, .nilFunc, .func (.func 42) #[] #[], .nilFunc, .nilFunc, .func (.func 40) #[] #[], .func (.func 41) #[] #[], .nilFunc, .nilFunc, .nilFunc, .nilFunc, .nilFunc, .nilFunc, .nilFunc, .nilFunc, .nilFunc, .nilFunc, .nilFunc, .nilFunc, .nilFunc, .nilFunc, .nilFunc, .nilFunc, .nilFunc, .nilFunc, .nilFunc, .nilFunc, .nilFunc, .nilFunc, .nilFunc, .nilFunc, .nilFunc, .nilFunc, .nilFunc, .nilFunc, .nilFunc], .int .i64 33, .func (.func 42) #[] #[]], []⟩ (by kernel_rfl) ?_; simp only [List.drop])
  go_ret
  exact ⟨rfl, rfl⟩
set_option maxRecDepth 100000 in
set_option maxHeartbeats 800000 in
theorem of12 (w : World) : Calls Try.prog 27 #[.int .i64 12] w fun e w' => e = .returned (.func (.func 43) #[] #[]) ∧ w' = w := by
  go_enter Try.func27, Try.ntmps27
  go_wp2_with (refine wpList_skip 4 4 rfl ⟨#[.int .i64 12, undef, .func (.func 43) #[] #[], .agg #[.nilFunc, .nilFunc, .nilFunc, .nilFunc, .nilFunc, .nilFunc, .nilFunc, .nilFunc, .nilFunc, .nilFunc, .nilFunc, .nilFunc, .func (.func 43) #[] #[], .func (.func 44) #[] #[], .func (.func 45) #[] #[], .func (.func 46) #[] #[], .func (.func 47) #[] #[], .nilFunc, .func (.func 48) #[] #[], .func (.func 49) #[] #[], .func (.func 50) #[] #[], .nilFunc, .func (.func 52) #[] #[], .func (.func 53) #[] #[], .nilFunc, .nilFunc, .nilFunc, .func (.func 54) #[] #[], .func (.func 55) #[] #[], .nilFunc, .nilFunc, .nilFunc, .nilFunc, .nilFunc, .nilFunc, .nilFunc, .nilFunc, .nilFunc, .nilFunc, .nilFunc, .nilFunc, .nilFunc, .nilFunc, .nilFunc, .nilFunc, .nilFunc, .nilFunc, .nilFunc, .nilFunc, .nilFunc, .nilFunc, .nilFunc, .nilFunc, .nilFunc, .nilFunc, .nilFunc, .nilFunc, .nilFunc, .nilFunc, .nilFunc, .nilFunc, .nilFunc, .nilFunc, .nilFunc, .nilFunc, .nilFunc, .func (.func 51) #[] #[]], .int .i64 12, .func (.func 43) #[] #[]], []⟩ (by kernel_rfl) ?_; simp only [List.drop])
  go_ret
  exact ⟨rfl, rfl⟩
set_option maxRecDepth 100000 in
set_option maxHeartbeats 800000 in
theorem of13 (w : World) : Calls Try.prog 27 #[.int .i64 13] w fun e w' => e = .returned (.func (.func 44) #[] #[]) ∧ w' = w := by
  go_enter Try.func27, Try.ntmps27
  go_wp2_with (refine wpList_skip 4 4 rfl ⟨#[.int .i64 13, undef, .func (.func 44) #[] #[], .agg #[.nilFunc, .nilFunc, .nilFunc, .nilFunc, .nilFunc, .nilFunc, .nilFunc, .nilFunc, .nilFunc, .nilFunc, .nilFunc, .nilFunc, .func (.func 43) #[] #[], .func (.func 44) #[] #[], .func (.func 45) #[] #[], .func (.func 46) #[] #[], .func (.func 47) #[] #[], .nilFunc, .func (.func 48) #[] #[], .func (.func 49) #[] #[], .func (.func 50) #[] #[], .nilFunc, .func (.func 52) #[] #[], .func (.func 53) #[] #[], .nilFunc, .nilFunc, .nilFunc, .func (.func 54) #[] #[], .func (.func 55) #[] #[], .nilFunc, .nilFunc, .nilFunc, .nilFunc, .nilFunc, .nilFunc, .nilFunc, .nilFunc, .nilFunc, .nilFunc, .nilFunc, .nilFunc, .nilFunc, .nilFunc, .nilFunc, .nilFunc, .nilFunc, .nilFunc, .nilFunc, .nilFunc, .nilFunc, .nilFunc, .nilFunc, .nilFunc, .nilFunc, .nilFunc, .nilFunc, .nilFunc, .nilFunc, .nilFunc, .nilFunc, .nilFunc, .nilFunc, .nilFunc, .nilFunc, .nilFunc, .nilFunc, .func (.func 51) #[] #[]], .int .i64 13, .func (.func 44) #[] #[]], []⟩ (by kernel_rfl) ?_; simp only [List.drop])
  go_ret
  exact ⟨rfl, rfl⟩
set_option maxRecDepth 100000 in
set_option maxHeartbeats 800000 in
theorem of14 (w : World) : Calls Try.prog 27 #[.int .i64 14] w fun e w' => e = .returned (.func (.func 45) #[] #[]) ∧ w' = w := by
  go_enter Try.func27, Try.ntmps27
  go_wp2_with (refine wpList_skip 4 4 rfl ⟨#[.int .i64 14, undef, .func (.func 45) #[] #[], .agg #[.nilFunc, .nilFunc, .nilFunc, .nilFunc, .nilFunc, .nilFunc, .nilFunc, .nilFunc, .nilFunc, .nilFunc, .nilFunc, .nilFunc, .func (.func 43) #[] #[], .func (.func 44) #[] #[], .func (.func 45) #[] #[], .func (.func 46) #[] #[], .func (.func 47) #[] #[], .nilFunc, .func (.func 48) #[] #[], .func (.func 49) #[] #[], .func (.func 50) #[] #[], .nilFunc, .func (.func 52) #[] #[], .func (.func 53) #[] #[], .nilFunc, .nilFunc, .nilFunc, .func (.func 54) #[] #[], .func (.func 55) #[] #[], .nilFunc, .nilFunc, .nilFunc, .nilFunc, .nilFunc, .nilFunc, .nilFunc, .nilFunc, .nilFunc, .nilFunc, .nilFunc, .nilFunc, .nilFunc, .nilFunc, .nilFunc, .nilFunc, .nilFunc, .nilFunc, .nilFunc, .nilFunc, .nilFunc, .nilFunc, .nilFunc, .nilFunc, .nilFunc, .nilFunc, .nilFunc, .nilFunc, .nilFunc, .nilFunc, .nilFunc, .nilFunc, .nilFunc, .nilFunc, .nilFunc, .nilFunc, .nilFunc, .func (.func 51) #[] #[]], .int .i64 14, .func (.func 45) #[] #[]], []⟩ (by kernel_rfl) ?_; simp only [List.drop])
  go_ret
  exact ⟨rfl, rfl⟩
set_option maxRecDepth 100000 in
set_option maxHeartbeats 800000 in
theorem of15 (w : World) : Calls Try.prog 27 #[.int .i64 15] w fun e w' => e = .returned (.func (.func 46) #[] #[]) ∧ w' = w := by
  go_enter Try.func27, Try.ntmps27
  go_wp2_with (refine wpList_skip 4 4 rfl ⟨#[.int .i64 15, undef, .func (.func 46) #[] #[], .agg #[.nilFunc, .nilFunc, .nilFunc, .nilFunc, .nilFunc, .nilFunc, .nilFunc, .nilFunc, .nilFunc, .nilFunc, .nilFunc, .nilFunc, .func (.func 43) #[] #[], .func (.func 44) #[] #[], .func (.func 45) #[] #[], .func (.func 46) #[] #[], .func (.func 47) #[] #[], .nilFunc, .func (.func 48) #[] #[], .func (.func 49) #[] #[], .func (.func 50) #[] #[], .nilFunc, .func (.func 52) #[] #[], .func (.func 53) #[] #[], .nilFunc, .nilFunc, .nilFunc, .func (.func 54) #[] #[], .func (.func 55) #[] #[], .nilFunc, .nilFunc, .nilFunc, .nilFunc, .nilFunc, .nilFunc, .nilFunc, .nilFunc, .nilFunc, .nilFunc, .nilFunc, .nilFunc, .nilFunc, .nilFunc, .nilFunc, .nilFunc, .nilFunc, .nilFunc, .nilFunc, .nilFunc, .nilFunc, .nilFunc, .nilFunc, .nilFunc, .nilFunc, .nilFunc, .nilFunc, .nilFunc, .nilFunc, .nilFunc, .nilFunc, .nilFunc, .nilFunc, .nilFunc, .nilFunc, .nilFunc, .nilFunc, .func (.func 51) #[] #[]], .int .i64 15, .func (.func 46) #[] #[]], []⟩ (by kernel_rfl) ?_; simp only [List.drop])
  go_ret
  exact ⟨rfl, rfl⟩
set_option maxRecDepth 100000 in
set_option maxHeartbeats 800000 in
theorem of18 (w : World) : Calls Try.prog 27 #[.int .i64 18] w fun e w' => e = .returned (.func (.func 48) #[] #[]) ∧ w' = w := by
  go_enter Try.func27, Try.ntmps27
  go_wp2_with (refine wpList_skip 4 4 rfl ⟨#[.int .i64 18, undef, .func (.func 48) #[] #[], .agg #[.nilFunc, .nilFunc, .nilFunc, .nilFunc, .nilFunc, .nilFunc, .nilFunc, .nilFunc, .nilFunc, .nilFunc, .nilFunc, .nilFunc, .func (.func 43) #[] #[], .func (.func 44) #[] #[], .func (.func 45) #[] #[], .func (.func 46) #[] #[], .func (.func 47) #[] #[], .nilFunc, .func (.func 48) #[] #[], .func (.func 49) #[] #[], .func (.func 50) #[] #[], .nilFunc, .func (.func 52) #[] #[], .func (.func 53) #[] #[], .nilFunc, .nilFunc, .nilFunc, .func (.func 54) #[] #[], .func (.func 55) #[] #[], .nilFunc, .nilFunc, .nilFunc, .nilFunc, .nilFunc, .nilFunc, .nilFunc, .nilFunc, .nilFunc, .nilFunc, .nilFunc, .nilFunc, .nilFunc, .nilFunc, .nilFunc, .nilFunc, .nilFunc, .nilFunc, .nilFunc, .nilFunc, .nilFunc, .nilFunc, .nilFunc, .nilFunc, .nilFunc, .nilFunc, .nilFunc, .nilFunc, .nilFunc, .nilFunc, .nilFunc, .nilFunc, .nilFunc, .nilFunc, .nilFunc, .nilFunc, .nilFunc, .func (.func 51) #[] #[]], .int .i64 18, .func (.func 48) #[] #[]], []⟩ (by kernel_rfl) ?_; simp only [List.drop])
  go_ret
  exact ⟨rfl, rfl⟩
set_option maxRecDepth 100000 in
set_option maxHeartbeats 800000 in
theorem of19 (w : World) : Calls Try.prog 27 #[.int .i64 19] w fun e w' => e = .returned (.func (.func 49) #[] #[]) ∧ w' = w := by
  go_enter Try.func27, Try.ntmps27
  go_wp2_with (refine wpList_skip 4 4 rfl ⟨#[.int .i64 19, undef, .func (.func 49) #[] #[], .agg #[.nilFunc, .nilFunc, .nilFunc, .nilFunc, .nilFunc, .nilFunc, .nilFunc, .nilFunc, .nilFunc, .nilFunc, .nilFunc, .nilFunc, .func (.func 43) #[] #[], .func (.func 44) #[] #[], .func (.func 45) #[] #[], .func (.func 46) #[] #[], .func (.func 47) #[] #[], .nilFunc, .func (.func 48) #[] #[], .func (.func 49) #[] #[], .func (.func 50) #[] #[], .nilFunc, .func (.func 52) #[] #[], .func (.func 53) #[] #[], .nilFunc, .nilFunc, .nilFunc, .func (.func 54) #[] #[], .func (.func 55) #[] #[], .nilFunc, .nilFunc, .nilFunc, .nilFunc, .nilFunc, .nilFunc, .nilFunc, .nilFunc, .nilFunc, .nilFunc, .nilFunc, .nilFunc, .nilFunc, .nilFunc, .nilFunc, .nilFunc, .nilFunc, .nilFunc, .nilFunc, .nilFunc, .nilFunc, .nilFunc, .nilFunc, .nilFunc, .nilFunc, .nilFunc, .nilFunc, .nilFunc, .nilFunc, .nilFunc, .nilFunc, .nilFunc, .nilFunc, .nilFunc, .nilFunc, .nilFunc, .nilFunc, .func (.func 51) #[] #[]], .int .i64 19, .func (.func 49) #[] #[]], []⟩ (by kernel_rfl) ?_; simp only [List.drop])
  go_ret
  exact ⟨rfl, rfl⟩
set_option maxRecDepth 100000 in
set_option maxHeartbeats 800000 in
theorem of20 (w : World) : Calls Try.prog 27 #[.int .i64 20] w fun e w' => e = .returned (.func (.func 50) #[] #[]) ∧ w' = w := by
  go_enter Try.func27, Try.ntmps27
  go_wp2_with (refine wpList_skip 4 4 rfl ⟨#[.int .i64 20, undef, .func (.func 50) #[] #[], .agg #[.nilFunc, .nilFunc, .nilFunc, .nilFunc, .nilFunc, .nilFunc, .nilFunc, .nilFunc, .nilFunc, .nilFunc, .nilFunc, .nilFunc, .func (.func 43) #[] #[], .func (.func 44) #[] #[], .func (.func 45) #[] #[], .func (.func 46) #[] #[], .func (.func 47) #[] #[], .nilFunc, .func (.func 48) #[] #[], .func (.func 49) #[] #[], .func (.func 50) #[] #[], .nilFunc, .func (.func 52) #[] #[], .func (.func 53) #[] #[], .nilFunc, .nilFunc, .nilFunc, .func (.func 54) #[] #[], .func (.func 55) #[] #[], .nilFunc, .nilFunc, .nilFunc, .nilFunc, .nilFunc, .nilFunc, .nilFunc, .nilFunc, .nilFunc, .nilFunc, .nilFunc, .nilFunc, .nilFunc, .nilFunc, .nilFunc, .nilFunc, .nilFunc, .nilFunc, .nilFunc, .nilFunc, .nilFunc, .nilFunc, .nilFunc, .nilFunc, .nilFunc, .nilFunc, .nilFunc, .nilFunc, .nilFunc, .nilFunc, .nilFunc, .nilFunc, .nilFunc, .nilFunc, .nilFunc, .nilFunc, .nilFunc, .func (.func 51) #[] #[]], .int .i64 20, .func (.func 50) #[] #[]], []⟩ (by kernel_rfl) ?_; simp only [List.drop])
  go_ret
  exact ⟨rfl, rfl⟩
set_option maxRecDepth 100000 in
set_option maxHeartbeats 800000 in
theorem of66 (w : World) : Calls Try.prog 27 #[.int .i64 66] w fun e w' => e = .returned (.func (.func 51) #[] #[]) ∧ w' = w := by
  go_enter Try.func27, Try.ntmps27
  go_wp2_with (refine wpList_skip 4 4 rfl ⟨#[.int .i64 66, undef, .func (.func 51) #[] #[], .agg #[.nilFunc, .nilFunc, .nilFunc, .nilFunc, .nilFunc, .nilFunc, .nilFunc, .nilFunc, .nilFunc, .nilFunc, .nilFunc, .nilFunc, .func (.func 43) #[] #[], .func (.func 44) #[] #[], .func (.func 45) #[] #[], .func (.func 46) #[] #[], .func (.func 47) #[] #[], .nilFunc, .func (.func 48) #[] #[], .func (.func 49) #[] #[], .func (.func 50) #[] #[], .nilFunc, .func (.func 52) #[] #[], .func (.func 53) #[] #[], .nilFunc, .nilFunc, .nilFunc, .func (.func 54) #[] #[], .func (.func 55) #[] #[], .nilFunc, .nilFunc, .nilFunc, .nilFunc, .nilFunc, .nilFunc, .nilFunc, .nilFunc, .nilFunc, .nilFunc, .nilFunc, .nilFunc, .nilFunc, .nilFunc, .nilFunc, .nilFunc, .nilFunc, .nilFunc, .nilFunc, .nilFunc, .nilFunc, .nilFunc, .nilFunc, .nilFunc, .nilFunc, .nilFunc, .nilFunc, .nilFunc, .nilFunc, .nilFunc, .nilFunc, .nilFunc, .nilFunc, .nilFunc, .nilFunc, .nilFunc, .nilFunc, .func (.func 51) #[] #[]], .int .i64 66, .func (.func 51) #[] #[]], []⟩ (by kernel_rfl) ?_; simp only [List.drop])
  go_ret
  exact ⟨rfl, rfl⟩
set_option maxRecDepth 100000 in
set_option maxHeartbeats 800000 in
theorem of27 (w : World) : Calls Try.prog 27 #[.int .i64 27] w fun e w' => e = .returned (.func (.func 54) #[] #[]) ∧ w' = w := by
  go_enter Try.func27, Try.ntmps27
  go_wp2_with (refine wpList_skip 4 4 rfl ⟨#[.int .i64 27, undef, .func (.func 54) #[] #[], .agg #[.nilFunc, .nilFunc, .nilFunc, .nilFunc, .nilFunc, .nilFunc, .nilFunc, .nilFunc, .nilFunc, .nilFunc, .nilFunc, .nilFunc, .func (.func 43) #[] #[], .func (.func 44) #[] #[], .func (.func 45) #[] #[], .func (.func 46) #[] #[], .func (.func 47) #[] #[], .nilFunc, .func (.func 48) #[] #[], .func (.func 49) #[] #[], .func (.func 50) #[] #[], .nilFunc, .func (.func 52) #[] #[], .func (.func 53) #[] #[], .nilFunc, .nilFunc, .nilFunc, .func (.func 54) #[] #[], .func (.func 55) #[] #[], .nilFunc, .nilFunc, .nilFunc, .nilFunc, .nilFunc, .nilFunc, .nilFunc, .nilFunc, .nilFunc, .nilFunc, .nilFunc, .nilFunc, .nilFunc, .nilFunc, .nilFunc, .nilFunc, .nilFunc, .nilFunc, .nilFunc, .nilFunc, .nilFunc, .nilFunc, .nilFunc, .nilFunc, .nilFunc, .nilFunc, .nilFunc, .nilFunc, .nilFunc, .nilFunc, .nilFunc, .nilFunc, .nilFunc, .nilFunc, .nilFunc, .nilFunc, .nilFunc, .func (.func 51) #[] #[]], .int .i64 27, .func (.func 54) #[] #[]], []⟩ (by kernel_rfl) ?_; simp only [List.drop])
  go_ret
  exact ⟨rfl, rfl⟩
set_option maxRecDepth 100000 in
set_option maxHeartbeats 800000 in
theorem of28 (w : World) : Calls Try.prog 27 #[.int .i64 28] w fun e w' => e = .returned (.func (.func 55) #[] #[]) ∧ w' = w := by
  go_enter Try.func27, Try.ntmps27
  go_wp2_with (refine wpList_skip 4 4 rfl ⟨#[.int .i64 28, undef, .func (.func 55) #[] #[], .agg #[.nilFunc, .nilFunc, .nilFunc, .nilFunc, .nilFunc, .nilFunc, .nilFunc, .nilFunc, .nilFunc, .nilFunc, .nilFunc, .nilFunc, .func (.func 43) #[] #[], .func (.func 44) #[] #[], .func (.func 45) #[] #[], .func (.func 46) #[] #[], .func (.func 47) #[] #[], .nilFunc, .func (.func 48) #[] #[], .func (.func 49) #[] #[], .func (.func 50) #[] #[], .nilFunc, .func (.func 52) #[] #[], .func (.func 53) #[] #[], .nilFunc, .nilFunc, .nilFunc, .func (.func 54) #[] #[], .func (.func 55) #[] #[], .nilFunc, .nilFunc, .nilFunc, .nilFunc, .nilFunc, .nilFunc, .nilFunc, .nilFunc, .nilFunc, .nilFunc, .nilFunc, .nilFunc, .nilFunc, .nilFunc, .nilFunc, .nilFunc, .nilFunc, .nilFunc, .nilFunc, .nilFunc, .nilFunc, .nilFunc, .nilFunc, .nilFunc, .nilFunc, .nilFunc, .nilFunc, .nilFunc, .nilFunc, .nilFunc, .nilFunc, .nilFunc, .nilFunc, .nilFunc, .nilFunc, .nilFunc, .nilFunc, .func (.func 51) #[] #[]], .int .i64 28, .func (.func 55) #[] #[]], []⟩ (by kernel_rfl) ?_; simp only [List.drop])
  go_ret
  exact ⟨rfl, rfl⟩
def W2 : List Int := [12, 13, 14, 18, 19, 20, 66, 27, 28, 17, 21]
def W3 : List Int := [12, 13, 14, 15, 27, 28, 17, 37, 36, 33]
set_option maxRecDepth 100000 in
set_option maxHeartbeats 800000 in
theorem wh2_any (w : World) (op : Int) : Calls Try.prog 17 #[.int .i64 op, .int .i64 2] w fun e w' => e = .returned (.bool (decide (op ∈ W2))) ∧ w' = w := by
  by_cases h : op ∈ ([12, 13, 14, 15, 17, 18, 19, 20, 21, 27, 28, 33, 36, 37, 66] : List Int)
  · simp only [List.mem_cons, List.not_mem_nil, or_false] at h
    rcases h with rfl | rfl | rfl | rfl | rfl | rfl | rfl | rfl | rfl | rfl | rfl | rfl | rfl | rfl | rfl
    all_goals
      go_enter Try.func17, Try.ntmps17
      go_wp2
      go_ret
      exact ⟨rfl, rfl⟩
  · have hd : decide (op ∈ W2) = false := by simp [W2] at h ⊢; omega
    rw [hd]
    simp only [List.mem_cons, List.not_mem_nil, or_false, not_or] at h
    obtain ⟨n12, n13, n14, n15, n17, n18, n19, n20, n21, n27, n28, n33, n36, n37, n66⟩ := h
    have e12 : (op == 12) = false := by simp [n12]
    have e13 : (op == 13) = false := by simp [n13]
    have e14 : (op == 14) = false := by simp [n14]
    have e15 : (op == 15) = false := by simp [n15]
    have e17 : (op == 17) = false := by simp [n17]
    have e18 : (op == 18) = false := by simp [n18]
    have e19 : (op == 19) = false := by simp [n19]
    have e20 : (op == 20) = false := by simp [n20]
    have e21 : (op == 21) = false := by simp [n21]
    have e27 : (op == 27) = false := by simp [n27]
    have e28 : (op == 28) = false := by simp [n28]
    have e33 : (op == 33) = false := by simp [n33]
    have e36 : (op == 36) = false := by simp [n36]
    have e37 : (op == 37) = false := by simp [n37]
    have e66 : (op == 66) = false := by simp [n66]
    clear n12 n13 n14 n15 n17 n18 n19 n20 n21 n27 n28 n33 n36 n37 n66
    go_enter Try.func17, Try.ntmps17
    go_wp2
    go_ret
    exact ⟨rfl, rfl⟩
set_option maxRecDepth 100000 in
set_option maxHeartbeats 800000 in
theorem wh3_any (w : World) (op : Int) : Calls Try.prog 17 #[.int .i64 op, .int .i64 3] w fun e w' => e = .returned (.bool (decide (op ∈ W3))) ∧ w' = w := by
  by_cases h : op ∈ ([12, 13, 14, 15, 17, 18, 19, 20, 21, 27, 28, 33, 36, 37, 66] : List Int)
  · simp only [List.mem_cons, List.not_mem_nil, or_false] at h
    rcases h with rfl | rfl | rfl | rfl | rfl | rfl | rfl | rfl | rfl | rfl | rfl | rfl | rfl | rfl | rfl
    all_goals
      go_enter Try.func17, Try.ntmps17
      go_wp2
      go_ret
      exact ⟨rfl, rfl⟩
  · have hd : decide (op ∈ W3) = false := by simp [W3] at h ⊢; omega
    rw [hd]
    simp only [List.mem_cons, List.not_mem_nil, or_false, not_or] at h
    obtain ⟨n12, n13, n14, n15, n17, n18, n19, n20, n21, n27, n28, n33, n36, n37, n66⟩ := h
    have e12 : (op == 12) = false := by simp [n12]
    have e13 : (op == 13) = false := by simp [n13]
    have e14 : (op == 14) = false := by simp [n14]
    have e15 : (op == 15) = false := by simp [n15]
    have e17 : (op == 17) = false := by simp [n17]
    have e18 : (op == 18) = false := by simp [n18]
    have e19 : (op == 19) = false := by simp [n19]
    have e20 : (op == 20) = false := by simp [n20]
    have e21 : (op == 21) = false := by simp [n21]
    have e27 : (op == 27) = false := by simp [n27]
    have e28 : (op == 28) = false := by simp [n28]
    have e33 : (op == 33) = false := by simp [n33]
    have e36 : (op == 36) = false := by simp [n36]
    have e37 : (op == 37) = false := by simp [n37]
    have e66 : (op == 66) = false := by simp [n66]
    clear n12 n13 n14 n15 n17 n18 n19 n20 n21 n27 n28 n33 n36 n37 n66
    go_enter Try.func17, Try.ntmps17
    go_wp2
    go_ret
    exact ⟨rfl, rfl⟩
set_option maxRecDepth 100000 in
set_option maxHeartbeats 800000 in
theorem dI_any (w : World) (op : Int) : Calls Try.prog 9 #[.int .i64 op] w fun e w' => e = .returned (.bool (decide (op ∈ W2))) ∧ w' = w := by
  by_cases h : op ∈ ([12, 13, 14, 18, 19, 20, 66, 27, 28, 17, 21] : List Int)
  · simp only [List.mem_cons, List.not_mem_nil, or_false] at h
    rcases h with rfl | rfl | rfl | rfl | rfl | rfl | rfl | rfl | rfl | rfl | rfl
    all_goals
      go_enter Try.func9, Try.ntmps9
      go_wp2
      go_ret
      exact ⟨rfl, rfl⟩
  · have hd : decide (op ∈ W2) = false := by simp [W2] at h ⊢; omega
    rw [hd]
    simp only [List.mem_cons, List.not_mem_nil, or_false, not_or] at h
    obtain ⟨n12, n13, n14, n18, n19, n20, n66, n27, n28, n17, n21⟩ := h
    have e12 : (op == 12) = false := by simp [n12]
    have e13 : (op == 13) = false := by simp [n13]
    have e14 : (op == 14) = false := by simp [n14]
    have e18 : (op == 18) = false := by simp [n18]
    have e19 : (op == 19) = false := by simp [n19]
    have e20 : (op == 20) = false := by simp [n20]
    have e66 : (op == 66) = false := by simp [n66]
    have e27 : (op == 27) = false := by simp [n27]
    have e28 : (op == 28) = false := by simp [n28]
    have e17 : (op == 17) = false := by simp [n17]
    have e21 : (op == 21) = false := by simp [n21]
    clear n12 n13 n14 n18 n19 n20 n66 n27 n28 n17 n21
    go_enter Try.func9, Try.ntmps9
    go_wp2
    go_ret
    exact ⟨rfl, rfl⟩
set_option maxRecDepth 100000 in
set_option maxHeartbeats 800000 in
theorem dR_any (w : World) (op : Int) : Calls Try.prog 10 #[.int .i64 op] w fun e w' => e = .returned (.bool (decide (op ∈ W3))) ∧ w' = w := by
  by_cases h : op ∈ ([12, 13, 14, 15, 27, 28, 17, 37, 36, 33] : List Int)
  · simp only [List.mem_cons, List.not_mem_nil, or_false] at h
    rcases h with rfl | rfl | rfl | rfl | rfl | rfl | rfl | rfl | rfl | rfl
    all_goals
      go_enter Try.func10, Try.ntmps10
      go_wp2
      go_ret
      exact ⟨rfl, rfl⟩
  · have hd : decide (op ∈ W3) = false := by simp [W3] at h ⊢; omega
    rw [hd]
    simp only [List.mem_cons, List.not_mem_nil, or_false, not_or] at h
    obtain ⟨n12, n13, n14, n15, n27, n28, n17, n37, n36, n33⟩ := h
    have e12 : (op == 12) = false := by simp [n12]
    have e13 : (op == 13) = false := by simp [n13]
    have e14 : (op == 14) = false := by simp [n14]
    have e15 : (op == 15) = false := by simp [n15]
    have e27 : (op == 27) = false := by simp [n27]
    have e28 : (op == 28) = false := by simp [n28]
    have e17 : (op == 17) = false := by simp [n17]
    have e37 : (op == 37) = false := by simp [n37]
    have e36 : (op == 36) = false := by simp [n36]
    have e33 : (op == 33) = false := by simp [n33]
    clear n12 n13 n14 n15 n27 n28 n17 n37 n36 n33
    go_enter Try.func10, Try.ntmps10
    go_wp2
    go_ret
    exact ⟨rfl, rfl⟩
def WI : List Int := [16, 18, 19, 20, 66, 21, 22, 23, 24]
set_option maxRecDepth 100000 in
set_option maxHeartbeats 800000 in
theorem oI_any (w : World) (op : Int) : Calls Try.prog 33 #[.int .i64 op] w fun e w' => e = .returned (.bool (decide (op ∈ WI))) ∧ w' = w := by
  by_cases h : op ∈ ([16, 18, 19, 20, 66, 21, 22, 23, 24] : List Int)
  · simp only [List.mem_cons, List.not_mem_nil, or_false] at h
    rcases h with rfl | rfl | rfl | rfl | rfl | rfl | rfl | rfl | rfl
    all_goals
      go_enter Try.func33, Try.ntmps33
      go_wp2
      go_ret
      exact ⟨rfl, rfl⟩
  · have hd : decide (op ∈ WI) = false := by simp [WI] at h ⊢; omega
    rw [hd]
    simp only [List.mem_cons, List.not_mem_nil, or_false, not_or] at h
    obtain ⟨n16, n18, n19, n20, n66, n21, n22, n23, n24⟩ := h
    have e16 : (op == 16) = false := by simp [n16]
    have e18 : (op == 18) = false := by simp [n18]
    have e19 : (op == 19) = false := by simp [n19]
    have e20 : (op == 20) = false := by simp [n20]
    have e66 : (op == 66) = false := by simp [n66]
    have e21 : (op == 21) = false := by simp [n21]
    have e22 : (op == 22) = false := by simp [n22]
    have e23 : (op == 23) = false := by simp [n23]
    have e24 : (op == 24) = false := by simp [n24]
    clear n16 n18 n19 n20 n66 n21 n22 n23 n24
    go_enter Try.func33, Try.ntmps33
    go_wp2
    go_ret
    exact ⟨rfl, rfl⟩
set_option maxRecDepth 100000 in
set_option maxHeartbeats 800000 in
theorem isN2 (w : World) (n : Int) : Calls Try.prog 32 #[.agg #[.int .i64 2, .int .i64 n]] w fun e w' => e = .returned (.bool true) ∧ Below w.heap.size w w' := by
  have HB := hide (bl_one w)
  go_enter Try.func32, Try.ntmps32
  go_wp2
  go_ret
  exact ⟨rfl, unhide HB _⟩
set_option maxRecDepth 100000 in
set_option maxHeartbeats 800000 in
theorem isN3 (w : World) (n : Int) : Calls Try.prog 32 #[.agg #[.int .i64 3, .int .i64 n]] w fun e w' => e = .returned (.bool true) ∧ Below w.heap.size w w' := by
  have HB := hide (bl_one w)
  go_enter Try.func32, Try.ntmps32
  go_wp2
  go_ret
  exact ⟨rfl, unhide HB _⟩
set_option maxRecDepth 100000 in
set_option maxHeartbeats 800000 in
theorem isI2 (w : World) (n : Int) : Calls Try.prog 34 #[.agg #[.int .i64 2, .int .i64 n]] w fun e w' => e = .returned (.bool true) ∧ Below w.heap.size w w' := by
  have HB := hide (bl_one w)
  go_enter Try.func34, Try.ntmps34
  go_wp2
  go_ret
  exact ⟨rfl, unhide HB _⟩
set_option maxRecDepth 100000 in
set_option maxHeartbeats 800000 in
theorem isI3 (w : World) (n : Int) : Calls Try.prog 34 #[.agg #[.int .i64 3, .int .i64 n]] w fun e w' => e = .returned (.bool false) ∧ Below w.heap.size w w' := by
  have HB := hide (bl_one w)
  go_enter Try.func34, Try.ntmps34
  go_wp2
  go_ret
  exact ⟨rfl, unhide HB _⟩
end Go.Proofs.Ytncmegafkccblaa
