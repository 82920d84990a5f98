/-
  One times a number, as math/bits has it.
-/
import Derived.Test.YtbphddocgdihjaaDoorVInts
namespace Go.Proofs.YtbphddocgdihjaaDoor
open Go.RowKit
set_option linter.unusedVariables false
set_option linter.unusedSimpArgs false
theorem band32 (n : Nat) (h : n < 4294967296) : bits .and .u64 (n : Int) 4294967295 = (n : Int) := by
  have e : bits .and .u64 (n : Int) 4294967295 = ((n % 4294967296 : Nat) : Int) := by go_bits2
  rw [e]; omega
set_option maxRecDepth 100000 in
set_option maxHeartbeats 1600000 in
theorem mul64_one (w : World) (n : Nat) (h : n ≤ 1048576) : Calls Tryd.prog 51 #[.int .u64 1, .int .u64 (n : Int)] w fun e w' => e = .returned (.tuple #[.int .u64 0, .int .u64 (n : Int)]) ∧ w' = w := by
  have a1 : bits .and .u64 (n : Int) 4294967295 = (n : Int) := band32 n (by omega)
  have a2 : bits .and .u64 1 4294967295 = 1 := band32 1 (by omega)
  have a3 : bits .and .u64 0 4294967295 = 0 := band32 0 (by omega)
  have a4 : (n : Int) / 4294967296 = 0 := by omega
  have a5 : (0 : Int) / 4294967296 = 0 := by decide
  have a6 : (1 : Int) / 4294967296 = 0 := by decide
  have a7 : IntKind.u64.wrap ((n : Int)) = (n : Int) := by go_arith
  go_enter Tryd.func51, Tryd.ntmps51
  go_wp2_with fail
  go_ret2
  exact ⟨rfl, rfl⟩
set_option maxRecDepth 100000 in
set_option maxHeartbeats 1600000 in
theorem mul_one_any (w : World) (n : Nat) (h : n ≤ 1048576) : Calls Tryd.prog 35 #[.int .u64 1, .int .u64 (n : Int)] w fun e w' => e = .returned (.tuple #[.int .u64 0, .int .u64 (n : Int)]) ∧ w' = w := by
  have HM := hide (mul64_one w n h)
  go_enter Tryd.func35, Tryd.ntmps35
  go_wp2_with fail
  refine (unhide HM).mono ?_
  rintro e w1 ⟨rfl, ew⟩
  rw [ew]
  clear ew HM w1
  go_wp2_with fail
  go_ret2
  exact ⟨rfl, rfl⟩
end Go.Proofs.YtbphddocgdihjaaDoor
