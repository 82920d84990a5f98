/-
  Words turned.
-/
import Derived.Test.YtlkcjimkgebeiaaDoorBase
namespace Go.Proofs.YtlkcjimkgebeiaaDoor
open Go.RowKit

/-- x turned right by n bits. -/
def rot (x n : Int) : Int := bits .or .u32 (x / 2 ^ n.toNat) (x * 2 ^ (32 - n.toNat) % 4294967296)
theorem or_comm32 (a b : Int) : bits .or .u32 a b = bits .or .u32 b a := by
  unfold bits
  simp only [BitVec.or_comm]

set_option maxHeartbeats 400000 in
set_option maxRecDepth 100000 in
theorem rotr_2 (x : Int) (w : World) : Calls Tryd.prog 31 #[.int .u32 x, .int .u64 2] w fun e w' => e = .returned (.int .u32 (rot x 2)) ∧ w' = w := by
  have hr : rot x 2 = bits .or .u32 (x / 4) (x * 1073741824 % 4294967296) := rfl
  rw [hr]
  go_enter Tryd.func31, Tryd.ntmps31
  go_wp2
  go_ret
  exact ⟨rfl, rfl⟩
set_option maxHeartbeats 400000 in
set_option maxRecDepth 100000 in
theorem turn_2 (x : Int) (w : World) : Calls Tryd.prog 33 #[.int .u32 x, .int .i64 2] w fun e w' => e = .returned (.int .u32 (rot x 2)) ∧ w' = w := by
  have hr : rot x 2 = bits .or .u32 (x * 1073741824 % 4294967296) (x / 4) := or_comm32 _ _
  have hs : bits BinOp.and IntKind.u64 (IntKind.u64.wrap (-2)) 31 = 30 := by decide
  rw [hr]
  go_enter Tryd.func33, Tryd.ntmps33
  go_wp2
  go_ret
  exact ⟨rfl, rfl⟩

set_option maxHeartbeats 400000 in
set_option maxRecDepth 100000 in
theorem rotr_6 (x : Int) (w : World) : Calls Tryd.prog 31 #[.int .u32 x, .int .u64 6] w fun e w' => e = .returned (.int .u32 (rot x 6)) ∧ w' = w := by
  have hr : rot x 6 = bits .or .u32 (x / 64) (x * 67108864 % 4294967296) := rfl
  rw [hr]
  go_enter Tryd.func31, Tryd.ntmps31
  go_wp2
  go_ret
  exact ⟨rfl, rfl⟩
set_option maxHeartbeats 400000 in
set_option maxRecDepth 100000 in
theorem turn_6 (x : Int) (w : World) : Calls Tryd.prog 33 #[.int .u32 x, .int .i64 6] w fun e w' => e = .returned (.int .u32 (rot x 6)) ∧ w' = w := by
  have hr : rot x 6 = bits .or .u32 (x * 67108864 % 4294967296) (x / 64) := or_comm32 _ _
  have hs : bits BinOp.and IntKind.u64 (IntKind.u64.wrap (-6)) 31 = 26 := by decide
  rw [hr]
  go_enter Tryd.func33, Tryd.ntmps33
  go_wp2
  go_ret
  exact ⟨rfl, rfl⟩

set_option maxHeartbeats 400000 in
set_option maxRecDepth 100000 in
theorem rotr_7 (x : Int) (w : World) : Calls Tryd.prog 31 #[.int .u32 x, .int .u64 7] w fun e w' => e = .returned (.int .u32 (rot x 7)) ∧ w' = w := by
  have hr : rot x 7 = bits .or .u32 (x / 128) (x * 33554432 % 4294967296) := rfl
  rw [hr]
  go_enter Tryd.func31, Tryd.ntmps31
  go_wp2
  go_ret
  exact ⟨rfl, rfl⟩
set_option maxHeartbeats 400000 in
set_option maxRecDepth 100000 in
theorem turn_7 (x : Int) (w : World) : Calls Tryd.prog 33 #[.int .u32 x, .int .i64 7] w fun e w' => e = .returned (.int .u32 (rot x 7)) ∧ w' = w := by
  have hr : rot x 7 = bits .or .u32 (x * 33554432 % 4294967296) (x / 128) := or_comm32 _ _
  have hs : bits BinOp.and IntKind.u64 (IntKind.u64.wrap (-7)) 31 = 25 := by decide
  rw [hr]
  go_enter Tryd.func33, Tryd.ntmps33
  go_wp2
  go_ret
  exact ⟨rfl, rfl⟩

set_option maxHeartbeats 400000 in
set_option maxRecDepth 100000 in
theorem rotr_11 (x : Int) (w : World) : Calls Tryd.prog 31 #[.int .u32 x, .int .u64 11] w fun e w' => e = .returned (.int .u32 (rot x 11)) ∧ w' = w := by
  have hr : rot x 11 = bits .or .u32 (x / 2048) (x * 2097152 % 4294967296) := rfl
  rw [hr]
  go_enter Tryd.func31, Tryd.ntmps31
  go_wp2
  go_ret
  exact ⟨rfl, rfl⟩
set_option maxHeartbeats 400000 in
set_option maxRecDepth 100000 in
theorem turn_11 (x : Int) (w : World) : Calls Tryd.prog 33 #[.int .u32 x, .int .i64 11] w fun e w' => e = .returned (.int .u32 (rot x 11)) ∧ w' = w := by
  have hr : rot x 11 = bits .or .u32 (x * 2097152 % 4294967296) (x / 2048) := or_comm32 _ _
  have hs : bits BinOp.and IntKind.u64 (IntKind.u64.wrap (-11)) 31 = 21 := by decide
  rw [hr]
  go_enter Tryd.func33, Tryd.ntmps33
  go_wp2
  go_ret
  exact ⟨rfl, rfl⟩

set_option maxHeartbeats 400000 in
set_option maxRecDepth 100000 in
theorem rotr_13 (x : Int) (w : World) : Calls Tryd.prog 31 #[.int .u32 x, .int .u64 13] w fun e w' => e = .returned (.int .u32 (rot x 13)) ∧ w' = w := by
  have hr : rot x 13 = bits .or .u32 (x / 8192) (x * 524288 % 4294967296) := rfl
  rw [hr]
  go_enter Tryd.func31, Tryd.ntmps31
  go_wp2
  go_ret
  exact ⟨rfl, rfl⟩
set_option maxHeartbeats 400000 in
set_option maxRecDepth 100000 in
theorem turn_13 (x : Int) (w : World) : Calls Tryd.prog 33 #[.int .u32 x, .int .i64 13] w fun e w' => e = .returned (.int .u32 (rot x 13)) ∧ w' = w := by
  have hr : rot x 13 = bits .or .u32 (x * 524288 % 4294967296) (x / 8192) := or_comm32 _ _
  have hs : bits BinOp.and IntKind.u64 (IntKind.u64.wrap (-13)) 31 = 19 := by decide
  rw [hr]
  go_enter Tryd.func33, Tryd.ntmps33
  go_wp2
  go_ret
  exact ⟨rfl, rfl⟩

set_option maxHeartbeats 400000 in
set_option maxRecDepth 100000 in
theorem rotr_17 (x : Int) (w : World) : Calls Tryd.prog 31 #[.int .u32 x, .int .u64 17] w fun e w' => e = .returned (.int .u32 (rot x 17)) ∧ w' = w := by
  have hr : rot x 17 = bits .or .u32 (x / 131072) (x * 32768 % 4294967296) := rfl
  rw [hr]
  go_enter Tryd.func31, Tryd.ntmps31
  go_wp2
  go_ret
  exact ⟨rfl, rfl⟩
set_option maxHeartbeats 400000 in
set_option maxRecDepth 100000 in
theorem turn_17 (x : Int) (w : World) : Calls Tryd.prog 33 #[.int .u32 x, .int .i64 17] w fun e w' => e = .returned (.int .u32 (rot x 17)) ∧ w' = w := by
  have hr : rot x 17 = bits .or .u32 (x * 32768 % 4294967296) (x / 131072) := or_comm32 _ _
  have hs : bits BinOp.and IntKind.u64 (IntKind.u64.wrap (-17)) 31 = 15 := by decide
  rw [hr]
  go_enter Tryd.func33, Tryd.ntmps33
  go_wp2
  go_ret
  exact ⟨rfl, rfl⟩

set_option maxHeartbeats 400000 in
set_option maxRecDepth 100000 in
theorem rotr_18 (x : Int) (w : World) : Calls Tryd.prog 31 #[.int .u32 x, .int .u64 18] w fun e w' => e = .returned (.int .u32 (rot x 18)) ∧ w' = w := by
  have hr : rot x 18 = bits .or .u32 (x / 262144) (x * 16384 % 4294967296) := rfl
  rw [hr]
  go_enter Tryd.func31, Tryd.ntmps31
  go_wp2
  go_ret
  exact ⟨rfl, rfl⟩
set_option maxHeartbeats 400000 in
set_option maxRecDepth 100000 in
theorem turn_18 (x : Int) (w : World) : Calls Tryd.prog 33 #[.int .u32 x, .int .i64 18] w fun e w' => e = .returned (.int .u32 (rot x 18)) ∧ w' = w := by
  have hr : rot x 18 = bits .or .u32 (x * 16384 % 4294967296) (x / 262144) := or_comm32 _ _
  have hs : bits BinOp.and IntKind.u64 (IntKind.u64.wrap (-18)) 31 = 14 := by decide
  rw [hr]
  go_enter Tryd.func33, Tryd.ntmps33
  go_wp2
  go_ret
  exact ⟨rfl, rfl⟩

set_option maxHeartbeats 400000 in
set_option maxRecDepth 100000 in
theorem rotr_19 (x : Int) (w : World) : Calls Tryd.prog 31 #[.int .u32 x, .int .u64 19] w fun e w' => e = .returned (.int .u32 (rot x 19)) ∧ w' = w := by
  have hr : rot x 19 = bits .or .u32 (x / 524288) (x * 8192 % 4294967296) := rfl
  rw [hr]
  go_enter Tryd.func31, Tryd.ntmps31
  go_wp2
  go_ret
  exact ⟨rfl, rfl⟩
set_option maxHeartbeats 400000 in
set_option maxRecDepth 100000 in
theorem turn_19 (x : Int) (w : World) : Calls Tryd.prog 33 #[.int .u32 x, .int .i64 19] w fun e w' => e = .returned (.int .u32 (rot x 19)) ∧ w' = w := by
  have hr : rot x 19 = bits .or .u32 (x * 8192 % 4294967296) (x / 524288) := or_comm32 _ _
  have hs : bits BinOp.and IntKind.u64 (IntKind.u64.wrap (-19)) 31 = 13 := by decide
  rw [hr]
  go_enter Tryd.func33, Tryd.ntmps33
  go_wp2
  go_ret
  exact ⟨rfl, rfl⟩

set_option maxHeartbeats 400000 in
set_option maxRecDepth 100000 in
theorem rotr_22 (x : Int) (w : World) : Calls Tryd.prog 31 #[.int .u32 x, .int .u64 22] w fun e w' => e = .returned (.int .u32 (rot x 22)) ∧ w' = w := by
  have hr : rot x 22 = bits .or .u32 (x / 4194304) (x * 1024 % 4294967296) := rfl
  rw [hr]
  go_enter Tryd.func31, Tryd.ntmps31
  go_wp2
  go_ret
  exact ⟨rfl, rfl⟩
set_option maxHeartbeats 400000 in
set_option maxRecDepth 100000 in
theorem turn_22 (x : Int) (w : World) : Calls Tryd.prog 33 #[.int .u32 x, .int .i64 22] w fun e w' => e = .returned (.int .u32 (rot x 22)) ∧ w' = w := by
  have hr : rot x 22 = bits .or .u32 (x * 1024 % 4294967296) (x / 4194304) := or_comm32 _ _
  have hs : bits BinOp.and IntKind.u64 (IntKind.u64.wrap (-22)) 31 = 10 := by decide
  rw [hr]
  go_enter Tryd.func33, Tryd.ntmps33
  go_wp2
  go_ret
  exact ⟨rfl, rfl⟩

set_option maxHeartbeats 400000 in
set_option maxRecDepth 100000 in
theorem rotr_25 (x : Int) (w : World) : Calls Tryd.prog 31 #[.int .u32 x, .int .u64 25] w fun e w' => e = .returned (.int .u32 (rot x 25)) ∧ w' = w := by
  have hr : rot x 25 = bits .or .u32 (x / 33554432) (x * 128 % 4294967296) := rfl
  rw [hr]
  go_enter Tryd.func31, Tryd.ntmps31
  go_wp2
  go_ret
  exact ⟨rfl, rfl⟩
set_option maxHeartbeats 400000 in
set_option maxRecDepth 100000 in
theorem turn_25 (x : Int) (w : World) : Calls Tryd.prog 33 #[.int .u32 x, .int .i64 25] w fun e w' => e = .returned (.int .u32 (rot x 25)) ∧ w' = w := by
  have hr : rot x 25 = bits .or .u32 (x * 128 % 4294967296) (x / 33554432) := or_comm32 _ _
  have hs : bits BinOp.and IntKind.u64 (IntKind.u64.wrap (-25)) 31 = 7 := by decide
  rw [hr]
  go_enter Tryd.func33, Tryd.ntmps33
  go_wp2
  go_ret
  exact ⟨rfl, rfl⟩

/-- The ways in which words are turned. -/
def Turns (n : Int) : Prop := n = 2 ∨ n = 6 ∨ n = 7 ∨ n = 11 ∨ n = 13 ∨ n = 17 ∨ n = 18 ∨ n = 19 ∨ n = 22 ∨ n = 25
theorem turn_any (x n : Int) (hn : Turns n) (w : World) : Calls Tryd.prog 33 #[.int .u32 x, .int .i64 n] w fun e w' => e = .returned (.int .u32 (rot x n)) ∧ w' = w := by
  rcases hn with rfl | rfl | rfl | rfl | rfl | rfl | rfl | rfl | rfl | rfl
  · exact turn_2 x w
  · exact turn_6 x w
  · exact turn_7 x w
  · exact turn_11 x w
  · exact turn_13 x w
  · exact turn_17 x w
  · exact turn_18 x w
  · exact turn_19 x w
  · exact turn_22 x w
  · exact turn_25 x w
theorem rotr_any (x n : Int) (hn : Turns n) (w : World) : Calls Tryd.prog 31 #[.int .u32 x, .int .u64 n] w fun e w' => e = .returned (.int .u32 (rot x n)) ∧ w' = w := by
  rcases hn with rfl | rfl | rfl | rfl | rfl | rfl | rfl | rfl | rfl | rfl
  · exact rotr_2 x w
  · exact rotr_6 x w
  · exact rotr_7 x w
  · exact rotr_11 x w
  · exact rotr_13 x w
  · exact rotr_17 x w
  · exact rotr_18 x w
  · exact rotr_19 x w
  · exact rotr_22 x w
  · exact rotr_25 x w
end Go.Proofs.YtlkcjimkgebeiaaDoor
