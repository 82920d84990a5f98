/-
  The words behind a block.
-/
import Derived.Test.YtlogmdldjmkkjaaGreatDoorBase
namespace Go.Proofs.YtlogmdldjmkkjaaGreatDoor.dg
open Go.RowKit

/-- x turned right by n bits. -/
def rot (x n : Int) : Int := bits .or .u32 (x / 2 ^ n.toNat) (x * 2 ^ (32 - n.toNat) % 4294967296)
theorem or_comm32 (a b : Int) : bits .or .u32 a b = bits .or .u32 b a := by
  unfold bits
  simp only [BitVec.or_comm]

set_option maxHeartbeats 400000 in
set_option maxRecDepth 100000 in
theorem rotr_2 (x : Int) (w : World) : Calls Tryz.prog 117 #[.int .u32 x, .int .u64 2] w fun e w' => e = .returned (.int .u32 (rot x 2)) ∧ w' = w := by
  have hr : rot x 2 = bits .or .u32 (x / 4) (x * 1073741824 % 4294967296) := rfl
  rw [hr]
  go_enter Tryz.func117, Tryz.ntmps117
  go_wp2
  go_ret
  exact ⟨rfl, rfl⟩
set_option maxHeartbeats 400000 in
set_option maxRecDepth 100000 in
theorem turn_2 (x : Int) (w : World) : Calls Tryz.prog 144 #[.int .u32 x, .int .i64 2] w fun e w' => e = .returned (.int .u32 (rot x 2)) ∧ w' = w := by
  have hr : rot x 2 = bits .or .u32 (x * 1073741824 % 4294967296) (x / 4) := or_comm32 _ _
  have hs : bits BinOp.and IntKind.u64 (IntKind.u64.wrap (-2)) 31 = 30 := by decide
  rw [hr]
  go_enter Tryz.func144, Tryz.ntmps144
  go_wp2
  go_ret
  exact ⟨rfl, rfl⟩

set_option maxHeartbeats 400000 in
set_option maxRecDepth 100000 in
theorem rotr_6 (x : Int) (w : World) : Calls Tryz.prog 117 #[.int .u32 x, .int .u64 6] w fun e w' => e = .returned (.int .u32 (rot x 6)) ∧ w' = w := by
  have hr : rot x 6 = bits .or .u32 (x / 64) (x * 67108864 % 4294967296) := rfl
  rw [hr]
  go_enter Tryz.func117, Tryz.ntmps117
  go_wp2
  go_ret
  exact ⟨rfl, rfl⟩
set_option maxHeartbeats 400000 in
set_option maxRecDepth 100000 in
theorem turn_6 (x : Int) (w : World) : Calls Tryz.prog 144 #[.int .u32 x, .int .i64 6] w fun e w' => e = .returned (.int .u32 (rot x 6)) ∧ w' = w := by
  have hr : rot x 6 = bits .or .u32 (x * 67108864 % 4294967296) (x / 64) := or_comm32 _ _
  have hs : bits BinOp.and IntKind.u64 (IntKind.u64.wrap (-6)) 31 = 26 := by decide
  rw [hr]
  go_enter Tryz.func144, Tryz.ntmps144
  go_wp2
  go_ret
  exact ⟨rfl, rfl⟩

set_option maxHeartbeats 400000 in
set_option maxRecDepth 100000 in
theorem rotr_7 (x : Int) (w : World) : Calls Tryz.prog 117 #[.int .u32 x, .int .u64 7] w fun e w' => e = .returned (.int .u32 (rot x 7)) ∧ w' = w := by
  have hr : rot x 7 = bits .or .u32 (x / 128) (x * 33554432 % 4294967296) := rfl
  rw [hr]
  go_enter Tryz.func117, Tryz.ntmps117
  go_wp2
  go_ret
  exact ⟨rfl, rfl⟩
set_option maxHeartbeats 400000 in
set_option maxRecDepth 100000 in
theorem turn_7 (x : Int) (w : World) : Calls Tryz.prog 144 #[.int .u32 x, .int .i64 7] w fun e w' => e = .returned (.int .u32 (rot x 7)) ∧ w' = w := by
  have hr : rot x 7 = bits .or .u32 (x * 33554432 % 4294967296) (x / 128) := or_comm32 _ _
  have hs : bits BinOp.and IntKind.u64 (IntKind.u64.wrap (-7)) 31 = 25 := by decide
  rw [hr]
  go_enter Tryz.func144, Tryz.ntmps144
  go_wp2
  go_ret
  exact ⟨rfl, rfl⟩

set_option maxHeartbeats 400000 in
set_option maxRecDepth 100000 in
theorem rotr_11 (x : Int) (w : World) : Calls Tryz.prog 117 #[.int .u32 x, .int .u64 11] w fun e w' => e = .returned (.int .u32 (rot x 11)) ∧ w' = w := by
  have hr : rot x 11 = bits .or .u32 (x / 2048) (x * 2097152 % 4294967296) := rfl
  rw [hr]
  go_enter Tryz.func117, Tryz.ntmps117
  go_wp2
  go_ret
  exact ⟨rfl, rfl⟩
set_option maxHeartbeats 400000 in
set_option maxRecDepth 100000 in
theorem turn_11 (x : Int) (w : World) : Calls Tryz.prog 144 #[.int .u32 x, .int .i64 11] w fun e w' => e = .returned (.int .u32 (rot x 11)) ∧ w' = w := by
  have hr : rot x 11 = bits .or .u32 (x * 2097152 % 4294967296) (x / 2048) := or_comm32 _ _
  have hs : bits BinOp.and IntKind.u64 (IntKind.u64.wrap (-11)) 31 = 21 := by decide
  rw [hr]
  go_enter Tryz.func144, Tryz.ntmps144
  go_wp2
  go_ret
  exact ⟨rfl, rfl⟩

set_option maxHeartbeats 400000 in
set_option maxRecDepth 100000 in
theorem rotr_13 (x : Int) (w : World) : Calls Tryz.prog 117 #[.int .u32 x, .int .u64 13] w fun e w' => e = .returned (.int .u32 (rot x 13)) ∧ w' = w := by
  have hr : rot x 13 = bits .or .u32 (x / 8192) (x * 524288 % 4294967296) := rfl
  rw [hr]
  go_enter Tryz.func117, Tryz.ntmps117
  go_wp2
  go_ret
  exact ⟨rfl, rfl⟩
set_option maxHeartbeats 400000 in
set_option maxRecDepth 100000 in
theorem turn_13 (x : Int) (w : World) : Calls Tryz.prog 144 #[.int .u32 x, .int .i64 13] w fun e w' => e = .returned (.int .u32 (rot x 13)) ∧ w' = w := by
  have hr : rot x 13 = bits .or .u32 (x * 524288 % 4294967296) (x / 8192) := or_comm32 _ _
  have hs : bits BinOp.and IntKind.u64 (IntKind.u64.wrap (-13)) 31 = 19 := by decide
  rw [hr]
  go_enter Tryz.func144, Tryz.ntmps144
  go_wp2
  go_ret
  exact ⟨rfl, rfl⟩

set_option maxHeartbeats 400000 in
set_option maxRecDepth 100000 in
theorem rotr_17 (x : Int) (w : World) : Calls Tryz.prog 117 #[.int .u32 x, .int .u64 17] w fun e w' => e = .returned (.int .u32 (rot x 17)) ∧ w' = w := by
  have hr : rot x 17 = bits .or .u32 (x / 131072) (x * 32768 % 4294967296) := rfl
  rw [hr]
  go_enter Tryz.func117, Tryz.ntmps117
  go_wp2
  go_ret
  exact ⟨rfl, rfl⟩
set_option maxHeartbeats 400000 in
set_option maxRecDepth 100000 in
theorem turn_17 (x : Int) (w : World) : Calls Tryz.prog 144 #[.int .u32 x, .int .i64 17] w fun e w' => e = .returned (.int .u32 (rot x 17)) ∧ w' = w := by
  have hr : rot x 17 = bits .or .u32 (x * 32768 % 4294967296) (x / 131072) := or_comm32 _ _
  have hs : bits BinOp.and IntKind.u64 (IntKind.u64.wrap (-17)) 31 = 15 := by decide
  rw [hr]
  go_enter Tryz.func144, Tryz.ntmps144
  go_wp2
  go_ret
  exact ⟨rfl, rfl⟩

set_option maxHeartbeats 400000 in
set_option maxRecDepth 100000 in
theorem rotr_18 (x : Int) (w : World) : Calls Tryz.prog 117 #[.int .u32 x, .int .u64 18] w fun e w' => e = .returned (.int .u32 (rot x 18)) ∧ w' = w := by
  have hr : rot x 18 = bits .or .u32 (x / 262144) (x * 16384 % 4294967296) := rfl
  rw [hr]
  go_enter Tryz.func117, Tryz.ntmps117
  go_wp2
  go_ret
  exact ⟨rfl, rfl⟩
set_option maxHeartbeats 400000 in
set_option maxRecDepth 100000 in
theorem turn_18 (x : Int) (w : World) : Calls Tryz.prog 144 #[.int .u32 x, .int .i64 18] w fun e w' => e = .returned (.int .u32 (rot x 18)) ∧ w' = w := by
  have hr : rot x 18 = bits .or .u32 (x * 16384 % 4294967296) (x / 262144) := or_comm32 _ _
  have hs : bits BinOp.and IntKind.u64 (IntKind.u64.wrap (-18)) 31 = 14 := by decide
  rw [hr]
  go_enter Tryz.func144, Tryz.ntmps144
  go_wp2
  go_ret
  exact ⟨rfl, rfl⟩

set_option maxHeartbeats 400000 in
set_option maxRecDepth 100000 in
theorem rotr_19 (x : Int) (w : World) : Calls Tryz.prog 117 #[.int .u32 x, .int .u64 19] w fun e w' => e = .returned (.int .u32 (rot x 19)) ∧ w' = w := by
  have hr : rot x 19 = bits .or .u32 (x / 524288) (x * 8192 % 4294967296) := rfl
  rw [hr]
  go_enter Tryz.func117, Tryz.ntmps117
  go_wp2
  go_ret
  exact ⟨rfl, rfl⟩
set_option maxHeartbeats 400000 in
set_option maxRecDepth 100000 in
theorem turn_19 (x : Int) (w : World) : Calls Tryz.prog 144 #[.int .u32 x, .int .i64 19] w fun e w' => e = .returned (.int .u32 (rot x 19)) ∧ w' = w := by
  have hr : rot x 19 = bits .or .u32 (x * 8192 % 4294967296) (x / 524288) := or_comm32 _ _
  have hs : bits BinOp.and IntKind.u64 (IntKind.u64.wrap (-19)) 31 = 13 := by decide
  rw [hr]
  go_enter Tryz.func144, Tryz.ntmps144
  go_wp2
  go_ret
  exact ⟨rfl, rfl⟩

set_option maxHeartbeats 400000 in
set_option maxRecDepth 100000 in
theorem rotr_22 (x : Int) (w : World) : Calls Tryz.prog 117 #[.int .u32 x, .int .u64 22] w fun e w' => e = .returned (.int .u32 (rot x 22)) ∧ w' = w := by
  have hr : rot x 22 = bits .or .u32 (x / 4194304) (x * 1024 % 4294967296) := rfl
  rw [hr]
  go_enter Tryz.func117, Tryz.ntmps117
  go_wp2
  go_ret
  exact ⟨rfl, rfl⟩
set_option maxHeartbeats 400000 in
set_option maxRecDepth 100000 in
theorem turn_22 (x : Int) (w : World) : Calls Tryz.prog 144 #[.int .u32 x, .int .i64 22] w fun e w' => e = .returned (.int .u32 (rot x 22)) ∧ w' = w := by
  have hr : rot x 22 = bits .or .u32 (x * 1024 % 4294967296) (x / 4194304) := or_comm32 _ _
  have hs : bits BinOp.and IntKind.u64 (IntKind.u64.wrap (-22)) 31 = 10 := by decide
  rw [hr]
  go_enter Tryz.func144, Tryz.ntmps144
  go_wp2
  go_ret
  exact ⟨rfl, rfl⟩

set_option maxHeartbeats 400000 in
set_option maxRecDepth 100000 in
theorem rotr_25 (x : Int) (w : World) : Calls Tryz.prog 117 #[.int .u32 x, .int .u64 25] w fun e w' => e = .returned (.int .u32 (rot x 25)) ∧ w' = w := by
  have hr : rot x 25 = bits .or .u32 (x / 33554432) (x * 128 % 4294967296) := rfl
  rw [hr]
  go_enter Tryz.func117, Tryz.ntmps117
  go_wp2
  go_ret
  exact ⟨rfl, rfl⟩
set_option maxHeartbeats 400000 in
set_option maxRecDepth 100000 in
theorem turn_25 (x : Int) (w : World) : Calls Tryz.prog 144 #[.int .u32 x, .int .i64 25] w fun e w' => e = .returned (.int .u32 (rot x 25)) ∧ w' = w := by
  have hr : rot x 25 = bits .or .u32 (x * 128 % 4294967296) (x / 33554432) := or_comm32 _ _
  have hs : bits BinOp.and IntKind.u64 (IntKind.u64.wrap (-25)) 31 = 7 := by decide
  rw [hr]
  go_enter Tryz.func144, Tryz.ntmps144
  go_wp2
  go_ret
  exact ⟨rfl, rfl⟩

/-- The ways in which words are turned. -/
def Turns (n : Int) : Prop := n = 2 ∨ n = 6 ∨ n = 7 ∨ n = 11 ∨ n = 13 ∨ n = 17 ∨ n = 18 ∨ n = 19 ∨ n = 22 ∨ n = 25
theorem turn_any (x n : Int) (hn : Turns n) (w : World) : Calls Tryz.prog 144 #[.int .u32 x, .int .i64 n] w fun e w' => e = .returned (.int .u32 (rot x n)) ∧ w' = w := by
  rcases hn with rfl | rfl | rfl | rfl | rfl | rfl | rfl | rfl | rfl | rfl
  · exact turn_2 x w
  · exact turn_6 x w
  · exact turn_7 x w
  · exact turn_11 x w
  · exact turn_13 x w
  · exact turn_17 x w
  · exact turn_18 x w
  · exact turn_19 x w
  · exact turn_22 x w
  · exact turn_25 x w
theorem rotr_any (x n : Int) (hn : Turns n) (w : World) : Calls Tryz.prog 117 #[.int .u32 x, .int .u64 n] w fun e w' => e = .returned (.int .u32 (rot x n)) ∧ w' = w := by
  rcases hn with rfl | rfl | rfl | rfl | rfl | rfl | rfl | rfl | rfl | rfl
  · exact rotr_2 x w
  · exact rotr_6 x w
  · exact rotr_7 x w
  · exact rotr_11 x w
  · exact rotr_13 x w
  · exact rotr_17 x w
  · exact rotr_18 x w
  · exact rotr_19 x w
  · exact rotr_22 x w
  · exact rotr_25 x w


theorem Tryz.info160 : (Tryz.prog.info? 160).map (·.size) = some 64 := by kernel_rfl
theorem Tryz.info185 : (Tryz.prog.info? 185).map (·.size) = some 64 := by kernel_rfl
def z64 : List Int := List.replicate 64 0
theorem z64_len : z64.length = 64 := rfl
theorem Tryz.zero63 : (Tryz.prog.info? 185).map (fun i => (i.zero, i.size)) = some (some (.agg (Ar .u32 z64)), 64) := by kernel_rfl

/-- A word of four bytes, the highest first. -/
def w4 (b0 b1 b2 b3 : Int) : Int := bits .or .u32 (bits .or .u32 (bits .or .u32 (b0 * 16777216) (b1 * 65536)) (b2 * 256)) b3
/-- The next word. -/
def nx (a b c d : Int) : Int := (bits .xor .u32 (bits .xor .u32 (rot d 17) (rot d 19)) (d / 1024) + c + bits .xor .u32 (bits .xor .u32 (rot b 7) (rot b 18)) (b / 8) + a) % 4294967296
/-- The first words. -/
def sp (b : List Int) : Nat → List Int
  | 0 => []
  | n + 1 => sp b n ++ [if n < 16 then w4 (b.getD (4 * n) 0) (b.getD (4 * n + 1) 0) (b.getD (4 * n + 2) 0) (b.getD (4 * n + 3) 0) else nx ((sp b n).getD (n - 16) 0) ((sp b n).getD (n - 15) 0) ((sp b n).getD (n - 7) 0) ((sp b n).getD (n - 2) 0)]
theorem sp_low (b : List Int) (n : Nat) (h : n < 16) : sp b (n + 1) = sp b n ++ [w4 (b.getD (4 * n) 0) (b.getD (4 * n + 1) 0) (b.getD (4 * n + 2) 0) (b.getD (4 * n + 3) 0)] := by rw [sp, if_pos h]
theorem sp_high (b : List Int) (i : Nat) : sp b (i + 16 + 1) = sp b (i + 16) ++ [nx ((sp b (i + 16)).getD i 0) ((sp b (i + 16)).getD (i + 1) 0) ((sp b (i + 16)).getD (i + 9) 0) ((sp b (i + 16)).getD (i + 14) 0)] := by
  rw [sp, if_neg (by omega), show i + 16 - 16 = i by omega, show i + 16 - 15 = i + 1 by omega, show i + 16 - 7 = i + 9 by omega, show i + 16 - 2 = i + 14 by omega]
theorem take_getD (xs : List Int) (n i : Nat) (h : i < n) : (xs.take n).getD i 0 = xs.getD i 0 := by simp [List.getD, h]
theorem take_set2 (xs : List Int) (n : Nat) (h : n < xs.length) (L : List Int) (y : Int) (e : xs.take n = L) : (xs.set n y).take (n + 1) = L ++ [y] := by
  rw [take_getD0 (xs.set n y) n (by simpa using h), set_length_take xs n n (Nat.le_refl _), e]
  simp [List.getD, h]
theorem sp_len (b : List Int) : ∀ n, (sp b n).length = n
  | 0 => rfl
  | n + 1 => by rw [sp, List.length_append, sp_len b n]; rfl

set_option maxHeartbeats 3200000 in
set_option maxRecDepth 100000 in
theorem spread_any (b : List Int) (hb : b.length = 64) (hB : BOk b) (w : World) :
    Calls Tryz.prog 143 #[.agg (Ar .u8 b)] w fun e w' => e = .returned (.agg (Ar .u32 (sp b 64))) ∧ Below w.heap.size w w' := by
  have hz := hide Tryz.zero63
  have HX := hide hb
  have HB := hide hB
  have H0 : Hid (Seg (((w.alloc (.cells (Ar .u8 b) 160)).alloc (.cells (Ar .u32 z64) 185)).alloc (.cells (Ar .u32 z64) 185)) w.heap.size 0 .u8 b) := ((Seg.fresh w 160 .u8 b).alloc _).alloc _
  have H1 : Hid (Seg (((w.alloc (.cells (Ar .u8 b) 160)).alloc (.cells (Ar .u32 z64) 185)).alloc (.cells (Ar .u32 z64) 185)) (w.heap.size + 1) 0 .u32 z64) := by
    have := (Seg.fresh (w.alloc (.cells (Ar .u8 b) 160)) 185 .u32 z64).alloc (.cells (Ar .u32 z64) 185)
    simpa [Hid] using this
  have H2 : Hid (Seg (((w.alloc (.cells (Ar .u8 b) 160)).alloc (.cells (Ar .u32 z64) 185)).alloc (.cells (Ar .u32 z64) 185)) (w.heap.size + 1 + 1) 0 .u32 z64) := by
    have := Seg.fresh ((w.alloc (.cells (Ar .u8 b) 160)).alloc (.cells (Ar .u32 z64) 185)) 185 .u32 z64
    simpa [Hid] using this
  have HW : Hid (Below w.heap.size w (((w.alloc (.cells (Ar .u8 b) 160)).alloc (.cells (Ar .u32 z64) 185)).alloc (.cells (Ar .u32 z64) 185))) := (((Below.refl _ _).alloc (Nat.le_refl _) _).alloc (by simp) _).alloc (by simp; omega) _
  clear hb hB
  go_enter Tryz.func143, Tryz.ntmps143
  go_wp2_with (refine wpList_alloc_ar rfl 185 rfl (Ar .u32 z64) 64 (unhide hz) ?_)
  go_loopg [10] 16 (fun k s wr => ∃ (j : Nat) (xs : List Int), Hid (j + k = 16) ∧ j ≤ 16 ∧ s = .int .i64 (j : Int) ∧ Hid (xs.length = 64 ∧ xs.take j = sp b j) ∧ Hid (Seg wr w.heap.size 0 .u8 b ∧ Seg wr (w.heap.size + 1) 0 .u32 z64 ∧ Seg wr (w.heap.size + 1 + 1) 0 .u32 xs) ∧ Hid (Below w.heap.size w wr))
  case atStart => exact ⟨0, z64, by unfold Hid; omega, by omega, rfl, ⟨rfl, rfl⟩, ⟨unhide H0, unhide H1, unhide H2⟩, HW⟩
  case round =>
    obtain ⟨j, xs, hj, hj16, rfl, hxs, hG, hW⟩ := hrel
    by_cases hlt : j < 16
    · have hc0 := (unhide hG).1.cell (4 * j) (by rw [unhide HX]; omega)
      have hc1 := (unhide hG).1.cell (4 * j + 1) (by rw [unhide HX]; omega)
      have hc2 := (unhide hG).1.cell (4 * j + 2) (by rw [unhide HX]; omega)
      have hc3 := (unhide hG).1.cell (4 * j + 3) (by rw [unhide HX]; omega)
      have hd0 := (unhide hG).2.2.cell j (by rw [(unhide hxs).1]; omega)
      have hf0 := (unhide hG).2.2.frz j (by rw [(unhide hxs).1]; omega)
      rw [Nat.zero_add] at hc0 hc1 hc2 hc3 hd0 hf0
      have hbd : ∀ i, i < 64 → 0 ≤ b.getD i 0 ∧ b.getD i 0 < 256 := fun i hi => unhide HB _ (by rw [List.getD_eq_getElem?_getD, List.getElem?_eq_getElem (by rw [unhide HX]; exact hi)]; exact List.getElem_mem _)
      have d0 := hbd (4 * j) (by omega)
      have d1 := hbd (4 * j + 1) (by omega)
      have d2 := hbd (4 * j + 2) (by omega)
      have d3 := hbd (4 * j + 3) (by omega)
      have hsp : Hid (sp b (j + 1) = sp b j ++ [w4 (b.getD (4 * j) 0) (b.getD (4 * j + 1) 0) (b.getD (4 * j + 2) 0) (b.getD (4 * j + 3) 0)]) := sp_low b j hlt
      clear hbd
      generalize b.getD (4 * j) 0 = b0 at *
      generalize b.getD (4 * j + 1) 0 = b1 at *
      generalize b.getD (4 * j + 2) 0 = b2 at *
      generalize b.getD (4 * j + 3) 0 = b3 at *
      generalize xs.getD j 0 = o1 at *
      obtain ⟨l0, u0⟩ := d0
      obtain ⟨l1, u1⟩ := d1
      obtain ⟨l2, u2⟩ := d2
      obtain ⟨l3, u3⟩ := d3
      have i1 : (0 : Int) ≤ (j : Int) := by omega
      have i2 : (j : Int) < 16 := by omega
      go_wp2
      go_region
      all_goals go_wp2
      all_goals
        go_roundg (gk - 1)
        case measure => have := unhide hj; omega
        case rel =>
          have h1 := (unhide hG).2.2.set j (by rw [(unhide hxs).1]; omega) (w4 b0 b1 b2 b3)
          rw [Nat.zero_add] at h1
          exact ⟨j + 1, xs.set j (w4 b0 b1 b2 b3), by have := unhide hj; unfold Hid; omega, by omega, by go_num, ⟨by rw [List.length_set]; exact (unhide hxs).1, by rw [unhide hsp]; exact take_set2 xs j (by rw [(unhide hxs).1]; omega) _ _ (unhide hxs).2⟩,
            ⟨((unhide hG).1.other _ _ (.inl (by simp; omega))).drew, ((unhide hG).2.1.other _ _ (.inl (by simp))).drew, h1.drew⟩, ((unhide hW).setCell (p := ⟨w.heap.size + 1 + 1, j, none⟩) (by simp; omega) _).drew⟩
    · obtain rfl : j = 16 := by omega
      have hxs0 := hxs
      have hG0 := hG
      have hW0 := hW
      clear hxs hG hW
      go_wp2
      go_loopg [5] 48 (fun k s wr => ∃ (i : Nat) (xs : List Int), Hid (i + k = 48) ∧ i ≤ 48 ∧ s = .int .i64 ((i : Int) + 16) ∧ Hid (xs.length = 64 ∧ xs.take (i + 16) = sp b (i + 16)) ∧ Hid (Seg wr (w.heap.size + 1) 0 .u32 z64 ∧ Seg wr (w.heap.size + 1 + 1) 0 .u32 xs) ∧ Hid (Below w.heap.size w wr))
      case atStart => exact ⟨0, xs, by unfold Hid; omega, by omega, rfl, unhide hxs0, ⟨(unhide hG0).2.1, (unhide hG0).2.2⟩, hW0⟩
      case round =>
        obtain ⟨i, xs, hj, hj16, rfl, hxs, hG, hW⟩ := hrel
        by_cases hlt : i < 48
        · have hca := (unhide hG).2.cell i (by rw [(unhide hxs).1]; omega)
          have hcb := (unhide hG).2.cell (i + 1) (by rw [(unhide hxs).1]; omega)
          have hcc := (unhide hG).2.cell (i + 9) (by rw [(unhide hxs).1]; omega)
          have hcd := (unhide hG).2.cell (i + 14) (by rw [(unhide hxs).1]; omega)
          have hd0 := (unhide hG).2.cell (i + 16) (by rw [(unhide hxs).1]; omega)
          have hf0 := (unhide hG).2.frz (i + 16) (by rw [(unhide hxs).1]; omega)
          rw [Nat.zero_add] at hca hcb hcc hcd hd0 hf0
          have hsp : Hid (sp b (i + 16 + 1) = sp b (i + 16) ++ [nx (xs.getD i 0) (xs.getD (i + 1) 0) (xs.getD (i + 9) 0) (xs.getD (i + 14) 0)]) := by
            rw [Hid, sp_high, ← (unhide hxs).2, take_getD xs _ i (by omega), take_getD xs _ (i + 1) (by omega), take_getD xs _ (i + 9) (by omega), take_getD xs _ (i + 14) (by omega)]
          generalize xs.getD i 0 = a at *
          generalize xs.getD (i + 1) 0 = b1 at *
          generalize xs.getD (i + 9) 0 = c at *
          generalize xs.getD (i + 14) 0 = d at *
          generalize xs.getD (i + 16) 0 = o1 at *
          have hnx : Hid (nx a b1 c d = (bits .xor .u32 (bits .xor .u32 (rot d 17) (rot d 19)) (d / 1024) + c + bits .xor .u32 (bits .xor .u32 (rot b1 7) (rot b1 18)) (b1 / 8) + a) % 4294967296) := rfl
          have e1 : (i : Int) + 16 - 15 = ((i + 1 : Nat) : Int) := by omega
          have e2 : (i : Int) + 16 - 2 = ((i + 14 : Nat) : Int) := by omega
          have e3 : (i : Int) + 16 - 7 = ((i + 9 : Nat) : Int) := by omega
          have e4 : (i : Int) + 16 - 16 = (i : Int) := by omega
          have i1 : (0 : Int) ≤ (i : Int) := by omega
          have i2 : (i : Int) < 48 := by omega
          have i3 : (i : Int) + 16 < 64 := by omega
          go_wp2
          go_quiet (fail)
          go_wp2_with fail
          refine (turn_7 _ _).mono ?_
          rintro e w' ⟨rfl, hww⟩
          subst hww
          go_wp2_with fail
          refine (turn_18 _ _).mono ?_
          rintro e w' ⟨rfl, hww⟩
          subst hww
          go_wp2_with fail
          refine (turn_17 _ _).mono ?_
          rintro e w' ⟨rfl, hww⟩
          subst hww
          go_wp2_with fail
          refine (turn_19 _ _).mono ?_
          rintro e w' ⟨rfl, hww⟩
          subst hww
          go_wp2
          generalize bits .xor .u32 (bits .xor .u32 (rot b1 7) (rot b1 18)) (b1 / 8) = s0 at *
          generalize bits .xor .u32 (bits .xor .u32 (rot d 17) (rot d 19)) (d / 1024) = s1 at *
          have hG2 : Hid (Seg (wr.drewN nq) (w.heap.size + 1) 0 .u32 z64 ∧ Seg (wr.drewN nq) (w.heap.size + 1 + 1) 0 .u32 xs) := ⟨(unhide hG).1.keepB (by rw [drewN_heap]), (unhide hG).2.keepB (by rw [drewN_heap])⟩
          have hW2 : Hid (Below w.heap.size w (wr.drewN nq)) := below_drewN (unhide hW) nq
          have hca2 : (wr.drewN nq).cell? ⟨w.heap.size + 1 + 1, i, none⟩ = some (.int .u32 a) := by simpa using hca
          have hcc2 : (wr.drewN nq).cell? ⟨w.heap.size + 1 + 1, i + 9, none⟩ = some (.int .u32 c) := by simpa using hcc
          have hd2 : (wr.drewN nq).cell? ⟨w.heap.size + 1 + 1, i + 16, none⟩ = some (.int .u32 o1) := by simpa using hd0
          have hf2 : (wr.drewN nq).frozen? ⟨w.heap.size + 1 + 1, i + 16, none⟩ = false := by simpa using hf0
          clear hca hcb hcc hcd hd0 hf0 hG hW
          generalize wr.drewN nq = wq at *
          go_region
          all_goals go_wp2
          all_goals
            go_roundg (gk - 1)
            case measure => have := unhide hj; omega
            case rel =>
              rw [← unhide hnx]
              have h1 := (unhide hG2).2.set (i + 16) (by rw [(unhide hxs).1]; omega) (nx a b1 c d)
              rw [Nat.zero_add] at h1
              exact ⟨i + 1, xs.set (i + 16) (nx a b1 c d), by have := unhide hj; unfold Hid; omega, by omega, by go_num, ⟨by rw [List.length_set]; exact (unhide hxs).1, by rw [show i + 1 + 16 = i + 16 + 1 by omega, unhide hsp]; exact take_set2 xs (i + 16) (by rw [(unhide hxs).1]; omega) _ _ (unhide hxs).2⟩,
                ⟨((unhide hG2).1.other _ _ (.inl (by simp))).drew, h1.drew⟩, ((unhide hW2).setCell (p := ⟨w.heap.size + 1 + 1, i + 16, none⟩) (by simp; omega) _).drew⟩
        · obtain rfl : i = 48 := by omega
          have e : xs = sp b 64 := by
            have := (unhide hxs).2
            rwa [List.take_of_length_le (by rw [(unhide hxs).1]; omega)] at this
          have HE := hide e
          have HL := hide (unhide hxs).1
          clear e hxs
          go_wp2_with (first | (refine wpList_load_ar rfl 185 _ rfl (w.heap.size + 1 + 1) 0 rfl .u32 xs _ 64 (unhide hG).2 (unhide HL) Tryz.underlying185 rfl Tryz.info185 ?_) | (refine wpList_store_ar rfl 185 _ _ rfl (w.heap.size + 1) 0 rfl .u32 xs 64 rfl (unhide HL) (by have := (unhide hG).1.2; rwa [z64_len] at this) Tryz.info185 ?_))
          have hs := Seg.stored (k := .u32) xs (by have := (unhide hG).1.2; rw [unhide HL]; rwa [z64_len] at this)
          refine bodyPost_ret (v := .agg (Ar .u32 xs)) ?_ rfl ⟨by rw [unhide HE], ?_⟩
          · rw [results_cell_one rfl]
            have hld := run_loadVar_ar (P := Tryz.prog) _ (w.heap.size + 1) 0 185 .u32 xs _ 64 hs (unhide HL) Tryz.underlying185 rfl Tryz.info185
            exact hld
          · have F := Fr.setCells (S := fun _ => False) (a := w) (w.heap.size + 1) (.inl (by omega)) (xs.map (Value.int .u32)) 0 (Fr.of_below (unhide hW))
            exact F.below (Nat.le_refl _) (by simp)


def ktab : List Int := [1116352408, 1899447441, 3049323471, 3921009573, 961987163, 1508970993, 2453635748, 2870763221, 3624381080, 310598401, 607225278, 1426881987, 1925078388, 2162078206, 2614888103, 3248222580, 3835390401, 4022224774, 264347078, 604807628, 770255983, 1249150122, 1555081692, 1996064986, 2554220882, 2821834349, 2952996808, 3210313671, 3336571891, 3584528711, 113926993, 338241895, 666307205, 773529912, 1294757372, 1396182291, 1695183700, 1986661051, 2177026350, 2456956037, 2730485921, 2820302411, 3259730800, 3345764771, 3516065817, 3600352804, 4094571909, 275423344, 430227734, 506948616, 659060556, 883997877, 958139571, 1322822218, 1537002063, 1747873779, 1955562222, 2024104815, 2227730452, 2361852424, 2428436474, 2756734187, 3204031479, 3329325298]
theorem ktab_len : ktab.length = 64 := rfl
/-- The table lies where the package lays it. -/
def KT (w : World) : Prop := w.rangeAt 1 0 (ktab.map (Value.int .u32)) ∧ 1 < w.heap.size
theorem KT.below {w w' : World} (h : KT w) {B : Nat} (hB : 1 < B) (f : Below B w w') : KT w' :=
  ⟨fun j v hv => (World.cell?_of_block (w := w) (f.block 1 hB)).trans (h.1 j v hv), Nat.lt_of_lt_of_le h.2 f.size⟩
theorem KT.alloc {w : World} (h : KT w) (ob : Obj) : KT (w.alloc ob) := ⟨World.rangeAt_alloc h.1 ob, by have := h.2; simp; omega⟩

/-- Eight words. -/
structure W8 where
  a : Int
  b : Int
  c : Int
  d : Int
  e : Int
  f : Int
  g : Int
  h : Int
def t1F (s : W8) (k w : Int) : Int := (s.h + bits .xor .u32 (bits .xor .u32 (rot s.e 6) (rot s.e 11)) (rot s.e 25) + bits .xor .u32 (bits .and .u32 s.e s.f) (bits .and .u32 (bits .xor .u32 (if IntKind.u32.signed = true then -1 else IntKind.u32.max) s.e) s.g) + k + w) % 4294967296
def t2F (s : W8) : Int := (bits .xor .u32 (bits .xor .u32 (rot s.a 2) (rot s.a 13)) (rot s.a 22) + bits .xor .u32 (bits .xor .u32 (bits .and .u32 s.a s.b) (bits .and .u32 s.a s.c)) (bits .and .u32 s.b s.c)) % 4294967296
/-- One round. -/
def roundF (s : W8) (k w : Int) : W8 := ⟨(t1F s k w + t2F s) % 4294967296, s.a, s.b, s.c, (s.d + t1F s k w) % 4294967296, s.e, s.f, s.g⟩
def st (ws : List Int) (s : W8) : Nat → W8
  | 0 => s
  | n + 1 => roundF (st ws s n) (ktab.getD n 0) (ws.getD n 0)
def w8 (v : List Int) : W8 := ⟨v.getD 0 0, v.getD 1 0, v.getD 2 0, v.getD 3 0, v.getD 4 0, v.getD 5 0, v.getD 6 0, v.getD 7 0⟩
def sumF (v : List Int) (s : W8) : List Int := [(v.getD 0 0 + s.a) % 4294967296, (v.getD 1 0 + s.b) % 4294967296, (v.getD 2 0 + s.c) % 4294967296, (v.getD 3 0 + s.d) % 4294967296, (v.getD 4 0 + s.e) % 4294967296, (v.getD 5 0 + s.f) % 4294967296, (v.getD 6 0 + s.g) % 4294967296, (v.getD 7 0 + s.h) % 4294967296]
/-- The words behind one more block. -/
def behF (v blk : List Int) : List Int := sumF v (st (sp blk 64) (w8 v) 64)

theorem Tryz.info157 : (Tryz.prog.info? 157).map (·.size) = some 8 := by kernel_rfl
def z8 : List Int := List.replicate 8 0
theorem z8_len : z8.length = 8 := rfl
theorem Tryz.zero46 : (Tryz.prog.info? 157).map (fun i => (i.zero, i.size)) = some (some (.agg (Ar .u32 z8)), 8) := by kernel_rfl

/-- What the rounds keep. -/
def BW (w0 : World) (p0 p4 p5 : Nat) (v ws : List Int) (w : World) : Prop := Seg w p0 0 .u32 v ∧ w.there p4 0 8 ∧ Seg w p5 0 .u32 ws ∧ Below w0.heap.size w0 w
theorem BW.drewN {w0 w : World} {p0 p4 p5 : Nat} {v ws : List Int} (h : BW w0 p0 p4 p5 v ws w) (n : Nat) : BW w0 p0 p4 p5 v ws (w.drewN n) :=
  ⟨h.1.keepB (by rw [drewN_heap]), fun j hj => ⟨by rw [World.cell?_of_block (w := w) (by rw [drewN_heap])]; exact (h.2.1 j hj).1, (World.frozen?_of_block (w := w) (by rw [drewN_heap])).trans (h.2.1 j hj).2⟩, h.2.2.1.keepB (by rw [drewN_heap]), below_drewN h.2.2.2 n⟩

set_option maxHeartbeats 3200000 in
set_option maxRecDepth 100000 in
theorem behind_any (v blk : List Int) (hv : v.length = 8) (hb : blk.length = 64) (hB : BOk blk) (w : World) (hK : KT w) :
    Calls Tryz.prog 94 #[.agg (Ar .u32 v), .agg (Ar .u8 blk)] w fun e w' => e = .returned (.agg (Ar .u32 (behF v blk))) ∧ Below w.heap.size w w' := by
  have hz46 := hide Tryz.zero46
  have hz63 := hide Tryz.zero63
  have HV := hide hv
  have HL := hide hb
  have hC := hide (spread_any blk hb hB)
  have HK := hide hK
  have H0 : Hid (Seg (((w.alloc (.cells (Ar .u32 v) 157)).alloc (.cells (Ar .u8 blk) 160)).alloc (.cells (Ar .u32 z8) 157)) w.heap.size 0 .u32 v) := ((Seg.fresh w 157 .u32 v).alloc _).alloc _
  have H1 : Hid (Seg (((w.alloc (.cells (Ar .u32 v) 157)).alloc (.cells (Ar .u8 blk) 160)).alloc (.cells (Ar .u32 z8) 157)) (w.heap.size + 1) 0 .u8 blk) := by
    have := (Seg.fresh (w.alloc (.cells (Ar .u32 v) 157)) 160 .u8 blk).alloc (.cells (Ar .u32 z8) 157)
    simpa [Hid] using this
  have H2 : Hid (Seg (((w.alloc (.cells (Ar .u32 v) 157)).alloc (.cells (Ar .u8 blk) 160)).alloc (.cells (Ar .u32 z8) 157)) (w.heap.size + 1 + 1) 0 .u32 z8) := by
    have := Seg.fresh ((w.alloc (.cells (Ar .u32 v) 157)).alloc (.cells (Ar .u8 blk) 160)) 157 .u32 z8
    simpa [Hid] using this
  have HW : Hid (Below w.heap.size w (((w.alloc (.cells (Ar .u32 v) 157)).alloc (.cells (Ar .u8 blk) 160)).alloc (.cells (Ar .u32 z8) 157))) := (((Below.refl _ _).alloc (Nat.le_refl _) _).alloc (by simp) _).alloc (by simp; omega) _
  clear hv hb hB hK
  go_enter Tryz.func94, Tryz.ntmps94
  go_wp2_with (first | (refine wpList_alloc_ar rfl 157 rfl (Ar .u32 z8) 8 (unhide hz46) ?_) | (refine wpList_load_ar rfl 160 _ rfl (w.heap.size + 1) 0 rfl .u8 blk _ 64 (unhide H1) (unhide HL) Tryz.underlying160 rfl Tryz.info160 ?_))
  refine (unhide hC _).mono ?_
  rintro e w1 ⟨rfl, hb1⟩
  obtain ⟨ws, hws⟩ : ∃ ws, Hid (sp blk 64 = ws) := ⟨_, rfl⟩
  have HWL : Hid (ws.length = 64) := by rw [Hid, ← unhide hws]; exact sp_len blk 64
  have hbf : Hid (behF v blk = sumF v (st ws (w8 v) 64)) := by rw [Hid, ← unhide hws]; rfl
  rw [unhide hws]
  have hk1 : KT w1 := ((((unhide HK).alloc _).alloc _).alloc _).below (by simp) hb1
  have hp : w.heap.size + 1 + 1 < w1.heap.size := by have := hb1.size; simp at this; omega
  have HG1 : Hid (Seg w1 w.heap.size 0 .u32 v ∧ Seg w1 (w.heap.size + 1 + 1) 0 .u32 z8 ∧ KT w1 ∧ Below w.heap.size w w1 ∧ w.heap.size + 1 + 1 < w1.heap.size) :=
    ⟨(unhide H0).keepB (hb1.block _ (by simp; omega)), (unhide H2).keepB (hb1.block _ (by simp)), hk1, (unhide HW).trans (hb1.mono (by simp; omega)), hp⟩
  have H3 := Seg.fresh w1 185 .u32 z64
  have hs3 := Seg.stored (k := .u32) (w := w1.alloc (.cells (Ar .u32 z64) 185)) (b := w1.heap.size) (o := 0) ws (by rw [unhide HWL]; exact H3.2)
  have F := Fr.setCells (S := fun _ => False) (a := w1) w1.heap.size (.inl (Nat.le_refl _)) (ws.map (Value.int .u32)) 0 ((Fr.refl _ w1).alloc (.cells (Ar .u32 z64) 185))
  have hb12 := F.below (Nat.le_refl _) (by simp)
  have hg1 := unhide HG1
  have HG2 : Hid (Seg ((w1.alloc (.cells (Ar .u32 z64) 185)).setCells w1.heap.size 0 (ws.map (Value.int .u32))) w.heap.size 0 .u32 v ∧ Seg ((w1.alloc (.cells (Ar .u32 z64) 185)).setCells w1.heap.size 0 (ws.map (Value.int .u32))) (w.heap.size + 1 + 1) 0 .u32 z8 ∧ KT ((w1.alloc (.cells (Ar .u32 z64) 185)).setCells w1.heap.size 0 (ws.map (Value.int .u32))) ∧ Below w.heap.size w ((w1.alloc (.cells (Ar .u32 z64) 185)).setCells w1.heap.size 0 (ws.map (Value.int .u32))) ∧ Seg ((w1.alloc (.cells (Ar .u32 z64) 185)).setCells w1.heap.size 0 (ws.map (Value.int .u32))) w1.heap.size 0 .u32 ws ∧ w.heap.size + 1 + 1 < w1.heap.size) :=
    ⟨hg1.1.keepB (hb12.block _ (by omega)), hg1.2.1.keepB (hb12.block _ (by omega)), hg1.2.2.1.below (by omega) hb12, hg1.2.2.2.1.trans (hb12.mono (by omega)), hs3, hp⟩
  have HTh : Hid ((w1.alloc (.cells (Ar .u32 z64) 185)).there w1.heap.size 0 64) := H3.2
  clear hb1 hk1 hp H3 hs3 F hb12 hg1 HG1 H0 H1 H2 HW hC HL hz46
  go_wp2_with (first | (refine wpList_alloc_ar rfl 185 rfl (Ar .u32 z64) 64 (unhide hz63) ?_) | (refine wpList_store_ar rfl 185 _ _ rfl w1.heap.size 0 rfl .u32 ws 64 rfl (unhide HWL) (unhide HTh) Tryz.info185 ?_))
  clear HTh hz63
  generalize (w1.alloc (.cells (Ar .u32 z64) 185)).setCells w1.heap.size 0 (ws.map (Value.int .u32)) = w2 at *
  generalize w1.heap.size = p5 at *
  have c0 := (unhide HG2).1.cell 0 (by rw [unhide HV]; omega)
  have c1 := (unhide HG2).1.cell 1 (by rw [unhide HV]; omega)
  have c2 := (unhide HG2).1.cell 2 (by rw [unhide HV]; omega)
  have c3 := (unhide HG2).1.cell 3 (by rw [unhide HV]; omega)
  have c4 := (unhide HG2).1.cell 4 (by rw [unhide HV]; omega)
  have c5 := (unhide HG2).1.cell 5 (by rw [unhide HV]; omega)
  have c6 := (unhide HG2).1.cell 6 (by rw [unhide HV]; omega)
  have c7 := (unhide HG2).1.cell 7 (by rw [unhide HV]; omega)
  simp only [Nat.zero_add] at c0 c1 c2 c3 c4 c5 c6 c7
  obtain ⟨V, hV⟩ : ∃ V, Hid (w8 v = V) := ⟨_, rfl⟩
  have hS0 : Hid (w8 v = ⟨v.getD 0 0, v.getD 1 0, v.getD 2 0, v.getD 3 0, v.getD 4 0, v.getD 5 0, v.getD 6 0, v.getD 7 0⟩) := rfl
  have hSF : Hid (∀ s : W8, sumF v s = [(v.getD 0 0 + s.a) % 4294967296, (v.getD 1 0 + s.b) % 4294967296, (v.getD 2 0 + s.c) % 4294967296, (v.getD 3 0 + s.d) % 4294967296, (v.getD 4 0 + s.e) % 4294967296, (v.getD 5 0 + s.f) % 4294967296, (v.getD 6 0 + s.g) % 4294967296, (v.getD 7 0 + s.h) % 4294967296]) := fun s => rfl
  rw [unhide hV] at hS0 hbf
  generalize v.getD 0 0 = v0 at *
  generalize v.getD 1 0 = v1 at *
  generalize v.getD 2 0 = v2 at *
  generalize v.getD 3 0 = v3 at *
  generalize v.getD 4 0 = v4 at *
  generalize v.getD 5 0 = v5 at *
  generalize v.getD 6 0 = v6 at *
  generalize v.getD 7 0 = v7 at *
  go_quiet (fail)
  obtain ⟨kt, hkt⟩ : ∃ kt, Hid (ktab = kt) := ⟨_, rfl⟩
  have HKL : Hid (kt.length = 64) := by rw [Hid, ← unhide hkt]; exact ktab_len
  have hKR : Hid ((w2.drewN nq).rangeAt 1 0 (kt.map (Value.int .u32))) := by
    rw [← unhide hkt]
    exact fun j v hv => (World.cell?_of_block (w := w2) (by rw [drewN_heap])).trans ((unhide HG2).2.2.1.1 j v hv)
  have HBW : Hid (BW w w.heap.size (w.heap.size + 1 + 1) p5 v ws (w2.drewN nq)) := BW.drewN ⟨(unhide HG2).1, (unhide HG2).2.1.2, (unhide HG2).2.2.2.2.1, (unhide HG2).2.2.2.1⟩ nq
  have hst : Hid (∀ n, st ws V (n + 1) = roundF (st ws V n) (kt.getD n 0) (ws.getD n 0)) := by rw [Hid, ← unhide hkt]; exact fun n => rfl
  clear c0 c1 c2 c3 c4 c5 c6 c7 HG2 HK
  generalize w2.drewN nq = w3 at *
  go_wp2_with (first | (refine wpList_load_mid rfl 185 _ rfl 1 0 rfl (kt.map (Value.int .u32)) _ (unhide hKR) Tryz.underlying185 rfl (by rw [List.length_map, unhide HKL]; exact Tryz.info185) ?_))
  rw [show (kt.map (Value.int .u32)).toArray = Ar .u32 kt from rfl]
  go_loopg [6, 7, 8, 9, 10, 11, 12, 13, 37] 64 (fun k a b c d e f g h s wr => ∃ (j : Nat), Hid (j + k = 64) ∧ j ≤ 64 ∧ s = .int .i64 (j : Int) ∧ a = .int .u32 (st ws V j).a ∧ b = .int .u32 (st ws V j).b ∧ c = .int .u32 (st ws V j).c ∧ d = .int .u32 (st ws V j).d ∧ e = .int .u32 (st ws V j).e ∧ f = .int .u32 (st ws V j).f ∧ g = .int .u32 (st ws V j).g ∧ h = .int .u32 (st ws V j).h ∧ Hid (BW w w.heap.size (w.heap.size + 1 + 1) p5 v ws wr))
  case atStart =>
    have e0 : st ws V 0 = V := rfl
    exact ⟨0, by unfold Hid; omega, by omega, rfl, by rw [e0, unhide hS0], by rw [e0, unhide hS0], by rw [e0, unhide hS0], by rw [e0, unhide hS0], by rw [e0, unhide hS0], by rw [e0, unhide hS0], by rw [e0, unhide hS0], by rw [e0, unhide hS0], HBW⟩
  case round =>
    obtain ⟨j, hj, hj64, rfl, rfl, rfl, rfl, rfl, rfl, rfl, rfl, rfl, hG⟩ := hrel
    by_cases hlt : j < 64
    · have hkx := fun w => run_index_ar (P := Tryz.prog) w 185 123 64 Tryz.underlying185 (Tryz.isAgg123 w) (Tryz.sizeOf123 w) .u32 .i64 kt (unhide HKL) j (by rw [unhide HKL]; exact hlt)
      have hcw := (unhide hG).2.2.1.cell j (by rw [unhide HWL]; exact hlt)
      rw [Nat.zero_add] at hcw
      have hnext := hide (unhide hst j)
      generalize hS : st ws V j = S at *
      obtain ⟨a, b, c, d, e, f, g, h⟩ := S
      generalize kt.getD j 0 = kj at *
      generalize ws.getD j 0 = wj at *
      have i1 : (0 : Int) ≤ (j : Int) := by omega
      have i2 : (j : Int) < 64 := by omega
      simp only
      clear hS
      obtain ⟨X, hX⟩ : ∃ X : Int → Int → Int, Hid (X = fun a b => bits .xor .u32 a b) := ⟨_, rfl⟩
      obtain ⟨Y, hY⟩ : ∃ Y : Int → Int → Int, Hid (Y = fun a b => bits .and .u32 a b) := ⟨_, rfl⟩
      obtain ⟨R, hR⟩ : ∃ R : Int → Int → Int, Hid (R = fun a b => rot a b) := ⟨_, rfl⟩
      obtain ⟨NM, hNM⟩ : ∃ NM : Int, Hid (NM = if IntKind.u32.signed = true then -1 else IntKind.u32.max) := ⟨_, rfl⟩
      have rx : ∀ a b, bits .xor .u32 a b = X a b := fun a b => by rw [unhide hX]
      have ry : ∀ a b, bits .and .u32 a b = Y a b := fun a b => by rw [unhide hY]
      have rr : ∀ a b, rot a b = R a b := fun a b => by rw [unhide hR]
      have rn : (if IntKind.u32.signed = true then (-1 : Int) else IntKind.u32.max) = NM := (unhide hNM).symm
      have ht1 : Hid (t1F ⟨a, b, c, d, e, f, g, h⟩ kj wj = ((h + X (X (R e 6) (R e 11)) (R e 25) + X (Y e f) (Y (X NM e) g) + kj) % 4294967296 + wj) % 4294967296) := by
        rw [Hid, Int.emod_add_emod, ← rn, ← rx, ← rx, ← rx, ← rx, ← ry, ← ry, ← rr, ← rr, ← rr]
        rfl
      have ht2 : Hid (t2F ⟨a, b, c, d, e, f, g, h⟩ = (X (X (R a 2) (R a 13)) (R a 22) + X (X (Y a b) (Y a c)) (Y b c)) % 4294967296) := by
        rw [Hid, ← rx, ← rx, ← rx, ← rx, ← ry, ← ry, ← ry, ← rr, ← rr, ← rr]
        rfl
      go_wp2
      go_quiet (first | (go_at_call 144; exact Calls.quiet_of_same (turn_any _ _ (by simp [Turns]) _)))
      generalize ((h + X (X (R e 6) (R e 11)) (R e 25) + X (Y e f) (Y (X NM e) g) + kj) % 4294967296 + wj) % 4294967296 = T1 at *
      have HB2 := hide ((unhide hG).drewN nq)
      clear hcw hG
      generalize wr.drewN nq = wq at *
      go_wp2_with fail
      refine (turn_2 _ _).mono ?_
      rintro e' w' ⟨rfl, hww⟩
      subst hww
      go_wp2_with fail
      refine (turn_13 _ _).mono ?_
      rintro e' w' ⟨rfl, hww⟩
      subst hww
      go_wp2_with fail
      refine (turn_22 _ _).mono ?_
      rintro e' w' ⟨rfl, hww⟩
      subst hww
      go_wp2
      go_roundg (gk - 1)
      case measure => have := unhide hj; omega
      case rel =>
        refine ⟨j + 1, by have := unhide hj; unfold Hid; omega, by omega, by go_num, ?_, ?_, ?_, ?_, ?_, ?_, ?_, ?_, HB2⟩
        · rw [unhide hnext]
          show Value.int .u32 _ = .int .u32 ((t1F ⟨a, b, c, d, e, f, g, h⟩ kj wj + t2F ⟨a, b, c, d, e, f, g, h⟩) % 4294967296)
          rw [unhide ht1, unhide ht2]
        · rw [unhide hnext]; rfl
        · rw [unhide hnext]; rfl
        · rw [unhide hnext]; rfl
        · rw [unhide hnext]
          show Value.int .u32 _ = .int .u32 ((d + t1F ⟨a, b, c, d, e, f, g, h⟩ kj wj) % 4294967296)
          rw [unhide ht1]
        · rw [unhide hnext]; rfl
        · rw [unhide hnext]; rfl
        · rw [unhide hnext]; rfl
    · obtain rfl : j = 64 := by omega
      generalize hS : st ws V 64 = S at *
      obtain ⟨a, b, c, d, e, f, g, h⟩ := S
      have hF : Hid (behF v blk = [(v0 + a) % 4294967296, (v1 + b) % 4294967296, (v2 + c) % 4294967296, (v3 + d) % 4294967296, (v4 + e) % 4294967296, (v5 + f) % 4294967296, (v6 + g) % 4294967296, (v7 + h) % 4294967296]) := (unhide hbf).trans (unhide hSF _)
      simp only
      have c0 := (unhide hG).1.cell 0 (by rw [unhide HV]; omega)
      have c1 := (unhide hG).1.cell 1 (by rw [unhide HV]; omega)
      have c2 := (unhide hG).1.cell 2 (by rw [unhide HV]; omega)
      have c3 := (unhide hG).1.cell 3 (by rw [unhide HV]; omega)
      have c4 := (unhide hG).1.cell 4 (by rw [unhide HV]; omega)
      have c5 := (unhide hG).1.cell 5 (by rw [unhide HV]; omega)
      have c6 := (unhide hG).1.cell 6 (by rw [unhide HV]; omega)
      have c7 := (unhide hG).1.cell 7 (by rw [unhide HV]; omega)
      have hve : Hid (v.getD 0 0 = v0 ∧ v.getD 1 0 = v1 ∧ v.getD 2 0 = v2 ∧ v.getD 3 0 = v3 ∧ v.getD 4 0 = v4 ∧ v.getD 5 0 = v5 ∧ v.getD 6 0 = v6 ∧ v.getD 7 0 = v7) := by
        have h1 := unhide hV
        rw [unhide hS0] at h1
        simpa [w8, Hid] using h1
      obtain ⟨q0, q1, q2, q3, q4, q5, q6, q7⟩ := unhide hve
      rw [Nat.zero_add, q0] at c0
      rw [Nat.zero_add, q1] at c1
      rw [Nat.zero_add, q2] at c2
      rw [Nat.zero_add, q3] at c3
      rw [Nat.zero_add, q4] at c4
      rw [Nat.zero_add, q5] at c5
      rw [Nat.zero_add, q6] at c6
      rw [Nat.zero_add, q7] at c7
      clear q0 q1 q2 q3 q4 q5 q6 q7 hS hve
      go_wp2_with (first | (refine wpList_store_ar rfl 157 _ _ rfl (w.heap.size + 1 + 1) 0 rfl .u32 [(v0 + a) % 4294967296, (v1 + b) % 4294967296, (v2 + c) % 4294967296, (v3 + d) % 4294967296, (v4 + e) % 4294967296, (v5 + f) % 4294967296, (v6 + g) % 4294967296, (v7 + h) % 4294967296] 8 rfl rfl (unhide hG).2.1 Tryz.info157 ?_))
      obtain ⟨ys, hys⟩ : ∃ ys : List Int, ys = [(v0 + a) % 4294967296, (v1 + b) % 4294967296, (v2 + c) % 4294967296, (v3 + d) % 4294967296, (v4 + e) % 4294967296, (v5 + f) % 4294967296, (v6 + g) % 4294967296, (v7 + h) % 4294967296] := ⟨_, rfl⟩
      have hyl : ys.length = 8 := by rw [hys]; rfl
      rw [← hys] at hF ⊢
      clear hys
      have hs := Seg.stored (k := .u32) ys (by rw [hyl]; exact (unhide hG).2.1)
      refine bodyPost_ret (v := .agg (Ar .u32 ys)) ?_ rfl ⟨by rw [unhide hF], ?_⟩
      · rw [results_cell_one rfl]
        have hld := run_loadVar_ar (P := Tryz.prog) _ (w.heap.size + 1 + 1) 0 157 .u32 ys _ 8 hs hyl Tryz.underlying157 rfl Tryz.info157
        exact hld
      · have F := Fr.setCells (S := fun _ => False) (a := w) (w.heap.size + 1 + 1) (.inl (by omega)) (ys.map (Value.int .u32)) 0 (Fr.of_below (unhide hG).2.2.2)
        exact F.below (Nat.le_refl _) (by simp)
end Go.Proofs.YtlogmdldjmkkjaaGreatDoor.dg
