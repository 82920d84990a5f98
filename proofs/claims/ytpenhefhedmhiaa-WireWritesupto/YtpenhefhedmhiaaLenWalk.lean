import Derived.Test.YtpenhefhedmhiaaRows
import Derived.Test.YtpenhefhedmhiaaMath
import Derived.Test.YtpenhefhedmhiaaBits
import Derived.WalkKit
import Derived.WalkSpells
import Derived.WalkLawsBesides
import Derived.Laws.BitsAllLaws
namespace Go.Proofs.Ytpenhefhedmhiaa
open Go.RowKit

/-- What holds ahead of a round of the document's UintLen: z is left, k digits are counted. -/
def LenAt (x z k : Nat) : Prop := ∃ f : Nat, f + k = 9 ∧ z < 128 * 128 ^ f ∧ k + Wm.ulen f z = Wm.ulen 9 x
theorem LenAt.start (x : Nat) (h1 : x ≤ 18446744073709551615) : LenAt x x 0 := ⟨9, rfl, by simp only [Nat.reducePow, Nat.reduceMul]; omega, by omega⟩
theorem LenAt.next {x z k : Nat} (h : LenAt x z k) (hz : 128 ≤ z) : LenAt x (z / 128) (k + 1) := by
  obtain ⟨f, h1, h2, h3⟩ := h
  cases f with
  | zero => omega
  | succ f =>
    refine ⟨f, by omega, by rw [Nat.pow_succ] at h2; omega, ?_⟩
    rw [← h3, Wm.ulen, if_neg (by omega)]; omega
theorem LenAt.done {x z k : Nat} (h : LenAt x z k) (hz : z < 128) : k + 1 = Wm.ulen 9 x := by
  obtain ⟨f, h1, h2, h3⟩ := h
  rw [← h3]
  cases f with
  | zero => rfl
  | succ f => rw [Wm.ulen, if_pos hz]
theorem LenAt.le {x z k : Nat} (h : LenAt x z k) : k ≤ 9 := by
  obtain ⟨f, h1, _⟩ := h; omega

theorem LenAt.lt {x z k : Nat} (h : LenAt x z k) : z / 128 < 2 ^ 64 := by
  obtain ⟨f, h1, h2, _⟩ := h
  have : f ≤ 9 := by omega
  have h4 : 128 ^ f ≤ 128 ^ 9 := Nat.pow_le_pow_right (by omega) this
  have h5 : (128 : Nat) ^ 9 = 2 ^ 63 := by decide
  have h6 : (2 : Nat) ^ 64 = 2 * 2 ^ 63 := by decide
  omega
theorem hide {p : Prop} (h : p) : Hid p := h
theorem unhide {p : Prop} (h : Hid p) : p := h
theorem ret_int {k : IntKind} {a b : Int} (h : a = b) : Ending.returned (.int k a) = .returned (.int k b) := by rw [h]

set_option maxRecDepth 100000 in
set_option maxHeartbeats 400000 in
/-- The document's UintLen. -/
theorem refLen_any (x : Nat) (w : World) (h1 : x ≤ 18446744073709551615) :
    Calls Try.prog 8 #[.int .u64 x] w fun e w' => e = .returned (.int .i64 (Wm.ulen 9 x)) ∧ w' = w := by
  have hs := LenAt.start x h1
  clear h1
  go_enter Try.func8, Try.ntmps8
  go_wp2
  go_loop [0, 3] (fun y n => ∃ (k z : Nat), LenAt x z k ∧ y = .int .u64 z ∧ n = .int .i64 ((k : Int) + 1)) (fun y _ => (intOf y).toNat)
  case atStart => exact ⟨0, x, hs, rfl, rfl⟩
  case round =>
    obtain ⟨k, z, hL, rfl, rfl⟩ := hrel
    have hk := hL.le
    by_cases hlt : 128 ≤ z
    · have hN := hL.next hlt
      have hZ : z / 128 < 2 ^ 64 := hL.lt
      go_wp2
      go_round
      case rel => exact ⟨k + 1, z / 128, hN, congrArg (Value.int IntKind.u64) (by omega), by go_num⟩
      case measure => simp [intOf]; omega
    · have hD := hL.done (by omega)
      have HD : Hid (k + 1 = Wm.ulen 9 x) := hD
      clear hD
      go_wp2
      go_ret
      exact ⟨ret_int (by have := HD.out; omega), rfl⟩

set_option maxRecDepth 100000 in
set_option maxHeartbeats 400000 in
/-- UintLen. -/
theorem uintLen_any (x : Nat) (w : World) (h1 : x ≤ 18446744073709551615) :
    Calls Try.prog 7 #[.int .u64 x] w fun e w' => e = .returned (.int .i64 (Wm.ulen 9 x)) ∧ w' = w := by
  have hb : bits .or .u64 (x : Int) 1 = ((x ||| 1 : Nat) : Int) := u64_or_nat x 1 (by omega) (by omega)
  have hlt : x ||| 1 < 18446744073709551616 := Wm.or1_lt x (by omega)
  have Hm := Wm.ulen_main x (by omega)
  have hle := Lib.bitLen_le (x ||| 1) 64 (by omega) hlt
  generalize x ||| 1 = y at *
  have hc := Try.bits_Len64 (y : Int) w (by omega) (by omega)
  rw [Int.toNat_natCast] at hc
  generalize Lib.bitLen y = b at *
  have HC := hide hc
  have HM : Hid ((b + 6) / 7 = Wm.ulen 9 x) := Hm
  clear Hm hc hlt h1
  go_enter Try.func7, Try.ntmps7
  go_wp2_with fail
  refine (unhide HC).mono ?_
  rintro e w' ⟨rfl, rfl⟩
  go_wp2
  go_ret
  exact ⟨ret_int (by have := HM.out; omega), rfl⟩

set_option maxRecDepth 100000 in
set_option maxHeartbeats 400000 in
/-- P1.7, of every number. -/
theorem wireLen_walk (x : Nat) (w : World) (h1 : x ≤ 18446744073709551615) :
    Calls Try.prog 3 #[.int .u64 x] w fun e w' => e = .returned (.bool true) ∧ w' = w := by
  have h7 := hide (uintLen_any x w h1)
  have h8 := hide (refLen_any x w h1)
  clear h1
  go_enter Try.func3, Try.ntmps3
  go_wp2_with fail
  refine (unhide h7).mono ?_
  rintro e w' ⟨rfl, rfl⟩
  go_wp2_with fail
  refine (unhide h8).mono ?_
  rintro e w' ⟨rfl, rfl⟩
  go_wp2
  go_ret
  exact ⟨by simp, rfl⟩
end Go.Proofs.Ytpenhefhedmhiaa
