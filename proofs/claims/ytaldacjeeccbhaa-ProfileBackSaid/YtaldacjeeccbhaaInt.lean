/-
  Numbers with a sign.
-/
import Derived.Test.YtaldacjeeccbhaaDone
namespace Go.Proofs.Ytaldacjeeccbhaa
open Go.RowKit

/-- The number that stands for one with a sign. -/
def foldI (n : Int) : Int := if 0 ≤ n then 2 * n else -2 * n - 1

theorem nat_xor_ones (a : Nat) (h : a < 2 ^ 64) : a ^^^ (2 ^ 64 - 1) = 2 ^ 64 - 1 - a := by
  have e := congrArg BitVec.toNat (BitVec.xor_allOnes (x := BitVec.ofNat 64 a))
  rw [BitVec.toNat_xor, BitVec.toNat_not, BitVec.toNat_allOnes, BitVec.toNat_ofNat, Nat.mod_eq_of_lt h] at e
  exact e
theorem xor_zero64 (a : Int) (h0 : 0 ≤ a) (h1 : a < 18446744073709551616) : bits .xor .u64 a 0 = a := by
  rw [u64_xor a 0 h0 h1 (by omega) (by omega)]
  simp only [Int.toNat_zero, Nat.xor_zero]; omega
theorem xor_ones64 (a : Int) (h0 : 0 ≤ a) (h1 : a < 18446744073709551616) : bits .xor .u64 a 18446744073709551615 = 18446744073709551615 - a := by
  rw [u64_xor a 18446744073709551615 h0 h1 (by omega) (by omega)]
  have e := nat_xor_ones a.toNat (by omega)
  rw [show (18446744073709551615 : Int).toNat = 2 ^ 64 - 1 from rfl, e]
  omega
theorem fold_pos (n : Int) (hn : 0 ≤ n) (h1 : n ≤ 9223372036854775807) : bits BinOp.xor IntKind.u64 (n * 2) (n / 9223372036854775808) = foldI n := by
  rw [show n / 9223372036854775808 = 0 from by omega, xor_zero64 _ (by omega) (by omega), foldI, if_pos hn]; omega
theorem fold_neg (n : Int) (hn : n < 0) (h0 : -9223372036854775808 ≤ n) : bits BinOp.xor IntKind.u64 (IntKind.u64.wrap (IntKind.u64.wrap n * 2)) (IntKind.u64.wrap (n / 9223372036854775808)) = foldI n := by
  simp only [IntKind.wrap_u64]
  rw [show n / 9223372036854775808 % 18446744073709551616 = 18446744073709551615 from by omega, xor_ones64 _ (by omega) (by omega), foldI, if_neg (by omega)]; omega
theorem foldI_bd (n : Int) (h0 : -9223372036854775808 ≤ n) (h1 : n ≤ 9223372036854775807) : 0 ≤ foldI n ∧ foldI n < 18446744073709551616 := by
  unfold foldI; split <;> omega

set_option maxRecDepth 100000 in
set_option maxHeartbeats 400000 in
theorem fold_any (n : Int) (w : World) (h0 : -9223372036854775808 ≤ n) (h1 : n ≤ 9223372036854775807) :
    Calls Try.prog 83 #[.int .i64 n] w fun e w' => e = .returned (.int .u64 (foldI n)) ∧ w' = w := by
  by_cases hn : 0 ≤ n
  · have e := hide (fold_pos n hn h1)
    go_enter Try.func83, Try.ntmps83
    go_wp2
    go_ret
    exact ⟨ret_int (unhide e), rfl⟩
  · have e := hide (fold_neg n (by omega) h0)
    go_enter Try.func83, Try.ntmps83
    go_wp2
    go_ret
    exact ⟨ret_int (unhide e), rfl⟩

set_option maxRecDepth 100000 in
set_option maxHeartbeats 400000 in
theorem int_any (p : Nat) (v : Value) (bs : List Int) (n : Int) (w : World) (h : Wtr w p v bs) (hb : bs.length + 10 ≤ 140737488355328) (h0 : -9223372036854775808 ≤ n) (h1 : n ≤ 9223372036854775807) :
    Calls Try.prog 59 #[.pointer (some ⟨p, 0, none⟩), .int .i64 n] w fun e w' => e = .returned (.tuple #[]) ∧ ∃ v', Wtr w' p v' (bs ++ Wm.uform 9 (foldI n).toNat) ∧ WStep p w v w' v' := by
  have hbd := foldI_bd n h0 h1
  have hF := fold_any n w h0 h1
  obtain ⟨y, hy⟩ : ∃ y : Nat, foldI n = y := ⟨(foldI n).toNat, by omega⟩
  rw [hy] at hbd hF ⊢
  have HF := hide hF
  have HU := hide (uint_any p v bs y w h hb (by omega))
  rw [Int.toNat_natCast]
  clear hy hbd h hF h0 h1
  go_enter Try.func59, Try.ntmps59
  go_wp2_with fail
  refine (unhide HF).mono ?_
  rintro e w' ⟨rfl, rfl⟩
  go_wp2_with fail
  refine (unhide HU).mono ?_
  rintro e w' ⟨rfl, hh⟩
  go_wp2
  go_end0
  exact ⟨rfl, hh⟩
end Go.Proofs.Ytaldacjeeccbhaa
