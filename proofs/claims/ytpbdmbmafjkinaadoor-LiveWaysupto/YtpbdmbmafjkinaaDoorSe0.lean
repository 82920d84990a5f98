/-
  Sets of registers in memory: eight words of 64 bits.
-/
import Derived.Test.YtpbdmbmafjkinaaDoorLv0
import Derived.Test.YtpbdmbmafjkinaaDoorLt
namespace Go.Proofs.YtpbdmbmafjkinaaDoor
open Go.RowKit
set_option linter.unusedVariables false
set_option linter.unusedSimpArgs false
abbrev Wd := Nat → Nat
def OkW (A : Wd) : Prop := ∀ k, A k < 18446744073709551616
abbrev wdA (A : Wd) : Array Value := #[.int .u64 (A 0), .int .u64 (A 1), .int .u64 (A 2), .int .u64 (A 3), .int .u64 (A 4), .int .u64 (A 5), .int .u64 (A 6), .int .u64 (A 7)]
def stV (A : Wd) : Value := .agg (wdA A)
/-- The set that eight words stand for. -/
def sS (A : Wd) : Rset := fun r => decide (r < 512) && (A (r / 64)).testBit (r % 64)
theorem sS_sup (A : Wd) : Sup (sS A) := fun r hr => by
  have : decide (r < 512) = false := by simp; omega
  simp [sS, this]
theorem sS_zero : sS (fun _ => 0) = fun _ => false := by funext r; simp [sS]
theorem sS_congr {A B : Wd} (h : ∀ k, k < 8 → A k = B k) : sS A = sS B := by
  funext r
  unfold sS
  by_cases hr : r < 512
  · rw [h (r / 64) (by omega)]
  · simp [hr]
theorem sS_inj {A B : Wd} (hA : OkW A) (hB : OkW B) (h : sS A = sS B) : ∀ k, k < 8 → A k = B k := fun k hk => by
  refine Nat.eq_of_testBit_eq (fun i => ?_)
  by_cases hi : i < 64
  · have := congrFun h (64 * k + i)
    unfold sS at this
    have h1 : decide (64 * k + i < 512) = true := by simp; omega
    rw [h1, show (64 * k + i) / 64 = k by omega, show (64 * k + i) % 64 = i by omega] at this
    simpa using this
  · have e1 : (A k).testBit i = false := Nat.testBit_lt_two_pow (Nat.lt_of_lt_of_le (hA k) (by
      have : 2 ^ 64 ≤ 2 ^ i := Nat.pow_le_pow_right (by omega) (by omega)
      omega))
    have e2 : (B k).testBit i = false := Nat.testBit_lt_two_pow (Nat.lt_of_lt_of_le (hB k) (by
      have : 2 ^ 64 ≤ 2 ^ i := Nat.pow_le_pow_right (by omega) (by omega)
      omega))
    rw [e1, e2]
/-- One register's bit is put in, or taken out. -/
def putW (A : Wd) (k : Nat) (x : Nat) : Wd := fun j => if j = k then x else A j
theorem OkW.put {A : Wd} (h : OkW A) (k : Nat) {x : Nat} (hx : x < 18446744073709551616) : OkW (putW A k x) := fun j => by
  unfold putW; split
  · exact hx
  · exact h j
theorem wrapN {n : Nat} (h : n < 18446744073709551616) : IntKind.u64.wrap (n : Int) = (n : Int) := by
  unfold IntKind.wrap
  simp [IntKind.bits, IntKind.signed]
  omega
theorem bitsOr {a b : Nat} (ha : a < 18446744073709551616) (hb : b < 18446744073709551616) : bits .or .u64 (a : Int) (b : Int) = ((a ||| b : Nat) : Int) := by
  have h3 : a ||| b < 18446744073709551616 := Nat.or_lt_two_pow (n := 64) ha hb
  unfold bits
  have e1 : (BitVec.ofInt IntKind.u64.bits (a : Int)) = BitVec.ofNat 64 a := by simp [IntKind.bits]
  have e2 : (BitVec.ofInt IntKind.u64.bits (b : Int)) = BitVec.ofNat 64 b := by simp [IntKind.bits]
  simp only [e1, e2]
  have e3 : (BitVec.ofNat 64 a ||| BitVec.ofNat 64 b).toNat = a ||| b := by
    rw [BitVec.toNat_or, BitVec.toNat_ofNat, BitVec.toNat_ofNat, Nat.mod_eq_of_lt ha, Nat.mod_eq_of_lt hb]
  rw [← wrapN h3]
  exact congrArg (fun n : Nat => IntKind.u64.wrap (n : Int)) e3
theorem bitsAnd {a b : Nat} (ha : a < 18446744073709551616) (hb : b < 18446744073709551616) : bits .and .u64 (a : Int) (b : Int) = ((a &&& b : Nat) : Int) := by
  have h3 : a &&& b < 18446744073709551616 := Nat.lt_of_le_of_lt Nat.and_le_left ha
  unfold bits
  have e1 : (BitVec.ofInt IntKind.u64.bits (a : Int)) = BitVec.ofNat 64 a := by simp [IntKind.bits]
  have e2 : (BitVec.ofInt IntKind.u64.bits (b : Int)) = BitVec.ofNat 64 b := by simp [IntKind.bits]
  simp only [e1, e2]
  have e3 : (BitVec.ofNat 64 a &&& BitVec.ofNat 64 b).toNat = a &&& b := by
    rw [BitVec.toNat_and, BitVec.toNat_ofNat, BitVec.toNat_ofNat, Nat.mod_eq_of_lt ha, Nat.mod_eq_of_lt hb]
  rw [← wrapN h3]
  exact congrArg (fun n : Nat => IntKind.u64.wrap (n : Int)) e3
def andNot (a b : Nat) : Nat := a &&& (18446744073709551615 ^^^ b)
theorem bitsNot {a b : Nat} (ha : a < 18446744073709551616) (hb : b < 18446744073709551616) : bits .andNot .u64 (a : Int) (b : Int) = ((andNot a b : Nat) : Int) := by
  have h3 : andNot a b < 18446744073709551616 := Nat.lt_of_le_of_lt Nat.and_le_left ha
  unfold bits
  have e1 : (BitVec.ofInt IntKind.u64.bits (a : Int)) = BitVec.ofNat 64 a := by simp [IntKind.bits]
  have e2 : (BitVec.ofInt IntKind.u64.bits (b : Int)) = BitVec.ofNat 64 b := by simp [IntKind.bits]
  simp only [e1, e2]
  have e3 : (BitVec.ofNat 64 a &&& ~~~ BitVec.ofNat 64 b).toNat = andNot a b := by
    rw [BitVec.toNat_and, BitVec.toNat_not, BitVec.toNat_ofNat, BitVec.toNat_ofNat, Nat.mod_eq_of_lt ha, Nat.mod_eq_of_lt hb]
    unfold andNot
    congr 1
    have e4 : (BitVec.ofNat 64 18446744073709551615 ^^^ BitVec.ofNat 64 b) = ~~~ BitVec.ofNat 64 b := by
      rw [show BitVec.ofNat 64 18446744073709551615 = BitVec.allOnes 64 from rfl, BitVec.allOnes_xor]
    have e5 := congrArg BitVec.toNat e4
    rw [BitVec.toNat_xor, BitVec.toNat_not, BitVec.toNat_ofNat, BitVec.toNat_ofNat, Nat.mod_eq_of_lt hb] at e5
    exact e5.symm
  rw [← wrapN h3]
  exact congrArg (fun n : Nat => IntKind.u64.wrap (n : Int)) e3
theorem one_lt {j : Nat} (hj : j < 64) : 2 ^ j < 18446744073709551616 := Nat.lt_of_lt_of_le (Nat.pow_lt_pow_right (by omega) hj) (Nat.le_refl _)
theorem shlOne {j : Nat} (hj : j < 64) : IntKind.u64.wrap (1 * 2 ^ ((j : Int).toNat)) = ((2 ^ j : Nat) : Int) := by
  have h := wrapN (one_lt hj)
  rw [← h]
  simp
theorem tb_one (j i : Nat) : (2 ^ j).testBit i = decide (j = i) := Nat.testBit_two_pow
theorem tb_not {a : Nat} (ha : a < 18446744073709551616) {j : Nat} (hj : j < 64) (i : Nat) : (andNot a (2 ^ j)).testBit i = (a.testBit i && decide (j ≠ i)) := by
  unfold andNot
  rw [Nat.testBit_and, Nat.testBit_xor, tb_one]
  by_cases hi : i < 64
  · have : Nat.testBit 18446744073709551615 i = true := by
      rw [show (18446744073709551615 : Nat) = 2 ^ 64 - 1 from rfl, Nat.testBit_two_pow_sub_one]; simpa using hi
    rw [this]
    by_cases e : j = i <;> simp [e]
  · have e1 : a.testBit i = false := Nat.testBit_lt_two_pow (Nat.lt_of_lt_of_le ha (by
      have : 2 ^ 64 ≤ 2 ^ i := Nat.pow_le_pow_right (by omega) (by omega)
      omega))
    rw [e1]; simp
theorem and_bit {a j : Nat} (hj : j < 64) : decide (((a &&& 2 ^ j : Nat) : Int) ≠ 0) = a.testBit j := by
  have h : a &&& 2 ^ j = if a.testBit j then 2 ^ j else 0 := by
    refine Nat.eq_of_testBit_eq (fun i => ?_)
    rw [Nat.testBit_and, tb_one]
    by_cases e : j = i
    · subst e; cases a.testBit j <;> simp
    · cases a.testBit j <;> simp [e]
  rw [h]
  cases a.testBit j
  · simp
  · have h0 : 0 < 2 ^ j := Nat.pow_pos (by omega)
    simp only [if_pos]
    exact decide_eq_true (by omega)
def pbit (S : Rset) (d : Nat) (b : Bool) : Rset := fun r => if r = d then b else S r
theorem sS_or {A : Wd} {d : Nat} (hd : d < 512) : sS (putW A (d / 64) (A (d / 64) ||| 2 ^ (d % 64))) = pbit (sS A) d true := by
  funext r
  unfold sS putW pbit
  by_cases hr : r < 512
  · by_cases e : r / 64 = d / 64
    · rw [if_pos e, Nat.testBit_or, tb_one]
      by_cases q : r = d
      · subst q; simp [hr]
      · have : ¬ d % 64 = r % 64 := by omega
        rw [if_neg q]
        show _ = (decide (r < 512) && (A (r / 64)).testBit (r % 64))
        rw [e]; simp [this]
    · have q : r ≠ d := fun q => e (by rw [q])
      rw [if_neg e, if_neg q]
  · have q : r ≠ d := by omega
    simp [hr, q]
theorem sS_not {A : Wd} (hA : OkW A) {d : Nat} (hd : d < 512) : sS (putW A (d / 64) (andNot (A (d / 64)) (2 ^ (d % 64)))) = pbit (sS A) d false := by
  funext r
  unfold sS putW pbit
  by_cases hr : r < 512
  · by_cases e : r / 64 = d / 64
    · rw [if_pos e, tb_not (hA _) (by omega)]
      by_cases q : r = d
      · subst q; simp
      · have : ¬ d % 64 = r % 64 := by omega
        rw [if_neg q]
        show _ = (decide (r < 512) && (A (r / 64)).testBit (r % 64))
        rw [e]; simp [this]
    · have q : r ≠ d := fun q => e (by rw [q])
      rw [if_neg e, if_neg q]
  · have q : r ≠ d := by omega
    simp [hr, q]
theorem sS_join {A B : Wd} : sS (fun k => A k ||| B k) = orS (sS A) (sS B) := by
  funext r
  show (decide (r < 512) && (A (r / 64) ||| B (r / 64)).testBit (r % 64)) = ((decide (r < 512) && (A (r / 64)).testBit (r % 64)) || (decide (r < 512) && (B (r / 64)).testBit (r % 64)))
  rw [Nat.testBit_or]
  cases decide (r < 512) <;> simp
end Go.Proofs.YtpbdmbmafjkinaaDoor
