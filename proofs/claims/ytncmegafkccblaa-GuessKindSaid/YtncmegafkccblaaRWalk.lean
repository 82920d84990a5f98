/-
  What the calls of the real numbers answer.
-/
import Derived.Test.YtncmegafkccblaaEff
import Derived.WalkKit
import Derived.WalkLawsBesides
import Derived.Below
import Derived.KernelRfl
import Derived.Laws.Externs
import Derived.Test.YtncmegafkccblaaRMath
namespace Go.Proofs.Ytncmegafkccblaa
open Go.RowKit


theorem ext_bits (x : Nat) (w : World) : (callFunc 82 #[.float .f64 x]).run Try.prog w = .ok (.value (.int .u64 x)) w := by
  rw [run_callFunc_extern (e := Extern.MathFloatBits.float64bits) Try.func82 (by kernel_rfl) (by kernel_rfl) (by kernel_rfl) (by kernel_rfl)]; rfl
theorem ext_from (x : Nat) (w : World) : (callFunc 85 #[.int .u64 (x : Int)]).run Try.prog w = .ok (.value (.float .f64 x)) w := by
  rw [run_callFunc_extern (e := Extern.MathFloatBits.float64frombits) Try.func85 (by kernel_rfl) (by kernel_rfl) (by kernel_rfl) (by kernel_rfl)]; rfl

set_option maxRecDepth 100000 in
theorem number_any (x : Nat) (w : World) : Calls Try.prog 77 #[.int .u64 (x : Int)] w fun e w' => e = .returned (.float .f64 x) ∧ w' = w := by
  have h1 := ext_from x
  go_enter Try.func77, Try.ntmps77
  go_wp2
  go_ret
  exact ⟨rfl, rfl⟩

/-- The class of a number. -/
def isN (a : Nat) : Bool := decide (9218868437227405312 < a % 9223372036854775808)
def classN (a : Nat) : Int := if isN a then 0 else if a % 9223372036854775808 = 9218868437227405312 then 1 else if a % 9223372036854775808 = 0 then 2 else if a % 9223372036854775808 < 4503599627370496 then 3 else 4

theorem and_hi (a : Nat) : a &&& 9218868437227405312 = a / 4503599627370496 % 2048 * 4503599627370496 := by
  have e1 : (9218868437227405312 : Nat) = 2047 <<< 52 := rfl
  have e2 : a / 4503599627370496 % 2048 * 4503599627370496 = (((a >>> 52) &&& (2 ^ 11 - 1)) <<< 52) := by
    rw [Nat.and_two_pow_sub_one_eq_mod, Nat.shiftLeft_eq, Nat.shiftRight_eq_div_pow]
  rw [e1, e2]
  apply Nat.eq_of_testBit_eq
  intro i
  rw [Nat.testBit_and, Nat.testBit_shiftLeft, Nat.testBit_shiftLeft, Nat.testBit_and, Nat.testBit_shiftRight]
  by_cases h : 52 ≤ i
  · rw [show 52 + (i - 52) = i from by omega]; simp [h]
  · simp [h]
theorem and_lo (a : Nat) : a &&& 4503599627370495 = a % 4503599627370496 := Nat.and_two_pow_sub_one_eq_mod a 52
theorem and_un (a : Nat) : a &&& 9223372036854775807 = a % 9223372036854775808 := Nat.and_two_pow_sub_one_eq_mod a 63
theorem and_mi (a : Nat) (h : a < 18446744073709551616) : a &&& 9223372036854775808 = if a < 9223372036854775808 then 0 else 9223372036854775808 := by
  apply Nat.eq_of_testBit_eq
  intro i
  rw [Nat.testBit_and, show (9223372036854775808 : Nat) = 2 ^ 63 from rfl, Nat.testBit_two_pow]
  by_cases hi : 63 = i
  · subst hi
    by_cases hl : a < 2 ^ 63
    · rw [if_pos hl, Nat.testBit_lt_two_pow hl]; simp
    · rw [if_neg hl, Nat.testBit_two_pow]
      have : a.testBit 63 = true := by
        rw [Nat.testBit_eq_decide_div_mod_eq]
        have : a / 2 ^ 63 = 1 := by omega
        rw [this]; rfl
      rw [this]; simp
  · split
    · simp [hi]
    · rw [Nat.testBit_two_pow]; simp [hi]
theorem xor_mi (a : Nat) (h : a < 18446744073709551616) : a ^^^ 9223372036854775808 = if a < 9223372036854775808 then a + 9223372036854775808 else a - 9223372036854775808 := by
  apply Nat.eq_of_testBit_eq
  intro i
  rw [Nat.testBit_xor, show (9223372036854775808 : Nat) = 2 ^ 63 from rfl, Nat.testBit_two_pow]
  split
  · rename_i hl
    by_cases hi : 63 = i
    · subst hi
      rw [Nat.testBit_lt_two_pow hl, Nat.add_comm, Nat.testBit_two_pow_add_eq, Nat.testBit_lt_two_pow hl]; simp
    · rcases Nat.lt_or_ge i 63 with h' | h'
      · rw [Nat.add_comm, Nat.testBit_two_pow_add_gt h']; simp [hi]
      · have h1 : a < 2 ^ i := Nat.lt_of_lt_of_le hl (Nat.pow_le_pow_right (by decide) h')
        have h2 : a + 2 ^ 63 < 2 ^ i := by
          have : (2 : Nat) ^ 64 ≤ 2 ^ i := Nat.pow_le_pow_right (by decide) (by omega)
          omega
        rw [Nat.testBit_lt_two_pow h1, Nat.testBit_lt_two_pow h2]; simp [hi]
  · rename_i hl
    obtain ⟨b, rfl⟩ : ∃ b, a = 2 ^ 63 + b := ⟨a - 2 ^ 63, by omega⟩
    have hb : b < 2 ^ 63 := by omega
    rw [Nat.add_sub_cancel_left]
    by_cases hi : 63 = i
    · subst hi
      rw [Nat.testBit_two_pow_add_eq, Nat.testBit_lt_two_pow hb]; simp
    · rcases Nat.lt_or_ge i 63 with h' | h'
      · rw [Nat.testBit_two_pow_add_gt h']; simp [hi]
      · have h1 : b < 2 ^ i := Nat.lt_of_lt_of_le hb (Nat.pow_le_pow_right (by decide) h')
        have h2 : 2 ^ 63 + b < 2 ^ i := by
          have : (2 : Nat) ^ 64 ≤ 2 ^ i := Nat.pow_le_pow_right (by decide) (by omega)
          omega
        rw [Nat.testBit_lt_two_pow h1, Nat.testBit_lt_two_pow h2]; simp [hi]

theorem band_hi (a : Nat) (h : a < 18446744073709551616) : bits .and .u64 (a : Int) 9218868437227405312 = ((a / 4503599627370496 % 2048 * 4503599627370496 : Nat) : Int) := by
  have := and_hi a
  go_bits2
theorem band_lo (a : Nat) (h : a < 18446744073709551616) : bits .and .u64 (a : Int) 4503599627370495 = ((a % 4503599627370496 : Nat) : Int) := by
  go_bits2
theorem band_un (a : Nat) (h : a < 18446744073709551616) : bits .and .u64 (a : Int) 9223372036854775807 = ((a % 9223372036854775808 : Nat) : Int) := by
  go_bits2
theorem band_mi (a : Nat) (h : a < 18446744073709551616) : bits .and .u64 (a : Int) 9223372036854775808 = ((if a < 9223372036854775808 then 0 else 9223372036854775808 : Nat) : Int) := by
  have := and_mi a h
  go_bits2
  split <;> omega
theorem bxor_mi (a : Nat) (h : a < 18446744073709551616) : bits .xor .u64 (a : Int) 9223372036854775808 = ((if a < 9223372036854775808 then a + 9223372036854775808 else a - 9223372036854775808 : Nat) : Int) := by
  have := xor_mi a h
  go_bits2

set_option maxRecDepth 100000 in
theorem class_any (a : Nat) (h : a < 18446744073709551616) (w : World) : Calls Try.prog 81 #[.int .u64 (a : Int)] w fun e w' => e = .returned (.int .i64 (classN a)) ∧ w' = w := by
  have b1 := band_hi a h
  have b2 := band_lo a h
  have hE : a / 4503599627370496 % 2048 * 4503599627370496 + a % 4503599627370496 = a % 9223372036854775808 := by omega
  have hE2 : a / 4503599627370496 % 2048 < 2048 := Nat.mod_lt _ (by decide)
  have hF : a % 4503599627370496 < 4503599627370496 := Nat.mod_lt _ (by decide)
  have hC : classN a = if isN a then 0 else if a % 9223372036854775808 = 9218868437227405312 then 1 else if a % 9223372036854775808 = 0 then 2 else if a % 9223372036854775808 < 4503599627370496 then 3 else 4 := rfl
  rw [isN] at hC
  obtain ⟨q, hq⟩ : ∃ q, a / 4503599627370496 % 2048 = q := ⟨_, rfl⟩
  rw [hq] at b1 hE hE2
  obtain ⟨F, hF'⟩ : ∃ F, a % 4503599627370496 = F := ⟨_, rfl⟩
  rw [hF'] at b2 hE hF
  obtain ⟨G, hG⟩ : ∃ G, a % 9223372036854775808 = G := ⟨_, rfl⟩
  rw [hG] at hE hC
  generalize classN a = C at *
  clear hq hF' hG
  obtain ⟨E, hE'⟩ : ∃ E, q * 4503599627370496 = E := ⟨_, rfl⟩
  rw [hE'] at b1 hE
  by_cases h1 : E = 9218868437227405312
  · by_cases h2 : F = 0
    · obtain rfl : C = 1 := by rw [hC, if_neg (by simp; omega), if_pos (by omega)]
      subst h1 h2
      clear hC hE hE2 hF hE' h
      go_enter Try.func81, Try.ntmps81
      go_wp2
      go_ret
      exact ⟨rfl, rfl⟩
    · obtain rfl : C = 0 := by rw [hC, if_pos (by simp; omega)]
      have c2 : ((F : Int) != 0) = true := by rw [bne_iff_ne]; omega
      subst h1
      clear hC hE hE2 hF hE' h
      go_enter Try.func81, Try.ntmps81
      go_wp2
      go_ret
      exact ⟨rfl, rfl⟩
  · have c1 : ((E : Int) == 9218868437227405312) = false := by rw [beq_eq_false_iff_ne]; omega
    by_cases h2 : E = 0
    · by_cases h3 : F = 0
      · obtain rfl : C = 2 := by rw [hC, if_neg (by simp; omega), if_neg (by omega), if_pos (by omega)]
        subst h2 h3
        clear hC hE hE2 hF hE' h
        go_enter Try.func81, Try.ntmps81
        go_wp2
        go_ret
        exact ⟨rfl, rfl⟩
      · obtain rfl : C = 3 := by rw [hC, if_neg (by simp; omega), if_neg (by omega), if_neg (by omega), if_pos (by omega)]
        have c2 : ((F : Int) == 0) = false := by rw [beq_eq_false_iff_ne]; omega
        subst h2
        clear hC hE hE2 hF hE' h
        go_enter Try.func81, Try.ntmps81
        go_wp2
        go_ret
        exact ⟨rfl, rfl⟩
    · obtain rfl : C = 4 := by rw [hC, if_neg (by simp; omega), if_neg (by omega), if_neg (by omega), if_neg (by omega)]
      have c2 : ((E : Int) == 0) = false := by rw [beq_eq_false_iff_ne]; omega
      clear hC hE hE2 hF hE' h
      go_enter Try.func81, Try.ntmps81
      go_wp2
      go_ret
      exact ⟨rfl, rfl⟩

theorem classN_zero (a : Nat) : (classN a == 0) = isN a := by
  unfold classN
  cases isN a
  · simp only [Bool.false_eq_true, if_false, beq_eq_false_iff_ne]
    split
    · decide
    · split
      · decide
      · split <;> decide
  · rfl

def canonN (a : Nat) : Nat := if isN a then 9221120237041090560 else a

set_option maxRecDepth 100000 in
theorem canon_any (a : Nat) (h : a < 18446744073709551616) (w : World) : Calls Try.prog 73 #[.int .u64 (a : Int)] w fun e w' => e = .returned (.int .u64 (canonN a : Nat)) ∧ w' = w := by
  have hC := hide (class_any a h)
  have hz := classN_zero a
  have hK : canonN a = if isN a then 9221120237041090560 else a := rfl
  generalize isN a = b at *
  generalize canonN a = K at *
  generalize classN a = c at *
  cases b
  · simp at hK
    subst hK
    go_enter Try.func73, Try.ntmps73
    go_wp2_with fail
    refine (unhide hC _).mono ?_
    rintro e w1 ⟨rfl, rfl⟩
    clear hC
    go_wp2
    go_ret
    exact ⟨rfl, rfl⟩
  · simp at hK
    subst hK
    go_enter Try.func73, Try.ntmps73
    go_wp2_with fail
    refine (unhide hC _).mono ?_
    rintro e w1 ⟨rfl, rfl⟩
    clear hC
    go_wp2
    go_ret
    exact ⟨rfl, rfl⟩

set_option maxRecDepth 100000 in
theorem bits_any (a : Nat) (h : a < 18446744073709551616) (w : World) : Calls Try.prog 75 #[.float .f64 a] w fun e w' => e = .returned (.int .u64 (canonN a : Nat)) ∧ w' = w := by
  have h1 := ext_bits a
  have hC := hide (canon_any a h)
  go_enter Try.func75, Try.ntmps75
  go_wp2_with fail
  refine (unhide hC _).mono ?_
  rintro e w1 ⟨rfl, rfl⟩
  clear hC
  go_wp2
  go_ret
  exact ⟨rfl, rfl⟩

def negN (a : Nat) : Nat := canonN (if a < 9223372036854775808 then a + 9223372036854775808 else a - 9223372036854775808)
theorem neg_lt (a : Nat) (h : a < 18446744073709551616) : (if a < 9223372036854775808 then a + 9223372036854775808 else a - 9223372036854775808) < 18446744073709551616 := by split <;> omega

set_option maxRecDepth 100000 in
theorem neg_any (a : Nat) (h : a < 18446744073709551616) (w : World) : Calls Try.prog 60 #[.int .u64 (a : Int)] w fun e w' => e = .returned (.int .u64 (negN a : Nat)) ∧ w' = w := by
  have b1 := bxor_mi a h
  have hC := hide (canon_any _ (neg_lt a h))
  have hN : negN a = canonN (if a < 9223372036854775808 then a + 9223372036854775808 else a - 9223372036854775808) := rfl
  generalize (if a < 9223372036854775808 then a + 9223372036854775808 else a - 9223372036854775808) = K at *
  generalize negN a = N at *
  subst hN
  go_enter Try.func60, Try.ntmps60
  go_wp2_with fail
  refine (unhide hC _).mono ?_
  rintro e w1 ⟨rfl, rfl⟩
  clear hC
  go_wp2
  go_ret
  exact ⟨rfl, rfl⟩
end Go.Proofs.Ytncmegafkccblaa
