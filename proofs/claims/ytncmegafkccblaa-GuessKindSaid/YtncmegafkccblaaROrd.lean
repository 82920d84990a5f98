/-
  What finite numbers are, and their order.
-/
import Derived.Test.YtncmegafkccblaaROps
namespace Go.Proofs.Ytncmegafkccblaa
open Go.RowKit Ieee

def mg (r : Nat) : Nat := if r < 4503599627370496 then r else 4503599627370496 + r % 4503599627370496
def kx (r : Nat) : Nat := if r < 4503599627370496 then 0 else r / 4503599627370496 - 1
theorem up_eq (r : Nat) : up r = mg r * 2 ^ kx r := by
  unfold up mg kx
  by_cases h : r < 4503599627370496
  · rw [if_pos h, if_pos h, if_pos h]; simp
  · rw [if_neg h, if_neg h, if_neg h]
theorem read_fin (a : Nat) (h : rg a < 9218868437227405312) : double.read a = .number (sg a) (mg (rg a)) (-1074 + (kx (rg a) : Nat)) := by
  rw [read_eq]; unfold mg kx
  by_cases h1 : rg a < 4503599627370496
  · rw [if_pos h1, if_pos h1, if_pos h1]; rfl
  · rw [if_neg h1, if_neg h1, if_neg h1, if_pos h]
theorem read_inf (a : Nat) (h : rg a = 9218868437227405312) : double.read a = .infinity (sg a) := by
  rw [read_eq, if_neg (by omega), if_neg (by omega), if_pos h]
theorem read_N (a : Nat) (h : isN a = true) : double.read a = .nan (sg a) (rg a - 9218868437227405312) := by
  have h' := of_decide_eq_true h
  have h2 : 9218868437227405312 < rg a := h'
  rw [read_eq, if_neg (by omega), if_neg (by omega), if_neg (by omega)]
theorem notN_le {a : Nat} (h : isN a = false) : rg a ≤ 9218868437227405312 := by
  have h' := of_decide_eq_false h
  have h2 : ¬ 9218868437227405312 < rg a := h'
  omega
theorem sg_true {a : Nat} (h : a < 18446744073709551616) (h2 : 9223372036854775808 ≤ a) : sg a = true := by
  unfold sg; rw [beq_iff_eq]; omega
theorem sg_false {a : Nat} (h2 : a < 9223372036854775808) : sg a = false := by
  unfold sg; rw [beq_eq_false_iff_ne]; omega
theorem word_sg_rg {a : Nat} (h : a < 18446744073709551616) : double.word (sg a) (rg a) = a := by
  unfold Format.word rg
  rw [dbl_sw]
  rcases Nat.lt_or_ge a 9223372036854775808 with h' | h'
  · rw [sg_false h']; simp; omega
  · rw [sg_true h h']; simp; omega

/-- What a finite number is, in units of the least place. -/
def S (a : Nat) : Int := if sg a then -(up (rg a) : Int) else (up (rg a) : Int)
theorem signed_eq (s : Bool) (m k : Nat) : signed s m k = if s then -((m * 2 ^ k : Nat) : Int) else ((m * 2 ^ k : Nat) : Int) := by
  unfold signed; rw [Nat.shiftLeft_eq]
theorem signed_scale (s : Bool) (m k c : Nat) (h : c ≤ k) : signed s m (k - c) * 2 ^ c = if s then -((m * 2 ^ k : Nat) : Int) else ((m * 2 ^ k : Nat) : Int) := by
  rw [signed_eq]
  have : m * 2 ^ k = m * 2 ^ (k - c) * 2 ^ c := by rw [Nat.mul_assoc, ← Nat.pow_add, Nat.sub_add_cancel h]
  rw [this, Int.natCast_mul (m * 2 ^ (k - c)) (2 ^ c)]
  cases s <;> simp [Int.neg_mul]
theorem S_signed (a c : Nat) (h : c ≤ kx (rg a)) : signed (sg a) (mg (rg a)) (kx (rg a) - c) * 2 ^ c = S a := by
  rw [signed_scale _ _ _ _ h, S, up_eq]
theorem cmp_congr {X Y X' Y' : Int} (h1 : X < Y ↔ X' < Y') (h2 : X = Y ↔ X' = Y') : compare X Y = compare X' Y' := by
  show compareOfLessAndEq X Y = compareOfLessAndEq X' Y'
  unfold compareOfLessAndEq
  simp only [h1, h2]
theorem pow2_pos (c : Nat) : (0 : Int) < 2 ^ c := Int.pow_pos (by decide)
theorem cmp_scale (X Y : Int) (c : Nat) : compare X Y = compare (X * 2 ^ c) (Y * 2 ^ c) :=
  cmp_congr (Int.mul_lt_mul_right (pow2_pos c)).symm ⟨fun h => by rw [h], fun h => Int.eq_of_mul_eq_mul_right (by have := pow2_pos c; omega) h⟩
theorem key_S (a : Nat) (h : a < 18446744073709551616) : keyN a = if sg a then -(rg a : Int) else (rg a : Int) := by
  unfold keyN
  rcases Nat.lt_or_ge a 9223372036854775808 with h' | h'
  · rw [sg_false h', if_pos h']; rfl
  · rw [sg_true h h', if_neg (by omega)]; rfl
theorem cmp_up (s t : Bool) (x y : Nat) : compare (if s then -(up x : Int) else (up x : Int)) (if t then -(up y : Int) else (up y : Int)) = compare (if s then -(x : Int) else (x : Int)) (if t then -(y : Int) else (y : Int)) := by
  have h0 : ∀ z, up z = 0 ↔ z = 0 := fun z => ⟨fun h => up_inj (h.trans up_zero.symm), fun h => by rw [h]; rfl⟩
  have h1 := h0 x
  have h2 := h0 y
  have h3 := @up_lt_iff x y
  have h4 := @up_lt_iff y x
  refine cmp_congr ?_ ?_
  · cases s <;> cases t <;> simp <;> omega
  · cases s <;> cases t <;> simp <;> omega
theorem order_fin (a b : Nat) (ha : rg a < 9218868437227405312) (hb : rg b < 9218868437227405312) : double.order a b = some (compare (S a) (S b)) := by
  unfold Format.order
  rw [read_fin a ha, read_fin b hb]
  simp only [Datum.order]
  obtain ⟨c, hc⟩ : ∃ c, min (kx (rg a)) (kx (rg b)) = c := ⟨_, rfl⟩
  have h1 : ((-1074 + (kx (rg a) : Int)) - min (-1074 + (kx (rg a) : Int)) (-1074 + (kx (rg b) : Int))).toNat = kx (rg a) - c := by omega
  have h2 : ((-1074 + (kx (rg b) : Int)) - min (-1074 + (kx (rg a) : Int)) (-1074 + (kx (rg b) : Int))).toNat = kx (rg b) - c := by omega
  rw [h1, h2, cmp_scale _ _ c, S_signed a c (by omega), S_signed b c (by omega)]
theorem cmp_lt {X Y : Int} (h : X < Y) : compare X Y = .lt := by
  show compareOfLessAndEq X Y = _
  unfold compareOfLessAndEq; rw [if_pos h]
theorem cmp_gt {X Y : Int} (h : Y < X) : compare X Y = .gt := by
  show compareOfLessAndEq X Y = _
  unfold compareOfLessAndEq; rw [if_neg (by omega), if_neg (by omega)]
theorem cmp_eq {X Y : Int} (h : X = Y) : compare X Y = .eq := by
  show compareOfLessAndEq X Y = _
  unfold compareOfLessAndEq; rw [if_neg (by omega), if_pos h]
theorem order_eq (a b : Nat) (ha : a < 18446744073709551616) (hb : b < 18446744073709551616) (na : isN a = false) (nb : isN b = false) : double.order a b = some (compare (keyN a) (keyN b)) := by
  have la := notN_le na
  have lb := notN_le nb
  rw [key_S a ha, key_S b hb]
  rcases Nat.lt_or_ge (rg a) 9218868437227405312 with h1 | h1
  · rcases Nat.lt_or_ge (rg b) 9218868437227405312 with h2 | h2
    · rw [order_fin a b h1 h2]; unfold S; rw [cmp_up]
    · have e2 : rg b = 9218868437227405312 := by omega
      unfold Format.order
      rw [read_fin a h1, read_inf b e2, e2]
      simp only [Datum.order]
      refine congrArg some ?_
      cases sg b
      · simp only [Bool.false_eq_true, if_false]; rw [cmp_lt]; split <;> omega
      · simp only [if_true]; rw [cmp_gt]; split <;> omega
  · have e1 : rg a = 9218868437227405312 := by omega
    rcases Nat.lt_or_ge (rg b) 9218868437227405312 with h2 | h2
    · unfold Format.order
      rw [read_inf a e1, read_fin b h2, e1]
      simp only [Datum.order]
      refine congrArg some ?_
      cases sg a
      · simp only [Bool.false_eq_true, if_false]; rw [cmp_gt]; split <;> omega
      · simp only [if_true]; rw [cmp_lt]; split <;> omega
    · have e2 : rg b = 9218868437227405312 := by omega
      unfold Format.order
      rw [read_inf a e1, read_inf b e2, e1, e2]
      simp only [Datum.order]
      refine congrArg some ?_
      cases sg a <;> cases sg b <;> decide
theorem less_eq (a b : Nat) (ha : a < 18446744073709551616) (hb : b < 18446744073709551616) (na : isN a = false) (nb : isN b = false) : lessN a b = decide (keyN a < keyN b) := by
  unfold lessN
  rw [order_eq a b ha hb na nb]
  rcases Int.lt_trichotomy (keyN a) (keyN b) with h | h | h
  · rw [cmp_lt h, decide_eq_true h]; rfl
  · rw [cmp_eq h, decide_eq_false (by omega)]; rfl
  · rw [cmp_gt h, decide_eq_false (by omega)]; rfl
theorem equal_eq (a b : Nat) (ha : a < 18446744073709551616) (hb : b < 18446744073709551616) (na : isN a = false) (nb : isN b = false) : equalN a b = decide (keyN a = keyN b) := by
  unfold equalN
  rw [order_eq a b ha hb na nb]
  rcases Int.lt_trichotomy (keyN a) (keyN b) with h | h | h
  · rw [cmp_lt h, decide_eq_false (by omega)]; rfl
  · rw [cmp_eq h, decide_eq_true h]; rfl
  · rw [cmp_gt h, decide_eq_false (by omega)]; rfl
theorem order_N (a b : Nat) (h : isN a = true ∨ isN b = true) : double.order a b = none := by
  unfold Format.order
  rcases h with h | h
  · rw [read_N a h]; rfl
  · rw [read_N b h]; cases double.read a <;> rfl
theorem less_N (a b : Nat) (h : isN a = true ∨ isN b = true) : lessN a b = false := by unfold lessN; rw [order_N a b h]; rfl
theorem equal_N (a b : Nat) (h : isN a = true ∨ isN b = true) : equalN a b = false := by unfold equalN; rw [order_N a b h]; rfl

theorem aw1 : addN 4607182418800017408 4611686018427387904 = 4613937818241073152 := by decide +kernel
theorem aw2 : mulN 4611686018427387904 4613937818241073152 = 4618441417868443648 := by decide +kernel
theorem aw3 : divN 4618441417868443648 4613937818241073152 = 4611686018427387904 := by decide +kernel
theorem aw4 : lessN 4607182418800017408 4611686018427387904 = true := by decide +kernel
theorem aw5 : equalN 4613937818241073152 4613937818241073152 = true := by decide +kernel
theorem aw6 : sqrtN 4607182418800017408 = 4607182418800017408 := by decide +kernel
theorem aw7 : fromN 6 = 4618441417868443648 := by decide +kernel
end Go.Proofs.Ytncmegafkccblaa
