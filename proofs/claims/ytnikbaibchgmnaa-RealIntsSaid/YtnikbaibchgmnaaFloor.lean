/-
  Floors and whole numbers out of numbers.
-/
import Derived.Test.YtnikbaibchgmnaaQuot2
namespace Go.Proofs.Ytnikbaibchgmnaa
open Go.RowKit Ieee

theorem cut_gap (n d : Nat) : n / 2 ^ min d (n.log2 + 2) = n / 2 ^ d ∧ (n % 2 ^ min d (n.log2 + 2) != 0) = (n % 2 ^ d != 0) := by
  by_cases hd : d ≤ n.log2 + 2
  · rw [Nat.min_eq_left hd]; exact ⟨rfl, rfl⟩
  · rw [Nat.min_eq_right (by omega)]
    by_cases hn : n = 0
    · subst hn; simp
    · have hlt := log2_lt' hn
      have e2 : (2 : Nat) ^ (n.log2 + 1) ≤ 2 ^ (n.log2 + 2) := Nat.pow_le_pow_right (by decide) (by omega)
      have e3 : (2 : Nat) ^ (n.log2 + 2) ≤ 2 ^ d := Nat.pow_le_pow_right (by decide) (by omega)
      have a1 : n < 2 ^ (n.log2 + 2) := Nat.lt_of_lt_of_le hlt e2
      have a2 : n < 2 ^ d := Nat.lt_of_lt_of_le a1 e3
      rw [Nat.div_eq_of_lt a1, Nat.div_eq_of_lt a2, Nat.mod_eq_of_lt a1, Nat.mod_eq_of_lt a2]
      exact ⟨rfl, rfl⟩
theorem cut_down (s : Bool) (n d : Nat) : Toward.down.cut s n d = n / 2 ^ d + (s && (n % 2 ^ d != 0)).toNat := by
  obtain ⟨h1, h2⟩ := cut_gap n d
  unfold Toward.cut
  simp only [Nat.shiftLeft_eq, Nat.one_mul]
  rw [h1, h2]
theorem cut_zero (s : Bool) (n d : Nat) : Toward.zero.cut s n d = n / 2 ^ d := by
  obtain ⟨h1, h2⟩ := cut_gap n d
  unfold Toward.cut
  simp only [Nat.shiftLeft_eq, Nat.one_mul]
  rw [h1]; rfl
/-- The whole part and the rest, in units. -/
theorem whole_part (T m k : Nat) : (m * 2 ^ ((-(T : Int) + k).toNat)) / 2 ^ ((-(-(T : Int) + k)).toNat) = m * 2 ^ k / 2 ^ T ∧ ((m * 2 ^ ((-(T : Int) + k).toNat)) % 2 ^ ((-(-(T : Int) + k)).toNat) != 0) = (m * 2 ^ k % 2 ^ T != 0) := by
  by_cases h : T ≤ k
  · rw [show (-(T : Int) + k).toNat = k - T from by omega, show (-(-(T : Int) + k)).toNat = 0 from by omega]
    have e : m * 2 ^ k = m * 2 ^ (k - T) * 2 ^ T := by rw [Nat.mul_assoc, ← Nat.pow_add, Nat.sub_add_cancel h]
    rw [e, Nat.mul_div_cancel _ (Nat.two_pow_pos T), Nat.mul_mod_left, Nat.pow_zero, Nat.div_one, Nat.mod_one]
    exact ⟨rfl, rfl⟩
  · rw [show (-(T : Int) + k).toNat = 0 from by omega, show (-(-(T : Int) + k)).toNat = T - k from by omega, Nat.pow_zero, Nat.mul_one]
    have e : 2 ^ T = 2 ^ (T - k) * 2 ^ k := by rw [← Nat.pow_add, Nat.sub_add_cancel (by omega)]
    have hp := Nat.two_pow_pos k
    rw [e, Nat.mul_div_mul_right _ _ hp, Nat.mul_mod_mul_right]
    refine ⟨rfl, ?_⟩
    by_cases hz : m % 2 ^ (T - k) = 0
    · rw [hz, Nat.zero_mul]
    · have : m % 2 ^ (T - k) * 2 ^ k ≠ 0 := Nat.mul_ne_zero hz (by omega)
      rw [bne_iff_ne.2 hz, bne_iff_ne.2 this]
/-- The floor's size. -/
def flo (T a : Nat) : Nat := up (rg a) / 2 ^ T + (sg a && (up (rg a) % 2 ^ T != 0)).toNat
theorem floor_fin (T a : Nat) (hT : T = 1074) (ha : rg a < 9218868437227405312) : floorN a = double.word (sg a) (R (flo T a * 2 ^ T) 0) := by
  have n : isN a = false := by rw [isN_eq, decide_eq_false (by omega)]
  unfold floorN flo
  rw [n, if_neg (by simp), read_fin a ha]
  simp only [Datum.integral]
  obtain ⟨w1, w2⟩ := whole_part T (mg (rg a)) (kx (rg a))
  rw [Nat.shiftLeft_eq, cut_down, show (-1074 : Int) = -(T : Int) from by omega, w1, w2, up_eq]
  exact write_R _ _ _ _ _ (by omega)
theorem toInt_fin (T a : Nat) (hT : T = 1074) (ha : rg a < 9218868437227405312) : (double.read a).toInt .zero = some (if sg a then -((up (rg a) / 2 ^ T : Nat) : Int) else ((up (rg a) / 2 ^ T : Nat) : Int)) := by
  rw [read_fin a ha]
  simp only [Datum.toInt, Datum.integral]
  obtain ⟨w1, w2⟩ := whole_part T (mg (rg a)) (kx (rg a))
  rw [Nat.shiftLeft_eq, cut_zero, show (-1074 : Int) = -(T : Int) from by omega, w1, up_eq, signed_eq, Nat.pow_zero, Nat.mul_one]
theorem up_K (T : Nat) (hT : T = 1074) : up 4890909195324358656 = 9223372036854775808 * 2 ^ T := by
  rw [up_eq, show mg 4890909195324358656 = 4503599627370496 from by decide, show kx 4890909195324358656 = 11 + T from by rw [hT]; decide, Nat.pow_add, ← Nat.mul_assoc]
/-- What ToInt answers. -/
def toN (T a : Nat) : Int × Bool := if isN a = false ∧ -4890909195324358656 ≤ keyN a ∧ keyN a < 4890909195324358656 then (if sg a then -((up (rg a) / 2 ^ T : Nat) : Int) else ((up (rg a) / 2 ^ T : Nat) : Int), true) else (0, false)
theorem to_in (T a : Nat) (hT : T = 1074) (ha : a < 18446744073709551616) (h1 : -4890909195324358656 ≤ keyN a) (h2 : keyN a < 4890909195324358656) : rg a ≤ 4890909195324358656 ∧ floatToIntVal .f64 a .i64 = some (if sg a then -((up (rg a) / 2 ^ T : Nat) : Int) else ((up (rg a) / 2 ^ T : Nat) : Int)) := by
  rw [key_S a ha] at h1 h2
  have hle : rg a ≤ 4890909195324358656 := by cases hs : sg a <;> rw [hs] at h1 h2 <;> simp at h1 h2 <;> omega
  refine ⟨hle, ?_⟩
  have hp := Nat.two_pow_pos T
  have q1 : up (rg a) / 2 ^ T ≤ 9223372036854775808 := by
    have := Nat.div_le_div_right (c := 2 ^ T) (up_le hle)
    rwa [up_K T hT, Nat.mul_div_cancel _ hp] at this
  have q2 : sg a = false → up (rg a) / 2 ^ T < 9223372036854775808 := by
    intro hs
    rw [hs] at h2
    simp at h2
    rw [Nat.div_lt_iff_lt_mul hp, ← up_K T hT]
    exact up_lt (by omega)
  unfold floatToIntVal
  show (match (double.read a).toInt .zero with | some n => if IntKind.i64.min ≤ n ∧ n ≤ IntKind.i64.max then some n else none | none => none) = _
  rw [toInt_fin T a hT (by omega)]
  simp only
  generalize up (rg a) / 2 ^ T = Q at *
  rw [if_pos]
  show (-9223372036854775808 : Int) ≤ _ ∧ _ ≤ (9223372036854775807 : Int)
  cases hs : sg a
  · have := q2 hs; simp; omega
  · simp; omega
end Go.Proofs.Ytnikbaibchgmnaa
