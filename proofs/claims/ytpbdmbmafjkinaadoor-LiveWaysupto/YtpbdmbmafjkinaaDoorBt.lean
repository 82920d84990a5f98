/-
  The bits of a number, from the lowest one on.
-/
import Derived.Test.YtpbdmbmafjkinaaDoorPB
namespace Go.Proofs.YtpbdmbmafjkinaaDoor
set_option linter.unusedVariables false
set_option linter.unusedSimpArgs false
/-- The lowest bit of a number. -/
theorem exLow {a : Nat} (h : a ≠ 0) : ∃ t, a.testBit t = true ∧ ∀ i, i < t → a.testBit i = false := by
  have hx : ∃ t, a.testBit t = true := Nat.exists_testBit_of_ne_zero h
  clear h
  obtain ⟨t, ht⟩ := hx
  induction t using Nat.strongRecOn with
  | _ t ih =>
    by_cases q : ∃ i, i < t ∧ a.testBit i = true
    · obtain ⟨i, hi, hb⟩ := q
      exact ih i hi hb
    · refine ⟨t, ht, fun i hi => ?_⟩
      cases e : a.testBit i with
      | false => rfl
      | true => exact absurd ⟨i, hi, e⟩ q
/-- A number whose lowest bit is t. -/
theorem low_form {a t : Nat} (h1 : a.testBit t = true) (h2 : ∀ i, i < t → a.testBit i = false) : ∃ c, a = 2 ^ t * (2 * c + 1) := by
  have e : a % 2 ^ t = 0 := by
    refine Nat.eq_of_testBit_eq (fun i => ?_)
    rw [Nat.testBit_mod_two_pow, Nat.zero_testBit]
    by_cases hi : i < t
    · simp [h2 i hi]
    · simp [hi]
  have h3 := h1
  rw [Nat.testBit_eq_decide_div_mod_eq] at h3
  have h4 : a / 2 ^ t % 2 = 1 := by simpa using h3
  refine ⟨a / 2 ^ t / 2, ?_⟩
  have h5 := Nat.div_add_mod a (2 ^ t)
  have h6 : a / 2 ^ t = 2 * (a / 2 ^ t / 2) + 1 := by omega
  rw [← h6]
  omega
theorem clear_low {a t : Nat} (h1 : a.testBit t = true) (h2 : ∀ i, i < t → a.testBit i = false) (i : Nat) : (a &&& (a - 1)).testBit i = (a.testBit i && decide (i ≠ t)) := by
  obtain ⟨c, rfl⟩ := low_form h1 h2
  have hp : 0 < 2 ^ t := Nat.pow_pos (by omega)
  have e1 : 2 ^ t * (2 * c + 1) = 2 ^ t * (2 * c) + 2 ^ t := by rw [Nat.mul_add, Nat.mul_one]
  have e2 : 2 ^ t * (2 * c + 1) - 1 = 2 ^ t * (2 * c) + (2 ^ t - 1) := by omega
  have p0 : ∀ j, (2 ^ t * (2 * c + 1)).testBit j = (decide (t ≤ j) && (2 * c + 1).testBit (j - t)) := fun j => by
    rw [Nat.testBit_two_pow_mul]
  have p1 : ∀ j, (2 ^ t * (2 * c) + (2 ^ t - 1)).testBit j = (if j < t then true else (2 * c).testBit (j - t)) := fun j => by
    rw [Nat.testBit_two_pow_mul_add _ (by omega)]
    by_cases hj : j < t
    · rw [if_pos hj, if_pos hj, Nat.testBit_two_pow_sub_one]; simpa using hj
    · rw [if_neg hj, if_neg hj]
  rw [Nat.testBit_and, e2, p0, p1]
  by_cases hi : i < t
  · have : ¬ t ≤ i := by omega
    simp [hi, this]
  · have h3 : t ≤ i := by omega
    simp only [h3, decide_true, Bool.true_and, if_neg hi]
    by_cases e : i = t
    · subst e
      simp [Nat.testBit_zero]
    · obtain ⟨k, hk⟩ : ∃ k, i - t = k + 1 := ⟨i - t - 1, by omega⟩
      rw [hk, Nat.testBit_succ, Nat.testBit_succ]
      have q1 : (2 * c + 1) / 2 = c := by omega
      have q2 : 2 * c / 2 = c := by omega
      rw [q1, q2]
      simp [e]
/-- The bit alone. -/
theorem neg_low {a t : Nat} (ha : a < 18446744073709551616) (h1 : a.testBit t = true) (h2 : ∀ i, i < t → a.testBit i = false) : a &&& (18446744073709551616 - a) = 2 ^ t := by
  obtain ⟨c, rfl⟩ := low_form h1 h2
  have hp : 0 < 2 ^ t := Nat.pow_pos (by omega)
  have e1 : 2 ^ t * (2 * c + 1) = 2 ^ t * (2 * c) + 2 ^ t := by rw [Nat.mul_add, Nat.mul_one]
  have ht : t < 64 := by
    refine Classical.byContradiction (fun q => ?_)
    have : 2 ^ 64 ≤ 2 ^ t := Nat.pow_le_pow_right (by omega) (by omega)
    have : 2 ^ t ≤ 2 ^ t * (2 * c + 1) := Nat.le_mul_of_pos_right _ (by omega)
    omega
  obtain ⟨s, hs⟩ : ∃ s, 64 = t + (s + 1) := ⟨63 - t, by omega⟩
  have e2 : (18446744073709551616 : Nat) = 2 ^ t * (2 * 2 ^ s) := by
    rw [show (18446744073709551616 : Nat) = 2 ^ 64 from rfl, hs, Nat.pow_add, Nat.pow_succ]; congr 1; omega
  have hlt : 2 * c + 1 < 2 * 2 ^ s := by
    rw [e2] at ha
    exact Nat.lt_of_mul_lt_mul_left ha
  have e3 : 18446744073709551616 - 2 ^ t * (2 * c + 1) = 2 ^ t * (2 * (2 ^ s - 1 - c) + 1) := by
    rw [e2, ← Nat.mul_sub]
    congr 1
    omega
  rw [e3]
  refine Nat.eq_of_testBit_eq (fun i => ?_)
  rw [Nat.testBit_and, Nat.testBit_two_pow_mul, Nat.testBit_two_pow_mul, Nat.testBit_two_pow]
  by_cases hi : t ≤ i
  · simp only [hi, decide_true, Bool.true_and]
    by_cases e : t = i
    · subst e; simp [Nat.testBit_zero]
    · obtain ⟨k, hk⟩ : ∃ k, i - t = k + 1 := ⟨i - t - 1, by omega⟩
      rw [hk, Nat.testBit_succ, Nat.testBit_succ]
      have q1 : (2 * c + 1) / 2 = c := by omega
      have q2 : (2 * (2 ^ s - 1 - c) + 1) / 2 = 2 ^ s - 1 - c := by omega
      rw [q1, q2]
      have q3 : 2 ^ s - 1 - c = 2 ^ s - (c + 1) := by omega
      rw [q3, Nat.testBit_two_pow_sub_succ (by omega)]
      simp only [e, decide_false]
      cases c.testBit k <;> simp
  · have e : ¬ t = i := by omega
    simp [hi, e]
/-- The bits of a number, rising. -/
def bitsOf (a : Nat) : List Nat := (List.range 64).filter (fun i => a.testBit i)
theorem bitsOf_zero : bitsOf 0 = [] := by simp [bitsOf]
theorem filter_first {p q : Nat → Bool} {t : Nat} : ∀ {n m : Nat}, m ≤ t → t < m + n → p t = true → (∀ i, i < t → p i = false) → (∀ i, q i = (p i && decide (i ≠ t))) → (List.range' m n).filter p = t :: (List.range' m n).filter q
  | 0, m, h1, h2, _, _, _ => by omega
  | n + 1, m, h1, h2, hp, hl, hq => by
    rw [List.range'_succ, List.filter_cons, List.filter_cons]
    by_cases e : m = t
    · subst e
      have hqm : q m = false := by rw [hq]; simp
      rw [hp, hqm]
      simp only [if_true, Bool.false_eq_true, if_false, List.cons.injEq, true_and]
      refine List.filter_congr (fun x hx => ?_)
      have : m < x := by have := (List.mem_range'_1.1 hx).1; omega
      rw [hq]
      have : x ≠ m := by omega
      simp [this]
    · have hpm : p m = false := hl m (by omega)
      have hqm : q m = false := by rw [hq, hpm]; rfl
      rw [hpm, hqm]
      simp only [Bool.false_eq_true, if_false]
      exact filter_first (by omega) (by omega) hp hl hq
theorem bitsOf_low {a t : Nat} (ht : t < 64) (h1 : a.testBit t = true) (h2 : ∀ i, i < t → a.testBit i = false) : bitsOf a = t :: bitsOf (a &&& (a - 1)) := by
  unfold bitsOf
  rw [List.range_eq_range']
  exact filter_first (by omega) (by omega) h1 h2 (fun i => clear_low h1 h2 i)
end Go.Proofs.YtpbdmbmafjkinaaDoor
