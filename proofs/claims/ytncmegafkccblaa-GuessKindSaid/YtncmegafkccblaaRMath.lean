/-
  Numbers of 64 bits: rungs, what they stand for, and how a value is rounded.
-/
import Ieee.Arith
import Derived.Laws.FloatBits
namespace Go.Proofs.Ytncmegafkccblaa
open Ieee

theorem log2_lt' {n : Nat} (_ : n ≠ 0) : n < 2 ^ (n.log2 + 1) := Nat.lt_log2_self
theorem log2_le' {n : Nat} (h : n ≠ 0) : 2 ^ n.log2 ≤ n := Nat.log2_self_le h
theorem log2_of {n t : Nat} (h1 : 2 ^ t ≤ n) (h2 : n < 2 ^ (t + 1)) : n.log2 = t := by
  have hn : n ≠ 0 := by have := Nat.two_pow_pos t; omega
  have a : n.log2 < t + 1 := (Nat.log2_lt hn).2 h2
  have b : t ≤ n.log2 := (Nat.le_log2 hn).2 h1
  omega
theorem log2_mul_pow {n : Nat} (h : n ≠ 0) (k : Nat) : (n * 2 ^ k).log2 = n.log2 + k := by
  refine log2_of ?_ ?_
  · rw [Nat.pow_add]; exact Nat.mul_le_mul_right _ (log2_le' h)
  · rw [show n.log2 + k + 1 = (n.log2 + 1) + k from by omega, Nat.pow_add]; exact Nat.mul_lt_mul_of_pos_right (log2_lt' h) (Nat.two_pow_pos k)

/-- n over 2^d, to the nearest whole number, of two the even one. -/
def RN (n d : Nat) : Nat := n / 2 ^ d + (if 2 ^ d < 2 * (n % 2 ^ d) ∨ (2 ^ d = 2 * (n % 2 ^ d) ∧ n / 2 ^ d % 2 = 1) then 1 else 0)

theorem cut_even (neg : Bool) (n d : Nat) : Toward.even.cut neg n d = RN n d := by
  unfold Toward.cut
  simp only [Nat.shiftLeft_eq, Nat.one_mul]
  have key : ∀ g, (n / g + ((decide (g < 2 * (n % g)) || g == 2 * (n % g) && n / g % 2 == 1).toNat)) = n / g + (if g < 2 * (n % g) ∨ (g = 2 * (n % g) ∧ n / g % 2 = 1) then 1 else 0) := by
    intro g
    by_cases h : g < 2 * (n % g) ∨ (g = 2 * (n % g) ∧ n / g % 2 = 1)
    · rw [if_pos h]
      rcases h with h | ⟨h1, h2⟩
      · simp [h]
      · rw [← h1, h2]; simp
    · rw [if_neg h]
      have h1 : ¬ g < 2 * (n % g) := fun e => h (.inl e)
      have h2 : (g == 2 * (n % g) && n / g % 2 == 1) = false := by
        rw [Bool.and_eq_false_iff]
        by_cases e : g = 2 * (n % g)
        · right; rw [beq_eq_false_iff_ne]; exact fun e2 => h (.inr ⟨e, e2⟩)
        · left; rw [beq_eq_false_iff_ne]; exact e
      simp [h1, h2]
  rw [key]
  by_cases hd : d ≤ n.log2 + 2
  · rw [Nat.min_eq_left hd]; rfl
  · rw [Nat.min_eq_right (by omega)]
    unfold RN
    by_cases hn : n = 0
    · subst hn
      have h1 := Nat.two_pow_pos (Nat.log2 0 + 2)
      have h2 := Nat.two_pow_pos d
      rw [if_neg (by simp), if_neg (by simp)]
      simp
    · have hlt := log2_lt' hn
      have e1 : (2 : Nat) ^ (n.log2 + 2) = 2 * 2 ^ (n.log2 + 1) := by rw [Nat.pow_succ]; omega
      have e2 : (2 : Nat) ^ (n.log2 + 2) ≤ 2 ^ d := Nat.pow_le_pow_right (by decide) (by omega)
      have a1 : n < 2 ^ (n.log2 + 2) := by omega
      have a2 : n < 2 ^ d := by omega
      rw [Nat.mod_eq_of_lt a1, Nat.mod_eq_of_lt a2, Nat.div_eq_of_lt a1, Nat.div_eq_of_lt a2, if_neg (by omega), if_neg (by omega)]

theorem RN_zero (n : Nat) : RN n 0 = n := by
  unfold RN; rw [if_neg]
  · simp
  · simp [Nat.mod_one]
theorem RN_scale (n d j : Nat) : RN (n * 2 ^ j) (d + j) = RN n d := by
  unfold RN
  have hj := Nat.two_pow_pos j
  have e1 : (n * 2 ^ j) / 2 ^ (d + j) = n / 2 ^ d := by rw [Nat.pow_add]; exact Nat.mul_div_mul_right _ _ hj
  have e2 : (n * 2 ^ j) % 2 ^ (d + j) = (n % 2 ^ d) * 2 ^ j := by rw [Nat.pow_add]; exact Nat.mul_mod_mul_right _ _ _
  have e3 : (2 : Nat) ^ (d + j) = 2 ^ d * 2 ^ j := Nat.pow_add ..
  have e4 : 2 * ((n % 2 ^ d) * 2 ^ j) = (2 * (n % 2 ^ d)) * 2 ^ j := by rw [Nat.mul_assoc]
  rw [e1, e2, e3, e4]
  have c1 : (2 ^ d * 2 ^ j < (2 * (n % 2 ^ d)) * 2 ^ j) ↔ 2 ^ d < 2 * (n % 2 ^ d) := Nat.mul_lt_mul_right hj
  have c2 : (2 ^ d * 2 ^ j = (2 * (n % 2 ^ d)) * 2 ^ j) ↔ 2 ^ d = 2 * (n % 2 ^ d) := Nat.mul_left_inj (by omega)
  simp only [c1, c2]
theorem RN_exact (n d : Nat) : RN (n * 2 ^ d) d = n := by
  have := RN_scale n 0 d
  rwa [Nat.zero_add, RN_zero] at this
theorem RN_le (n d : Nat) : n / 2 ^ d ≤ RN n d := by unfold RN; omega
theorem RN_lt (n d : Nat) : RN n d ≤ n / 2 ^ d + 1 := by unfold RN; split <;> omega
theorem RN_mono {n m : Nat} (d : Nat) (h : n ≤ m) : RN n d ≤ RN m d := by
  have hq := Nat.div_le_div_right (c := 2 ^ d) h
  rcases Nat.lt_or_ge (n / 2 ^ d) (m / 2 ^ d) with h' | h'
  · have := RN_lt n d; have := RN_le m d; omega
  · have e : n / 2 ^ d = m / 2 ^ d := by omega
    have d1 := Nat.div_add_mod n (2 ^ d)
    have d2 := Nat.div_add_mod m (2 ^ d)
    unfold RN
    rw [e] at d1 ⊢
    generalize 2 ^ d * (m / 2 ^ d) = X at *
    split <;> split <;> omega

/-- The rung of n over 2^s, in units of the least place. -/
def R (n s : Nat) : Nat := min ((max (n.log2 - 52) s - s) * 4503599627370496 + RN n (max (n.log2 - 52) s)) 9218868437227405312

theorem R_zero (s : Nat) : R 0 s = 0 := by
  unfold R
  have : (Nat.log2 0 - 52) = 0 := by decide
  rw [this, Nat.max_eq_right (Nat.zero_le s)]
  unfold RN
  have h2 := Nat.two_pow_pos s
  rw [if_neg (by simp)]
  simp
theorem R_le (n s : Nat) : R n s ≤ 9218868437227405312 := Nat.min_le_right ..
theorem R_scale (n s j : Nat) : R (n * 2 ^ j) (s + j) = R n s := by
  by_cases hn : n = 0
  · subst hn; rw [Nat.zero_mul, R_zero, R_zero]
  · unfold R
    rw [log2_mul_pow hn]
    have e1 : max (n.log2 + j - 52) (s + j) - (s + j) = max (n.log2 - 52) s - s := by omega
    rw [e1]
    refine congrArg (fun z => min ((max (n.log2 - 52) s - s) * 4503599627370496 + z) 9218868437227405312) ?_
    by_cases h : n.log2 - 52 ≤ s
    · rw [Nat.max_eq_right (by omega), Nat.max_eq_right h, RN_scale]
    · rw [Nat.max_eq_left (by omega), Nat.max_eq_left (by omega), show n.log2 + j - 52 = (n.log2 - 52) + j from by omega, RN_scale]

theorem dbl_inf : double.infRung = 9218868437227405312 := rfl
theorem dbl_bin : double.binade = 4503599627370496 := rfl
theorem dbl_sw : double.signWeight = 9223372036854775808 := rfl
theorem dbl_lp : double.leastPlace = -1074 := rfl
theorem dbl_fb : double.fractionBits = 52 := rfl

set_option maxRecDepth 20000 in
/-- The nearest word is that of the rung. -/
theorem nearest_R (neg : Bool) (m : Nat) (e : Int) (k s : Nat) (h : e + 1074 + s = k) : double.nearest neg m e = double.word neg (R (m * 2 ^ k) s) := by
  unfold Format.nearest
  by_cases hm : m = 0
  · subst hm; rw [if_pos rfl, Nat.zero_mul, R_zero]
  · rw [if_neg hm]
    simp only [cut_even, dbl_lp, dbl_fb, dbl_inf, dbl_bin]
    refine congrArg (double.word neg) ?_
    unfold R
    rw [log2_mul_pow hm]
    obtain ⟨D, hD⟩ : ∃ D, max (m.log2 + k - 52) s = D := ⟨_, rfl⟩
    have hl : max (e + (m.log2 : Int) - ((52 : Nat) : Int)) (-1074) = -1074 - s + (D : Int) := by omega
    rw [hl, hD]
    have h1 : ((-1074 : Int) - s + (D : Int) - -1074).toNat = D - s := by omega
    have h2 : (e - (-1074 - (s : Int) + (D : Int))).toNat = k - D := by omega
    have h3 : ((-1074 - (s : Int) + (D : Int)) - e).toNat = D - k := by omega
    rw [h1, h2, h3, Nat.shiftLeft_eq]
    refine congrArg (fun z => min ((D - s) * 4503599627370496 + z) 9218868437227405312) ?_
    by_cases hk : D ≤ k
    · rw [show D - k = 0 from by omega, RN_zero]
      have : m * 2 ^ k = (m * 2 ^ (k - D)) * 2 ^ D := by rw [Nat.mul_assoc, ← Nat.pow_add, Nat.sub_add_cancel hk]
      rw [this, RN_exact]
    · rw [show k - D = 0 from by omega, Nat.pow_zero, Nat.mul_one]
      have := RN_scale m (D - k) k
      rw [Nat.sub_add_cancel (by omega)] at this
      exact this.symm

theorem R_mono0 {n m : Nat} (s : Nat) (h : n ≤ m) : R n s ≤ R m s := by
  by_cases hn : n = 0
  · subst hn; rw [R_zero]; exact Nat.zero_le _
  have hm : m ≠ 0 := by omega
  have hl : n.log2 ≤ m.log2 := (Nat.le_log2 hm).2 (Nat.le_trans (log2_le' hn) h)
  unfold R
  have key : (max (n.log2 - 52) s - s) * 4503599627370496 + RN n (max (n.log2 - 52) s) ≤ (max (m.log2 - 52) s - s) * 4503599627370496 + RN m (max (m.log2 - 52) s) := by
    by_cases e : max (n.log2 - 52) s = max (m.log2 - 52) s
    · rw [e]; exact Nat.add_le_add_left (RN_mono _ h) _
    · obtain ⟨D, hD⟩ : ∃ D, max (n.log2 - 52) s = D := ⟨_, rfl⟩
      have hD' : max (m.log2 - 52) s = m.log2 - 52 := by omega
      have hlt : D < m.log2 - 52 := by omega
      rw [hD, hD']
      have b1 : RN n D ≤ 2 ^ 53 := by
        have := RN_lt n D
        have : n / 2 ^ D < 2 ^ 53 := by
          rw [Nat.div_lt_iff_lt_mul (Nat.two_pow_pos D), ← Nat.pow_add]
          exact Nat.lt_of_lt_of_le (log2_lt' hn) (Nat.pow_le_pow_right (by decide) (by omega))
        omega
      have b2 : 2 ^ 52 ≤ RN m (m.log2 - 52) := by
        refine Nat.le_trans ?_ (RN_le _ _)
        rw [Nat.le_div_iff_mul_le (Nat.two_pow_pos _), ← Nat.pow_add]
        exact Nat.le_trans (Nat.pow_le_pow_right (by decide) (by omega)) (log2_le' hm)
      have b3 : (D - s + 1) * 4503599627370496 ≤ (m.log2 - 52 - s) * 4503599627370496 := Nat.mul_le_mul_right _ (by omega)
      have b4 : (2 : Nat) ^ 53 = 2 * 2 ^ 52 := by decide
      rw [Nat.add_mul] at b3
      omega
  omega
theorem R_mono {n m s t : Nat} (h : n * 2 ^ t ≤ m * 2 ^ s) : R n s ≤ R m t := by
  rw [← R_scale n s t, ← R_scale m t s, Nat.add_comm t s]
  exact R_mono0 _ h

/-- What a rung stands for, in units of the least place. -/
def up (r : Nat) : Nat := if r < 2 ^ 52 then r else (2 ^ 52 + r % 2 ^ 52) * 2 ^ (r / 2 ^ 52 - 1)

theorem up_zero : up 0 = 0 := rfl
theorem R_up (r : Nat) : R (up r) 0 = min r 9218868437227405312 := by
  unfold up
  split
  · rename_i h
    unfold R
    have : r.log2 - 52 = 0 := by
      by_cases hr : r = 0
      · subst hr; decide
      · have := (Nat.log2_lt hr).2 h; omega
    rw [this, Nat.max_self, RN_zero]
    simp
  · rename_i h
    obtain ⟨q, hq⟩ : ∃ q, r / 2 ^ 52 = q := ⟨_, rfl⟩
    obtain ⟨f, hf⟩ : ∃ f, r % 2 ^ 52 = f := ⟨_, rfl⟩
    have hr : r = 2 ^ 52 * q + f := by rw [← hq, ← hf]; exact (Nat.div_add_mod r (2 ^ 52)).symm
    have hf2 : f < 2 ^ 52 := by rw [← hf]; exact Nat.mod_lt _ (by decide)
    rw [hq, hf]
    have hl : ((2 ^ 52 + f) * 2 ^ (q - 1)).log2 = 52 + (q - 1) := by
      rw [log2_mul_pow (by omega), log2_of (t := 52) (by omega) (by omega)]
    unfold R
    rw [hl, show 52 + (q - 1) - 52 = q - 1 from by omega, Nat.max_eq_left (by omega), RN_exact]
    have : (q - 1 - 0) * 4503599627370496 + (2 ^ 52 + f) = r := by
      have : 1 ≤ q := by omega
      omega
    rw [this]
theorem R_up' {r : Nat} (h : r ≤ 9218868437227405312) : R (up r) 0 = r := by rw [R_up]; omega

theorem up_succ (r : Nat) : up r < up (r + 1) := by
  unfold up
  by_cases h : r + 1 < 2 ^ 52
  · rw [if_pos (by omega), if_pos h]; omega
  · by_cases h2 : r < 2 ^ 52
    · obtain rfl : r = 2 ^ 52 - 1 := by omega
      decide
    · rw [if_neg h2, if_neg h]
      obtain ⟨q, hq⟩ : ∃ q, r / 2 ^ 52 = q := ⟨_, rfl⟩
      obtain ⟨f, hf⟩ : ∃ f, r % 2 ^ 52 = f := ⟨_, rfl⟩
      by_cases h3 : f + 1 < 2 ^ 52
      · have e1 : (r + 1) / 2 ^ 52 = q := by omega
        have e2 : (r + 1) % 2 ^ 52 = f + 1 := by omega
        rw [hq, hf, e1, e2]
        exact Nat.mul_lt_mul_of_pos_right (by omega) (Nat.two_pow_pos _)
      · have e1 : (r + 1) / 2 ^ 52 = q + 1 := by omega
        have e2 : (r + 1) % 2 ^ 52 = 0 := by omega
        have hq1 : 1 ≤ q := by omega
        have e3 : (2 : Nat) ^ (q + 1 - 1) = 2 * 2 ^ (q - 1) := by rw [show q + 1 - 1 = (q - 1) + 1 from by omega, Nat.pow_succ, Nat.mul_comm]
        rw [hq, hf, e1, e2, e3, ← Nat.mul_assoc]
        exact Nat.mul_lt_mul_of_pos_right (by omega) (Nat.two_pow_pos _)
theorem up_lt {r t : Nat} (h : r < t) : up r < up t := by
  induction t with
  | zero => omega
  | succ t ih =>
    rcases Nat.lt_or_ge r t with h' | h'
    · exact Nat.lt_trans (ih h') (up_succ t)
    · obtain rfl : r = t := by omega
      exact up_succ r
theorem up_le {r t : Nat} (h : r ≤ t) : up r ≤ up t := by
  rcases Nat.lt_or_ge r t with h' | h'
  · exact Nat.le_of_lt (up_lt h')
  · obtain rfl : r = t := by omega
    exact Nat.le_refl _
theorem up_inj {r t : Nat} (h : up r = up t) : r = t := by
  rcases Nat.lt_trichotomy r t with h' | h' | h'
  · have := up_lt h'; omega
  · exact h'
  · have := up_lt h'; omega
theorem up_lt_iff {r t : Nat} : up r < up t ↔ r < t := by
  constructor
  · intro h
    rcases Nat.lt_or_ge r t with h' | h'
    · exact h'
    · have := up_le h'; omega
  · exact up_lt

/-- Rounding is between what lies around. -/
theorem R_ge {n s r : Nat} (hr : r ≤ 9218868437227405312) (h : up r * 2 ^ s ≤ n) : r ≤ R n s := by
  have := R_mono (n := up r) (s := 0) (m := n) (t := s) (by simpa using h)
  rwa [R_up' hr] at this
theorem R_le' {n s r : Nat} (hr : r ≤ 9218868437227405312) (h : n ≤ up r * 2 ^ s) : R n s ≤ r := by
  have := R_mono (n := n) (s := s) (m := up r) (t := 0) (by simpa using h)
  rwa [R_up' hr] at this
theorem R_eq {n s r : Nat} (hr : r ≤ 9218868437227405312) (h : n = up r * 2 ^ s) : R n s = r :=
  Nat.le_antisymm (R_le' hr (by omega)) (R_ge hr (by omega))
end Go.Proofs.Ytncmegafkccblaa
