/-
  The mathematics of Times and Over.
-/
import Derived.Test.YtnikbaibchgmnaaDigits
namespace Go.Proofs.Ytnikbaibchgmnaa

/-- The lower digits of one number, the others of another. -/
def mix (X Y t K : Nat) : List Nat := (List.range K).map fun u => if u < t then dig X u else dig Y u
theorem mix_length (X Y t K : Nat) : (mix X Y t K).length = K := by simp [mix]
theorem mix_getD (X Y t K i : Nat) (h : i < K) : (mix X Y t K).getD i 0 = if i < t then dig X i else dig Y i := by simp [mix, List.getD, h]
theorem mix_start (X Y t K : Nat) (h : ∀ u, u < t → dig X u = dig Y u) : mix X Y t K = ds Y K := by
  unfold mix ds
  refine List.map_congr_left fun u _ => ?_
  split
  · exact h u (by assumption)
  · rfl
theorem mix_end (X Y t K : Nat) (h : ∀ u, t ≤ u → u < K → dig X u = dig Y u) : mix X Y t K = ds X K := by
  unfold mix ds
  refine List.map_congr_left fun u hu => ?_
  rw [List.mem_range] at hu
  split
  · rfl
  · exact (h u (by omega) hu).symm
theorem mix_set (X Y t K : Nat) : (mix X Y t K).set t (dig X t) = mix X Y (t + 1) K := by
  apply List.ext_getElem
  · rw [List.length_set, mix_length, mix_length]
  · intro i h1 h2
    rw [List.getElem_set]
    simp only [mix, List.getElem_map, List.getElem_range]
    by_cases e : t = i
    · subst e; rw [if_pos rfl, if_pos (by omega)]
    · rw [if_neg e]
      by_cases hi : i < t
      · rw [if_pos hi, if_pos (by omega)]
      · rw [if_neg hi, if_neg (by omega)]
/-- The carry of a product's row. -/
def mca (P d C i j : Nat) : Nat := (P % 4294967296 ^ (i + j) + d * (C % 4294967296 ^ j) * 4294967296 ^ i) / 4294967296 ^ (i + j)
theorem mca_zero (P d C i : Nat) : mca P d C i 0 = 0 := by
  unfold mca
  rw [Nat.pow_zero, Nat.mod_one, Nat.mul_zero, Nat.zero_mul, Nat.add_zero, Nat.add_zero]
  exact Nat.div_eq_of_lt (Nat.mod_lt _ (Bpow_pos i))
theorem mca_step (P d C i j : Nat) : d * dig C j + dig P (i + j) + mca P d C i j = (P % 4294967296 ^ (i + j + 1) + d * (C % 4294967296 ^ (j + 1)) * 4294967296 ^ i) / 4294967296 ^ (i + j) := by
  have hp := Bpow_pos (i + j)
  have e : P % 4294967296 ^ (i + j + 1) + d * (C % 4294967296 ^ (j + 1)) * 4294967296 ^ i = (P % 4294967296 ^ (i + j) + d * (C % 4294967296 ^ j) * 4294967296 ^ i) + 4294967296 ^ (i + j) * (dig P (i + j) + d * dig C j) := by
    rw [mod_succ P (i + j), mod_succ C j, Nat.mul_add, Nat.add_mul, Nat.mul_add, Nat.pow_add 4294967296 i j]
    have : d * (4294967296 ^ j * dig C j) * 4294967296 ^ i = 4294967296 ^ i * 4294967296 ^ j * (d * dig C j) := by ac_rfl
    omega
  rw [e, Nat.add_mul_div_left _ _ hp]
  unfold mca; omega
theorem mca_dig (P d C i j : Nat) : (d * dig C j + dig P (i + j) + mca P d C i j) % 4294967296 = dig (P + d * C * 4294967296 ^ i) (i + j) := by
  rw [mca_step]
  have h : (P % 4294967296 ^ (i + j + 1) + d * (C % 4294967296 ^ (j + 1)) * 4294967296 ^ i) % 4294967296 ^ (i + j + 1) = (P + d * C * 4294967296 ^ i) % 4294967296 ^ (i + j + 1) := by
    have h1 : d * C * 4294967296 ^ i = d * (C % 4294967296 ^ (j + 1)) * 4294967296 ^ i + 4294967296 ^ (i + j + 1) * (d * (C / 4294967296 ^ (j + 1))) := by
      have hc := Nat.mod_add_div C (4294967296 ^ (j + 1))
      rw [show i + j + 1 = i + (j + 1) from by omega, Nat.pow_add 4294967296 i (j + 1)]
      have : d * C * 4294967296 ^ i = d * (C % 4294967296 ^ (j + 1) + 4294967296 ^ (j + 1) * (C / 4294967296 ^ (j + 1))) * 4294967296 ^ i := by rw [hc]
      rw [this, Nat.mul_add, Nat.add_mul]
      congr 1
      ac_rfl
    rw [h1, ← Nat.add_assoc, Nat.add_mul_mod_self_left, Nat.add_mod, Nat.mod_mod, ← Nat.add_mod]
  generalize P % 4294967296 ^ (i + j + 1) + d * (C % 4294967296 ^ (j + 1)) * 4294967296 ^ i = Y at *
  rw [← dig_mod (P + d * C * 4294967296 ^ i), ← h, dig_mod]; rfl
theorem mca_car (P d C i j : Nat) : (d * dig C j + dig P (i + j) + mca P d C i j) / 4294967296 = mca P d C i (j + 1) := by
  rw [mca_step, Nat.div_div_eq_div_mul, ← Nat.pow_succ]; rfl
theorem mca_lt {P d C i j : Nat} (hd : d < 4294967296) : mca P d C i j < 4294967296 := by
  unfold mca
  rw [Nat.div_lt_iff_lt_mul (Bpow_pos _)]
  have h1 := Nat.mod_lt P (Bpow_pos (i + j))
  have h2 := Nat.mod_lt C (Bpow_pos j)
  have h3 : d * (C % 4294967296 ^ j) * 4294967296 ^ i ≤ 4294967295 * (4294967296 ^ j) * 4294967296 ^ i := Nat.mul_le_mul_right _ (Nat.mul_le_mul (by omega) (Nat.le_of_lt h2))
  have h4 : 4294967295 * (4294967296 ^ j) * 4294967296 ^ i = 4294967295 * 4294967296 ^ (i + j) := by rw [Nat.pow_add]; ac_rfl
  omega
/-- The row's end. -/
theorem mca_end {P d C i k : Nat} (hC : C < 4294967296 ^ k) (hP : P < 4294967296 ^ (i + k)) (hd : d < 4294967296) : mca P d C i k = dig (P + d * C * 4294967296 ^ i) (i + k) ∧ P + d * C * 4294967296 ^ i < 4294967296 ^ (i + k + 1) := by
  have h3 : d * C * 4294967296 ^ i ≤ 4294967295 * (4294967296 ^ k) * 4294967296 ^ i := Nat.mul_le_mul_right _ (Nat.mul_le_mul (by omega) (Nat.le_of_lt hC))
  have h4 : 4294967295 * (4294967296 ^ k) * 4294967296 ^ i = 4294967295 * 4294967296 ^ (i + k) := by rw [Nat.pow_add]; ac_rfl
  have h5 : P + d * C * 4294967296 ^ i < 4294967296 ^ (i + k + 1) := by rw [Nat.pow_succ]; omega
  refine ⟨?_, h5⟩
  unfold mca
  rw [Nat.mod_eq_of_lt hP, Nat.mod_eq_of_lt hC, top_dig h5]
/-- Row by row. -/
theorem prod_step (A C i : Nat) : A % 4294967296 ^ (i + 1) * C = A % 4294967296 ^ i * C + dig A i * C * 4294967296 ^ i := by
  rw [mod_succ, Nat.add_mul]
  congr 1
  ac_rfl
theorem prod_lt {A C i k : Nat} (hC : C < 4294967296 ^ k) : A % 4294967296 ^ i * C < 4294967296 ^ (i + k) := by
  have h1 := Nat.mod_lt A (Bpow_pos i)
  rw [Nat.pow_add]
  exact Nat.mul_lt_mul'' h1 hC
theorem prod_low {P Q i u : Nat} (h : u < i) : dig (P + Q * 4294967296 ^ i) u = dig P u := by
  unfold dig
  obtain ⟨d, rfl⟩ : ∃ d, i = u + 1 + d := ⟨i - (u + 1), by omega⟩
  have e : Q * 4294967296 ^ (u + 1 + d) = 4294967296 ^ u * (4294967296 * (Q * 4294967296 ^ d)) := by rw [Nat.pow_add, Nat.pow_succ]; ac_rfl
  rw [e, Nat.add_mul_div_left _ _ (Bpow_pos u), Nat.add_mul_mod_self_left]
end Go.Proofs.Ytnikbaibchgmnaa
