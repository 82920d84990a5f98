/-
  Whole numbers as lists of 32 bits each.
-/
namespace Go.Proofs.Ytnikbaibchgmnaa

/-- The j-th digit of 32 bits. -/
def dig (X j : Nat) : Nat := X / 4294967296 ^ j % 4294967296
/-- The lowest k digits. -/
def ds (X k : Nat) : List Nat := (List.range k).map (dig X)
theorem ds_length (X k : Nat) : (ds X k).length = k := by simp [ds]
theorem ds_succ (X k : Nat) : ds X (k + 1) = ds X k ++ [dig X k] := by simp [ds, List.range_succ]
theorem ds_zero (X : Nat) : ds X 0 = [] := rfl
theorem ds_getD (X k i : Nat) (h : i < k) : (ds X k).getD i 0 = dig X i := by simp [ds, List.getD, h]
theorem dig_lt (X j : Nat) : dig X j < 4294967296 := Nat.mod_lt _ (by decide)
theorem Bpow_pos (k : Nat) : 0 < 4294967296 ^ k := Nat.pow_pos (by decide)
theorem dig_big {X k : Nat} (h : X < 4294967296 ^ k) {j : Nat} (hj : k ≤ j) : dig X j = 0 := by
  unfold dig
  rw [Nat.div_eq_of_lt (Nat.lt_of_lt_of_le h (Nat.pow_le_pow_right (by decide) hj))]
theorem dig_mod (X j : Nat) : X % 4294967296 ^ (j + 1) / 4294967296 ^ j = dig X j := by
  unfold dig
  rw [Nat.pow_succ, Nat.mod_mul_right_div_self]
theorem mod_succ (X j : Nat) : X % 4294967296 ^ (j + 1) = X % 4294967296 ^ j + 4294967296 ^ j * dig X j := by
  unfold dig; rw [Nat.pow_succ, Nat.mod_mul]
/-- The top digit is no 0. -/
theorem top_dig {X k : Nat} (h : X < 4294967296 ^ (k + 1)) : dig X k = X / 4294967296 ^ k := by
  unfold dig
  refine Nat.mod_eq_of_lt ?_
  rw [Nat.div_lt_iff_lt_mul (Bpow_pos k), Nat.mul_comm, ← Nat.pow_succ]
  exact h
theorem lt_of_top {X k : Nat} (h : X < 4294967296 ^ (k + 1)) (h0 : dig X k = 0) : X < 4294967296 ^ k := by
  rw [top_dig h] at h0
  rcases Nat.lt_or_ge X (4294967296 ^ k) with h1 | h1
  · exact h1
  · have := (Nat.le_div_iff_mul_le (Bpow_pos k)).2 (show 1 * 4294967296 ^ k ≤ X by omega)
    omega
theorem ge_of_top {X k : Nat} (h : X < 4294967296 ^ (k + 1)) (h0 : dig X k ≠ 0) : 4294967296 ^ k ≤ X := by
  rw [top_dig h] at h0
  rcases Nat.lt_or_ge X (4294967296 ^ k) with h1 | h1
  · exact absurd (Nat.div_eq_of_lt h1) h0
  · exact h1

/-- The carry of a sum. -/
def car (A C j : Nat) : Nat := (A % 4294967296 ^ j + C % 4294967296 ^ j) / 4294967296 ^ j
theorem car_zero (A C : Nat) : car A C 0 = 0 := by simp [car, Nat.mod_one]
theorem car_le (A C j : Nat) : car A C j ≤ 1 := by
  unfold car
  have h1 := Nat.mod_lt A (Bpow_pos j)
  have h2 := Nat.mod_lt C (Bpow_pos j)
  have : (A % 4294967296 ^ j + C % 4294967296 ^ j) / 4294967296 ^ j < 2 := by
    rw [Nat.div_lt_iff_lt_mul (Bpow_pos j)]; omega
  omega
theorem add_step (A C j : Nat) : car A C j + dig A j + dig C j = (A % 4294967296 ^ (j + 1) + C % 4294967296 ^ (j + 1)) / 4294967296 ^ j := by
  rw [mod_succ, mod_succ, show A % 4294967296 ^ j + 4294967296 ^ j * dig A j + (C % 4294967296 ^ j + 4294967296 ^ j * dig C j) = (A % 4294967296 ^ j + C % 4294967296 ^ j) + 4294967296 ^ j * (dig A j + dig C j) from by rw [Nat.mul_add]; omega,
    Nat.add_mul_div_left _ _ (Bpow_pos j)]
  unfold car; omega
theorem add_dig (A C j : Nat) : (car A C j + dig A j + dig C j) % 4294967296 = dig (A + C) j := by
  rw [add_step, ← dig_mod, Nat.add_mod A C]
  generalize A % 4294967296 ^ (j + 1) + C % 4294967296 ^ (j + 1) = Y
  rw [dig_mod]; rfl
theorem add_car (A C j : Nat) : (car A C j + dig A j + dig C j) / 4294967296 = car A C (j + 1) := by
  rw [add_step, Nat.div_div_eq_div_mul, ← Nat.pow_succ]; rfl
theorem car_end {A C k : Nat} (hA : A < 4294967296 ^ k) (hC : C < 4294967296 ^ k) : car A C k = dig (A + C) k := by
  unfold car
  rw [Nat.mod_eq_of_lt hA, Nat.mod_eq_of_lt hC]
  refine (top_dig ?_).symm
  rw [Nat.pow_succ]; omega

/-- What was lent. -/
def len (A C j : Nat) : Nat := if A % 4294967296 ^ j < C % 4294967296 ^ j then 1 else 0
theorem len_zero (A C : Nat) : len A C 0 = 0 := by simp [len, Nat.mod_one]
theorem len_le (A C j : Nat) : len A C j ≤ 1 := by unfold len; split <;> omega
/-- Both ways of a difference's step. -/
theorem sub_step (A C j : Nat) (h : C ≤ A) :
    (dig A j < dig C j + len A C j → len A C (j + 1) = 1 ∧ dig A j + 4294967296 - (len A C j + dig C j) = dig (A - C) j) ∧ (¬ dig A j < dig C j + len A C j → len A C (j + 1) = 0 ∧ dig A j - (len A C j + dig C j) = dig (A - C) j) := by
  have hB := Bpow_pos j
  have a1 := Nat.mod_lt A hB
  have c1 := Nat.mod_lt C hB
  have da := dig_lt A j
  have dc := dig_lt C j
  have key : ∀ l d, len A C j = l → (A - C) % 4294967296 ^ (j + 1) = A % 4294967296 ^ j + 4294967296 ^ j * l - C % 4294967296 ^ j + 4294967296 ^ j * d → d < 4294967296 → dig (A - C) j = d := by
    intro l d hl h1 _
    rw [← dig_mod, h1]
    have hr : A % 4294967296 ^ j + 4294967296 ^ j * l - C % 4294967296 ^ j < 4294967296 ^ j := by
      rw [← hl]; unfold len; split <;> omega
    rw [Nat.add_mul_div_left _ _ hB, Nat.div_eq_of_lt hr, Nat.zero_add]
  have ma := mod_succ A j
  have mc := mod_succ C j
  have M1 := Nat.mod_lt A (Bpow_pos (j + 1))
  have M2 := Nat.mod_lt C (Bpow_pos (j + 1))
  have hM : 4294967296 ^ (j + 1) = 4294967296 ^ j * 4294967296 := Nat.pow_succ ..
  -- the difference, modulo
  have hmod : (A - C) % 4294967296 ^ (j + 1) = if A % 4294967296 ^ (j + 1) < C % 4294967296 ^ (j + 1) then A % 4294967296 ^ (j + 1) + 4294967296 ^ (j + 1) - C % 4294967296 ^ (j + 1) else A % 4294967296 ^ (j + 1) - C % 4294967296 ^ (j + 1) := by
    obtain ⟨D, rfl⟩ : ∃ D, A = C + D := ⟨A - C, by omega⟩
    rw [Nat.add_sub_cancel_left]
    have hd := Nat.mod_lt D (Bpow_pos (j + 1))
    have e := Nat.add_mod C D (4294967296 ^ (j + 1))
    generalize 4294967296 ^ (j + 1) = M at *
    generalize C % M = x at *
    generalize D % M = y at *
    rw [e]
    by_cases hxy : x + y < M
    · rw [Nat.mod_eq_of_lt hxy, if_neg (by omega)]; omega
    · rw [Nat.mod_eq_sub_mod (by omega), Nat.mod_eq_of_lt (by omega), if_pos (by omega)]; omega
  have lenJ : len A C j = if A % 4294967296 ^ j < C % 4294967296 ^ j then 1 else 0 := rfl
  have lenS : len A C (j + 1) = if A % 4294967296 ^ (j + 1) < C % 4294967296 ^ (j + 1) then 1 else 0 := rfl
  generalize dig A j = x at *
  generalize dig C j = y at *
  generalize len A C j = l at *
  generalize len A C (j + 1) = l2 at *
  generalize A % 4294967296 ^ (j + 1) = P at *
  generalize C % 4294967296 ^ (j + 1) = Q at *
  generalize A % 4294967296 ^ j = p at *
  generalize C % 4294967296 ^ j = q at *
  generalize 4294967296 ^ (j + 1) = M at *
  generalize 4294967296 ^ j = b at *
  have hl : l = 0 ∨ l = 1 := by rw [lenJ]; split <;> omega
  constructor
  · intro hlt
    have hPQ : P < Q := by
      rw [ma, mc]
      rcases hl with rfl | rfl
      · have := Nat.mul_le_mul_left b (show x + 1 ≤ y by omega)
        rw [Nat.mul_add, Nat.mul_one] at this
        omega
      · have := Nat.mul_le_mul_left b (show x ≤ y by omega)
        have : p < q := by split at lenJ <;> omega
        omega
    rw [if_pos hPQ] at lenS hmod
    refine ⟨lenS, (key l _ rfl ?_ (by omega)).symm⟩
    rw [hmod, ma, mc, hM]
    obtain ⟨z, hz⟩ : ∃ z, x + 4294967296 = l + y + z := ⟨x + 4294967296 - (l + y), by omega⟩
    rw [show x + 4294967296 - (l + y) = z from by omega]
    have e1 := congrArg (b * ·) hz
    simp only [Nat.mul_add] at e1
    have : q ≤ p + b * l := by
      rcases hl with rfl | rfl
      · split at lenJ <;> omega
      · omega
    omega
  · intro hnl
    have hPQ : ¬ P < Q := by
      rw [ma, mc]
      rcases hl with rfl | rfl
      · have := Nat.mul_le_mul_left b (show y ≤ x by omega)
        have : ¬ p < q := by split at lenJ <;> omega
        omega
      · have := Nat.mul_le_mul_left b (show y + 1 ≤ x by omega)
        rw [Nat.mul_add, Nat.mul_one] at this
        omega
    rw [if_neg hPQ] at lenS hmod
    refine ⟨lenS, (key l _ rfl ?_ (by omega)).symm⟩
    rw [hmod, ma, mc]
    obtain ⟨z, hz⟩ : ∃ z, x = l + y + z := ⟨x - (l + y), by omega⟩
    rw [show x - (l + y) = z from by omega]
    have e1 := congrArg (b * ·) hz
    simp only [Nat.mul_add] at e1
    have : q ≤ p + b * l := by
      rcases hl with rfl | rfl
      · split at lenJ <;> omega
      · omega
    omega

/-- What a shift carries. -/
def shc (A r i : Nat) : Nat := A % 4294967296 ^ i * 2 ^ r / 4294967296 ^ i
theorem shc_zero (A r : Nat) : shc A r 0 = 0 := by simp [shc, Nat.mod_one]
theorem shc_lt (A r i : Nat) : shc A r i < 2 ^ r := by
  unfold shc
  rw [Nat.div_lt_iff_lt_mul (Bpow_pos i), Nat.mul_comm]
  exact Nat.mul_lt_mul_of_pos_left (Nat.mod_lt A (Bpow_pos i)) (Nat.two_pow_pos r)
theorem sh_step (A r i : Nat) : dig A i * 2 ^ r + shc A r i = A % 4294967296 ^ (i + 1) * 2 ^ r / 4294967296 ^ i := by
  rw [mod_succ, Nat.add_mul, Nat.mul_assoc, Nat.add_mul_div_left _ _ (Bpow_pos i)]
  unfold shc; omega
theorem sh_dig (A r i : Nat) : (dig A i * 2 ^ r + shc A r i) % 4294967296 = dig (A * 2 ^ r) i := by
  rw [sh_step, ← dig_mod, Nat.mul_mod A (2 ^ r)]
  have : (A % 4294967296 ^ (i + 1) * 2 ^ r) % 4294967296 ^ (i + 1) = (A % 4294967296 ^ (i + 1) * (2 ^ r % 4294967296 ^ (i + 1))) % 4294967296 ^ (i + 1) := by
    rw [Nat.mul_mod, Nat.mod_mod]
  rw [← this, dig_mod]; rfl
theorem sh_car (A r i : Nat) : (dig A i * 2 ^ r + shc A r i) / 4294967296 = shc A r (i + 1) := by
  rw [sh_step, Nat.div_div_eq_div_mul, ← Nat.pow_succ]; rfl
theorem shc_end {A r k : Nat} (hA : A < 4294967296 ^ k) (hr : r ≤ 32) : shc A r k = dig (A * 2 ^ r) k ∧ A * 2 ^ r < 4294967296 ^ (k + 1) := by
  have hp : 2 ^ r ≤ 4294967296 := Nat.le_trans (Nat.pow_le_pow_right (by decide) hr) (by decide)
  have h : A * 2 ^ r < 4294967296 ^ (k + 1) := by
    rw [Nat.pow_succ]
    exact Nat.lt_of_lt_of_le (Nat.mul_lt_mul_of_pos_right hA (Nat.two_pow_pos r)) (Nat.mul_le_mul_left _ hp)
  refine ⟨?_, h⟩
  unfold shc
  rw [Nat.mod_eq_of_lt hA, top_dig h]
/-- Digits behind zeros. -/
theorem dig_shift (X q j : Nat) : dig (X * 4294967296 ^ q) (q + j) = dig X j := by
  unfold dig
  rw [Nat.pow_add, Nat.mul_comm (4294967296 ^ q), Nat.mul_div_mul_right _ _ (Bpow_pos q)]
theorem dig_shift0 (X q j : Nat) (h : j < q) : dig (X * 4294967296 ^ q) j = 0 := by
  unfold dig
  obtain ⟨d, rfl⟩ : ∃ d, q = j + 1 + d := ⟨q - (j + 1), by omega⟩
  have e : X * 4294967296 ^ (j + 1 + d) = X * 4294967296 ^ d * 4294967296 * 4294967296 ^ j := by rw [Nat.pow_add, Nat.pow_succ]; ac_rfl
  rw [e, Nat.mul_div_cancel _ (Bpow_pos j), Nat.mul_mod_left]
end Go.Proofs.Ytnikbaibchgmnaa
