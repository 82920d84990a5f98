/-
  Rounding goes to the nearer one; the whole root.
-/
import Derived.Test.YtnikbaibchgmnaaVal
namespace Go.Proofs.Ytnikbaibchgmnaa
open Go.RowKit Ieee

theorem up_next (r : Nat) : up (r + 1) = (mg r + 1) * 2 ^ kx r := by
  rw [up_eq]
  unfold mg kx
  by_cases h : r + 1 < 4503599627370496
  · rw [if_pos h, if_pos h, if_pos (by omega), if_pos (by omega)]
  · by_cases h2 : r < 4503599627370496
    · obtain rfl : r = 4503599627370495 := by omega
      decide
    · rw [if_neg h, if_neg h, if_neg h2, if_neg h2]
      obtain ⟨q, hq⟩ : ∃ q, r / 4503599627370496 = q := ⟨_, rfl⟩
      obtain ⟨f, hf⟩ : ∃ f, r % 4503599627370496 = f := ⟨_, rfl⟩
      by_cases h3 : f + 1 < 4503599627370496
      · have e1 : (r + 1) / 4503599627370496 = q := by omega
        have e2 : (r + 1) % 4503599627370496 = f + 1 := by omega
        rw [hq, hf, e1, e2, Nat.add_assoc]
      · have e1 : (r + 1) / 4503599627370496 = q + 1 := by omega
        have e2 : (r + 1) % 4503599627370496 = 0 := by omega
        have hq1 : 1 ≤ q := by omega
        have e3 : (2 : Nat) ^ (q + 1 - 1) = 2 * 2 ^ (q - 1) := by rw [show q + 1 - 1 = (q - 1) + 1 from by omega, Nat.pow_succ, Nat.mul_comm]
        have hf2 : f = 4503599627370495 := by omega
        rw [hq, hf, e1, e2, e3, ← Nat.mul_assoc, hf2]
theorem rung_eq (r : Nat) : kx r * 4503599627370496 + mg r = r := by
  unfold mg kx
  split <;> omega
/-- Between two rungs. -/
theorem R_between {n s r : Nat} (h1 : mg r * 2 ^ (kx r + s) ≤ n) (h2 : n < (mg r + 1) * 2 ^ (kx r + s)) (hn : n ≠ 0) : R n s = min (kx r * 4503599627370496 + RN n (kx r + s)) 9218868437227405312 ∧ n / 2 ^ (kx r + s) = mg r := by
  have hp := Nat.two_pow_pos (kx r + s)
  have hd : n / 2 ^ (kx r + s) = mg r := by
    rw [Nat.div_eq_iff hp]
    rw [Nat.add_mul] at h2
    omega
  refine ⟨?_, hd⟩
  have hD : max (n.log2 - 52) s = kx r + s := by
    by_cases h : r < 4503599627370496
    · have hk : kx r = 0 := by unfold kx; rw [if_pos h]
      have hm : mg r = r := by unfold mg; rw [if_pos h]
      rw [hk, Nat.zero_add] at h2 ⊢
      rw [hm] at h2
      have : n < 2 ^ (52 + s) := by
        rw [Nat.pow_add]
        exact Nat.lt_of_lt_of_le h2 (Nat.mul_le_mul_right _ (by omega))
      have := (Nat.log2_lt hn).2 this
      omega
    · have hm : 4503599627370496 ≤ mg r := by unfold mg; rw [if_neg h]; omega
      have hm2 := mg_lt r
      have : n.log2 = 52 + (kx r + s) := by
        refine log2_of ?_ ?_
        · rw [Nat.pow_add]; exact Nat.le_trans (Nat.mul_le_mul_right _ hm) h1
        · rw [show 52 + (kx r + s) + 1 = 53 + (kx r + s) from by omega, Nat.pow_add]
          exact Nat.lt_of_lt_of_le h2 (Nat.mul_le_mul_right _ (by omega))
      omega
  unfold R
  rw [hD, Nat.add_sub_cancel]
theorem R_lt_half {n s r : Nat} (hr : r ≤ 9218868437227405312) (h : 2 * n < (up r + up (r + 1)) * 2 ^ s) : R n s ≤ r := by
  by_cases h1 : n ≤ up r * 2 ^ s
  · exact R_le' hr h1
  · have e1 : up r * 2 ^ s = mg r * 2 ^ (kx r + s) := by rw [up_eq, Nat.mul_assoc, Nat.pow_add]
    have e2 : up (r + 1) * 2 ^ s = (mg r + 1) * 2 ^ (kx r + s) := by rw [up_next, Nat.mul_assoc, Nat.pow_add]
    rw [Nat.add_mul] at h
    obtain ⟨hR, hd⟩ := R_between (n := n) (s := s) (r := r) (by omega) (by rw [e1, e2, Nat.add_mul] at h; rw [Nat.add_mul]; omega) (by omega)
    have hm := Nat.div_add_mod n (2 ^ (kx r + s))
    rw [hd] at hm
    rw [hR]
    have : RN n (kx r + s) = mg r := by
      unfold RN
      rw [hd, if_neg]
      · rfl
      · rw [e1, e2, Nat.add_mul, Nat.one_mul] at h
        rw [Nat.mul_comm] at hm
        omega
    rw [this, rung_eq]
    exact Nat.min_le_left ..
theorem R_gt_half {n s r : Nat} (hr : r + 1 ≤ 9218868437227405312) (h : (up r + up (r + 1)) * 2 ^ s < 2 * n) : r + 1 ≤ R n s := by
  by_cases h1 : up (r + 1) * 2 ^ s ≤ n
  · exact R_ge hr h1
  · have e1 : up r * 2 ^ s = mg r * 2 ^ (kx r + s) := by rw [up_eq, Nat.mul_assoc, Nat.pow_add]
    have e2 : up (r + 1) * 2 ^ s = (mg r + 1) * 2 ^ (kx r + s) := by rw [up_next, Nat.mul_assoc, Nat.pow_add]
    rw [Nat.add_mul] at h
    have hp := Nat.two_pow_pos (kx r + s)
    obtain ⟨hR, hd⟩ := R_between (n := n) (s := s) (r := r) (by rw [e1, e2, Nat.add_mul] at h; rw [e2, Nat.add_mul] at h1; omega) (by omega) (by omega)
    have hm := Nat.div_add_mod n (2 ^ (kx r + s))
    rw [hd] at hm
    rw [hR]
    have : RN n (kx r + s) = mg r + 1 := by
      unfold RN
      rw [hd, if_pos]
      left
      rw [e1, e2, Nat.add_mul, Nat.one_mul] at h
      rw [Nat.mul_comm] at hm
      omega
    rw [this, ← Nat.add_assoc, rung_eq]
    exact Nat.le_min.2 ⟨Nat.le_refl _, hr⟩

/-- The whole root. -/
theorem rootFrom_spec (n : Nat) : ∀ todo root, root * root ≤ n → n < (root + 2 ^ todo) * (root + 2 ^ todo) → (Datum.rootFrom n todo root) * (Datum.rootFrom n todo root) ≤ n ∧ n < (Datum.rootFrom n todo root + 1) * (Datum.rootFrom n todo root + 1) := by
  intro todo
  induction todo with
  | zero => intro root h1 h2; exact ⟨h1, by simpa [Datum.rootFrom] using h2⟩
  | succ t ih =>
    intro root h1 h2
    unfold Datum.rootFrom
    simp only [Nat.shiftLeft_eq, Nat.one_mul]
    split
    · rename_i h
      refine ih _ h ?_
      rw [Nat.add_assoc, ← Nat.two_mul, Nat.mul_comm 2, ← Nat.pow_succ]
      exact h2
    · rename_i h
      exact ih _ h1 (by omega)
theorem root_spec (n : Nat) : (Datum.rootFrom n (n.log2 / 2 + 1) 0) * (Datum.rootFrom n (n.log2 / 2 + 1) 0) ≤ n ∧ n < (Datum.rootFrom n (n.log2 / 2 + 1) 0 + 1) * (Datum.rootFrom n (n.log2 / 2 + 1) 0 + 1) := by
  refine rootFrom_spec n _ 0 (Nat.zero_le _) ?_
  rw [Nat.zero_add, ← Nat.pow_add]
  by_cases hn : n = 0
  · subst hn; exact Nat.two_pow_pos _
  · exact Nat.lt_of_lt_of_le (log2_lt' hn) (Nat.pow_le_pow_right (by decide) (by omega))
end Go.Proofs.Ytnikbaibchgmnaa
