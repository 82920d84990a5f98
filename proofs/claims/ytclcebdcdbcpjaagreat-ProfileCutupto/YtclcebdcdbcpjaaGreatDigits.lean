/-
  The digits of a form. (No Go in sight.)
-/
import Derived.Test.YtclcebdcdbcpjaaGreatMath
namespace Go.Proofs.YtclcebdcdbcpjaaGreat.Wm
open Go

/-- The j-th byte of the form of x. -/
def udig (f x j : Nat) : Nat := if j + 1 = ulen f x then x / 128 ^ j else x / 128 ^ j % 128 + 128

theorem udig_get : ∀ (f x : Nat), x < 128 * 128 ^ f → ∀ j, j < ulen f x → (uform f x).getD j 0 = ((udig f x j : Nat) : Int) := by
  intro f
  induction f with
  | zero =>
    intro x _ j hj
    simp only [ulen] at hj
    obtain rfl : j = 0 := by omega
    simp [uform, udig, ulen]
  | succ f ih =>
    intro x hx j hj
    by_cases hl : x < 128
    · simp only [ulen, if_pos hl] at hj
      obtain rfl : j = 0 := by omega
      simp [uform, udig, ulen, hl]
    · have hb := ulen_bd f (x / 128)
      have e1 : ulen (f + 1) x = 1 + ulen f (x / 128) := by rw [ulen, if_neg hl]
      have e2 : uform (f + 1) x = ((x % 128 + 128 : Nat) : Int) :: uform f (x / 128) := by rw [uform, if_neg hl]
      rw [e2]
      cases j with
      | zero =>
        rw [List.getD_cons_zero, udig, e1, if_neg (by omega)]; simp
      | succ j =>
        rw [List.getD_cons_succ, ih (x / 128) (by rw [Nat.pow_succ] at hx; omega) j (by omega)]
        unfold udig
        rw [e1, Nat.div_div_eq_div_mul, ← Nat.pow_succ']
        by_cases hc : j + 1 = ulen f (x / 128)
        · rw [if_pos hc, if_pos (by omega)]
        · rw [if_neg hc, if_neg (by omega)]

theorem udig_last : ∀ (f x : Nat), x < 128 * 128 ^ f → ∀ j, j + 1 = ulen f x → x / 128 ^ j < 128 ∧ (0 < j → 0 < x / 128 ^ j) := by
  intro f
  induction f with
  | zero =>
    intro x hx j hj
    simp only [ulen] at hj
    obtain rfl : j = 0 := by omega
    simp only [Nat.pow_zero, Nat.mul_one] at hx
    exact ⟨by simpa using hx, by omega⟩
  | succ f ih =>
    intro x hx j hj
    by_cases hl : x < 128
    · simp only [ulen, if_pos hl] at hj
      obtain rfl : j = 0 := by omega
      exact ⟨by simpa using hl, by omega⟩
    · rw [ulen, if_neg hl] at hj
      have hb := ulen_bd f (x / 128)
      obtain ⟨i, rfl⟩ : ∃ i, j = i + 1 := ⟨j - 1, by omega⟩
      have := ih (x / 128) (by rw [Nat.pow_succ] at hx; omega) i (by omega)
      rw [Nat.div_div_eq_div_mul, ← Nat.pow_succ'] at this
      refine ⟨this.1, fun _ => ?_⟩
      by_cases hi : 0 < i
      · exact this.2 hi
      · obtain rfl : i = 0 := by omega
        simp; omega

theorem udig_end (f x : Nat) (hx : x < 128 * 128 ^ f) : x / 128 ^ (ulen f x) = 0 := by
  have hb := ulen_bd f x
  obtain ⟨j, hj⟩ : ∃ j, j + 1 = ulen f x := ⟨ulen f x - 1, by omega⟩
  have := (udig_last f x hx j hj).1
  rw [← hj, Nat.pow_succ, ← Nat.div_div_eq_div_mul]
  exact Nat.div_eq_of_lt this

theorem fits9 (x : Nat) (h : x < 2 ^ 64) : x < 128 * 128 ^ 9 := by simp only [Nat.reducePow, Nat.reduceMul] at h ⊢; omega
end Go.Proofs.YtclcebdcdbcpjaaGreat.Wm
