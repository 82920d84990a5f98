/-
  Quotients and roots by what they stand for.
-/
import Derived.Test.YtnikbaibchgmnaaRoot
namespace Go.Proofs.Ytnikbaibchgmnaa
open Go.RowKit Ieee

theorem mid_eq (t : Nat) : up t + up (t + 1) = (2 * mg t + 1) * 2 ^ kx t := by
  rw [up_next, up_eq, ← Nat.add_mul, show mg t + (mg t + 1) = 2 * mg t + 1 from by omega]
theorem R_le_iff {n s t : Nat} (ht : t < 9218868437227405312) : R n s ≤ t ↔ 2 * n < (up t + up (t + 1)) * 2 ^ s ∨ (2 * n = (up t + up (t + 1)) * 2 ^ s ∧ t % 2 = 0) := by
  rcases Nat.lt_trichotomy (2 * n) ((up t + up (t + 1)) * 2 ^ s) with h | h | h
  · exact ⟨fun _ => .inl h, fun _ => R_lt_half (by omega) h⟩
  · have e : 2 * n = (2 * mg t + 1) * 2 ^ (kx t + s) := by rw [h, mid_eq, Nat.mul_assoc, ← Nat.pow_add]
    have hp := Nat.two_pow_pos (kx t + s)
    have e2 : (2 * mg t + 1) * 2 ^ (kx t + s) = 2 * (mg t * 2 ^ (kx t + s)) + 2 ^ (kx t + s) := by rw [Nat.add_mul, Nat.one_mul, Nat.mul_assoc]
    obtain ⟨hR, hd⟩ := R_between (n := n) (s := s) (r := t) (by omega) (by rw [Nat.add_mul]; omega) (by omega)
    have hm := Nat.div_add_mod n (2 ^ (kx t + s))
    rw [hd, Nat.mul_comm] at hm
    have par : t % 2 = mg t % 2 := by have := rung_eq t; omega
    have hRN : RN n (kx t + s) = mg t + (if mg t % 2 = 1 then 1 else 0) := by
      unfold RN
      rw [hd]
      congr 1
      have hh : ¬ 2 ^ (kx t + s) < 2 * (n % 2 ^ (kx t + s)) := by omega
      have hq : 2 ^ (kx t + s) = 2 * (n % 2 ^ (kx t + s)) := by omega
      by_cases ho : mg t % 2 = 1
      · rw [if_pos (.inr ⟨hq, ho⟩), if_pos ho]
      · rw [if_neg, if_neg ho]
        rintro (h1 | ⟨_, h2⟩)
        · exact hh h1
        · exact ho h2
    rw [hR, hRN, ← Nat.add_assoc, rung_eq]
    constructor
    · intro hle
      right
      refine ⟨h, ?_⟩
      by_cases ho : mg t % 2 = 1
      · rw [if_pos ho, Nat.min_eq_left (show t + 1 ≤ 9218868437227405312 from ht)] at hle; omega
      · omega
    · rintro (h1 | ⟨_, h2⟩)
      · omega
      · rw [if_neg (by omega)]; exact Nat.min_le_left ..
  · refine ⟨fun hle => ?_, fun h' => by omega⟩
    have := R_gt_half (by omega) h
    omega
/-- What decides between rungs decides the rung. -/
theorem rung_ext {r r' : Nat} (h1 : r ≤ 9218868437227405312) (h2 : r' ≤ 9218868437227405312) (h : ∀ t, t < 9218868437227405312 → (r ≤ t ↔ r' ≤ t)) : r = r' := by
  rcases Nat.lt_trichotomy r r' with h3 | h3 | h3
  · have := (h r (by omega)).1 (Nat.le_refl _); omega
  · exact h3
  · have := (h r' (by omega)).2 (Nat.le_refl _); omega

/-- A quotient with a digit for the rest, held against an even number. -/
theorem sticky_lt (X n Y : Nat) (hn : 0 < n) : 2 * (X / n) + (X % n != 0).toNat < 2 * Y ↔ X < Y * n := by
  have hm := Nat.div_add_mod X n
  have hl := Nat.mod_lt X hn
  have hb : (X % n != 0).toNat ≤ 1 := Bool.toNat_le _
  constructor
  · intro h
    have h1 : X / n + 1 ≤ Y := by omega
    have := Nat.mul_le_mul_right n h1
    rw [Nat.add_mul, Nat.one_mul, Nat.mul_comm] at this
    omega
  · intro h
    have : X / n < Y := (Nat.div_lt_iff_lt_mul hn).2 h
    omega
theorem sticky_eq (X n Y : Nat) (hn : 0 < n) : 2 * (X / n) + (X % n != 0).toNat = 2 * Y ↔ X = Y * n := by
  have hm := Nat.div_add_mod X n
  have hb : (X % n != 0).toNat ≤ 1 := Bool.toNat_le _
  constructor
  · intro h
    have h1 : (X % n != 0) = false := by
      cases h2 : (X % n != 0)
      · rfl
      · rw [h2] at h; simp at h; omega
    have h2 : X % n = 0 := by simpa using h1
    rw [h1] at h
    have h3 : X / n = Y := by simp at h; omega
    rw [h2, h3] at hm
    rw [Nat.mul_comm]; omega
  · rintro rfl
    rw [Nat.mul_div_cancel _ hn, Nat.mul_mod_left]
    rfl

/-- Rounding of X over n (times 2^K over 2^S) by its digits: where there are digits enough, all is decided by X and n. -/
theorem R_sticky {X n K S t : Nat} (hn : 0 < n) (ht : t < 9218868437227405312) (hbig : 9007199254740992 * n ≤ X) :
    R ((2 * (X / n) + (X % n != 0).toNat) * 2 ^ K) S ≤ t ↔ X * 2 ^ (K + 2) < (up t + up (t + 1)) * 2 ^ S * n ∨ (X * 2 ^ (K + 2) = (up t + up (t + 1)) * 2 ^ S * n ∧ t % 2 = 0) := by
  rw [R_le_iff ht]
  have hq : 9007199254740992 ≤ X / n := (Nat.le_div_iff_mul_le hn).2 hbig
  have hM := mg_lt t
  have e1 : (up t + up (t + 1)) * 2 ^ S = (2 * mg t + 1) * 2 ^ (kx t + S) := by rw [mid_eq, Nat.mul_assoc, ← Nat.pow_add]
  rw [e1]
  by_cases hk : K + 2 ≤ kx t + S
  · obtain ⟨j, hj⟩ : ∃ j, kx t + S = K + 2 + j := ⟨kx t + S - (K + 2), by omega⟩
    rw [hj]
    obtain ⟨Y, hY⟩ : ∃ Y, (2 * mg t + 1) * 2 ^ j = Y := ⟨_, rfl⟩
    have e2 : (2 * mg t + 1) * 2 ^ (K + 2 + j) = 2 * (2 * Y * 2 ^ K) := by
      have h4 : (2 : Nat) ^ (K + 2) = 4 * 2 ^ K := by rw [Nat.pow_add, Nat.mul_comm]
      rw [Nat.add_comm (K + 2) j, Nat.pow_add 2 j, ← Nat.mul_assoc, hY, h4]
      generalize 2 ^ K = P
      rw [Nat.mul_left_comm, Nat.mul_assoc 2 Y]
      omega
    have hp := Nat.two_pow_pos K
    have e3 : X * 2 ^ (K + 2) = 2 * (2 * (X * 2 ^ K)) := by
      have h4 : (2 : Nat) ^ (K + 2) = 4 * 2 ^ K := by rw [Nat.pow_add, Nat.mul_comm]
      rw [h4, Nat.mul_left_comm]
      omega
    have e4 : 2 * (2 * Y * 2 ^ K) * n = 2 * (2 * (Y * n * 2 ^ K)) := by
      rw [Nat.mul_assoc 2, Nat.mul_assoc 2, Nat.mul_assoc 2, Nat.mul_right_comm Y]
    rw [e2, e3, e4]
    have s1 := sticky_lt X n Y hn
    have s2 := sticky_eq X n Y hn
    generalize 2 * (X / n) + (X % n != 0).toNat = W at *
    have c1 : 2 * (W * 2 ^ K) < 2 * (2 * Y * 2 ^ K) ↔ W < 2 * Y := by
      rw [Nat.mul_lt_mul_left (by decide), Nat.mul_lt_mul_right hp]
    have c2 : 2 * (W * 2 ^ K) = 2 * (2 * Y * 2 ^ K) ↔ W = 2 * Y := by
      rw [Nat.mul_right_inj (by decide), Nat.mul_left_inj (by omega)]
    have c3 : 2 * (2 * (X * 2 ^ K)) < 2 * (2 * (Y * n * 2 ^ K)) ↔ X < Y * n := by
      rw [Nat.mul_lt_mul_left (by decide), Nat.mul_lt_mul_left (by decide), Nat.mul_lt_mul_right hp]
    have c4 : 2 * (2 * (X * 2 ^ K)) = 2 * (2 * (Y * n * 2 ^ K)) ↔ X = Y * n := by
      rw [Nat.mul_right_inj (by decide), Nat.mul_right_inj (by decide), Nat.mul_left_inj (by omega)]
    rw [c1, c2, c3, c4, s1, s2]
  · -- the place is too low
    obtain ⟨j, hj⟩ : ∃ j, K + 1 = kx t + S + j := ⟨K + 1 - (kx t + S), by omega⟩
    have hp := Nat.two_pow_pos (kx t + S)
    have hpj := Nat.two_pow_pos j
    have big1 : (2 * mg t + 1) * 2 ^ (kx t + S) < 2 * ((2 * (X / n) + (X % n != 0).toNat) * 2 ^ K) := by
      have : 2 * ((2 * (X / n) + (X % n != 0).toNat) * 2 ^ K) = (2 * (X / n) + (X % n != 0).toNat) * 2 ^ (K + 1) := by
        rw [Nat.pow_succ, Nat.mul_comm 2, Nat.mul_assoc]
      rw [this, hj, Nat.pow_add 2 (kx t + S) j, Nat.mul_comm (2 ^ (kx t + S)), ← Nat.mul_assoc]
      refine Nat.mul_lt_mul_of_pos_right ?_ hp
      exact Nat.lt_of_lt_of_le (show 2 * mg t + 1 < 2 * (X / n) + (X % n != 0).toNat by omega) (Nat.le_mul_of_pos_right _ hpj)
    have big2 : (2 * mg t + 1) * 2 ^ (kx t + S) * n < X * 2 ^ (K + 2) := by
      have : X * 2 ^ (K + 2) = 2 * X * 2 ^ j * 2 ^ (kx t + S) := by
        rw [show K + 2 = (K + 1) + 1 from rfl, Nat.pow_succ, hj, Nat.pow_add 2 (kx t + S) j, Nat.mul_comm (2 ^ (kx t + S)), Nat.mul_comm _ 2, Nat.mul_left_comm, Nat.mul_assoc 2, Nat.mul_assoc 2, Nat.mul_assoc X]
      rw [this, Nat.mul_right_comm]
      refine Nat.mul_lt_mul_of_pos_right ?_ hp
      refine Nat.lt_of_lt_of_le ?_ (Nat.le_mul_of_pos_right _ hpj)
      have : (2 * mg t + 1) * n ≤ 18014398509481983 * n := Nat.mul_le_mul_right _ (by omega)
      omega
    constructor
    · rintro (h | ⟨h, _⟩) <;> omega
    · rintro (h | ⟨h, _⟩) <;> omega
end Go.Proofs.Ytnikbaibchgmnaa
