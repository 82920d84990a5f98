/-
  Six calls find what an addition loses.
-/
import Derived.Test.YtnikbaibchgmnaaTwo
namespace Go.Proofs.Ytnikbaibchgmnaa
open Go.RowKit Ieee

theorem rn_neg (x : Int) : rn (-x) = -rn x := by
  unfold rn
  rw [Int.natAbs_neg]
  by_cases h0 : x = 0
  · subst h0; decide
  · by_cases h : x < 0
    · rw [if_neg (by omega), if_pos h]; omega
    · rw [if_pos (by omega), if_neg h]
theorem Ok_neg {x : Int} (h : Ok x) : Ok (-x) := by unfold Ok at h ⊢; rw [Int.natAbs_neg]; exact h
theorem Ok_of_le {x : Int} {y : Nat} (hy : ∃ r, up r = y) (hyi : y < up 9218868437227405312) (h : x.natAbs ≤ y) : Ok x := by
  obtain ⟨r, hr⟩ := hy
  have hri : r < 9218868437227405312 := up_lt_iff.1 (by rw [hr]; exact hyi)
  exact Nat.lt_of_le_of_lt (R_le' (Nat.le_of_lt hri) (by rw [Nat.pow_zero, Nat.mul_one, hr]; exact h)) hri
theorem rn_le {x : Int} {y : Nat} (hy : ∃ r, up r = y) (hyi : y < up 9218868437227405312) (h : x.natAbs ≤ y) : (rn x).natAbs ≤ y := by
  obtain ⟨r, hr⟩ := hy
  have hri : r < 9218868437227405312 := up_lt_iff.1 (by rw [hr]; exact hyi)
  rw [rn_natAbs, ← hr]
  exact up_le (R_le' (Nat.le_of_lt hri) (by rw [Nat.pow_zero, Nat.mul_one, hr]; exact h))
theorem rn_ge {x : Int} {y : Nat} (hy : ∃ r, up r = y) (hyi : y < up 9218868437227405312) (h : y ≤ x.natAbs) : y ≤ (rn x).natAbs := by
  obtain ⟨r, hr⟩ := hy
  have hri : r < 9218868437227405312 := up_lt_iff.1 (by rw [hr]; exact hyi)
  rw [rn_natAbs, ← hr]
  exact up_le (R_ge (Nat.le_of_lt hri) (by rw [Nat.pow_zero, Nat.mul_one, hr]; exact h))
theorem OkF {x : Int} (h : F x) (hi : x.natAbs < up 9218868437227405312) : Ok x := Ok_of_le h hi (Nat.le_refl _)
theorem rn_sign {x : Int} : (0 ≤ x → 0 ≤ rn x) ∧ (x ≤ 0 → rn x ≤ 0) := by
  constructor
  · intro h; unfold rn; rw [if_neg (by omega)]; omega
  · intro h
    unfold rn
    by_cases h0 : x < 0
    · rw [if_pos h0]; omega
    · obtain rfl : x = 0 := by omega
      decide
/-- How far rounding goes at the most. -/
theorem rn_half {x : Int} (h : x ≠ 0) (ok : Ok x) : 2 * (x - rn x).natAbs ≤ 2 ^ (x.natAbs.log2 - 52) := by
  have hn : x.natAbs ≠ 0 := by omega
  have e := up_R x.natAbs hn ok
  obtain ⟨e1, e2⟩ := RN_err x.natAbs (x.natAbs.log2 - 52)
  rw [← e] at e1 e2
  unfold rn
  generalize up (R x.natAbs 0) = u at *
  generalize 2 ^ (x.natAbs.log2 - 52) = P at *
  split <;> omega
/-- A difference of numbers near one another. -/
theorem F_near {b t : Int} (hb : F b) (ht : F t) (b0 : 0 < b) (h1 : b ≤ 2 * t) (h2 : t ≤ 2 * b) : F (b - t) ∧ (b - t).natAbs ≤ b.natAbs := by
  obtain ⟨rb, eb⟩ := hb
  obtain ⟨rt, et⟩ := ht
  refine ⟨?_, by omega⟩
  rcases Nat.le_total rt rb with h | h
  · obtain ⟨r, hr⟩ := sterbenz h (by omega)
    have := up_le h
    exact ⟨r, by omega⟩
  · obtain ⟨r, hr⟩ := sterbenz h (by omega)
    have := up_le h
    exact ⟨r, by omega⟩
theorem virt_pos {a b : Int} (_ : F a) (hb : F b) (b0 : 0 < b) (hab : a.natAbs < b.natAbs) (ok : Ok (a + b)) (hi : 2 * b.natAbs < up 9218868437227405312) : F (b - rn (rn (a + b) - a)) ∧ (b - rn (rn (a + b) - a)).natAbs ≤ b.natAbs := by
  by_cases hd : a + b - rn (a + b) = 0
  · have e : rn (a + b) - a = b := by omega
    rw [e, rn_of_F hb (OkF hb (by omega)), Int.sub_self]
    exact ⟨F_zero, Nat.zero_le _⟩
  · have hT0 : a + b ≠ 0 := by omega
    have hh := rn_half hT0 ok
    -- the sum is great
    have hlog : 53 ≤ (a + b).natAbs.log2 := by
      rcases Nat.lt_or_ge (a + b).natAbs.log2 53 with h | h
      · exfalso
        rw [show (a + b).natAbs.log2 - 52 = 0 from by omega, Nat.pow_zero] at hh
        omega
      · exact h
    obtain ⟨B, hB⟩ : ∃ B : Nat, b.natAbs = B := ⟨_, rfl⟩
    have hB0 : B ≠ 0 := by omega
    have l1 := log2_le' hB0
    have l2 := log2_lt' hB0
    have t1 : (a + b).natAbs < 2 * B := by omega
    have t2 := log2_le' (show (a + b).natAbs ≠ 0 by omega)
    have hl : (a + b).natAbs.log2 ≤ B.log2 + 1 := by
      have : (2 : Nat) ^ (a + b).natAbs.log2 < 2 ^ (B.log2 + 2) := by
        rw [Nat.pow_succ]; omega
      have := (Nat.pow_lt_pow_iff_right (show 1 < 2 by decide)).1 this
      omega
    obtain ⟨k, hk⟩ : ∃ k, B.log2 = k + 2 := ⟨B.log2 - 2, by omega⟩
    rw [hk] at l1 l2 hl
    have hp : (2 : Nat) ^ ((a + b).natAbs.log2 - 52) ≤ 2 ^ k := Nat.pow_le_pow_right (by decide) (by omega)
    have e4 : (2 : Nat) ^ (k + 2) = 4 * 2 ^ k := by rw [Nat.pow_add, Nat.mul_comm]
    have e8 : (2 : Nat) ^ (k + 2 + 1) = 8 * 2 ^ k := by rw [Nat.pow_add, Nat.pow_add, Nat.mul_comm (2 ^ k), Nat.mul_right_comm]
    have r3 : ∃ r, up r = 3 * 2 ^ k := rep' k 3 (by decide)
    have r4 : ∃ r, up r = 4 * 2 ^ k := rep' k 4 (by decide)
    have r2 : ∃ r, up r = 2 * B := by
      obtain ⟨rb, eb⟩ := hb
      exact ⟨_, by rw [twice_up rb, eb, hB]⟩
    rw [e4] at l1
    rw [e8] at l2
    have hq := Nat.two_pow_pos k
    generalize (2 : Nat) ^ k = q at *
    generalize (2 : Nat) ^ ((a + b).natAbs.log2 - 52) = dd at *
    obtain ⟨v, hv⟩ : ∃ v, rn (a + b) - a = v := ⟨_, rfl⟩
    rw [hv]
    have vlo : (3 * q : Nat) ≤ v := by omega
    have vhi : v ≤ (2 * B : Nat) := by omega
    have s1 := (@rn_sign v).1 (by omega)
    have g2 := rn_le (x := v) r2 (by omega) (by omega)
    have g3 := rn_ge (x := v) r3 (by omega) (by omega)
    have g4 : (4 * q : Nat) ≤ v → 4 * q ≤ (rn v).natAbs := fun h => rn_ge (x := v) r4 (by omega) (by omega)
    refine F_near hb (F_rn v) b0 ?_ (by omega)
    by_cases h4 : ((4 * q : Nat) : Int) ≤ v
    · have := g4 h4; omega
    · omega
theorem virt {a b : Int} (ha : F a) (hb : F b) (hab : a.natAbs < b.natAbs) (ok : Ok (a + b)) (hi : 2 * b.natAbs < up 9218868437227405312) : F (b - rn (rn (a + b) - a)) ∧ (b - rn (rn (a + b) - a)).natAbs ≤ b.natAbs := by
  rcases Int.lt_trichotomy b 0 with h | h | h
  · have := virt_pos (F_neg ha) (F_neg hb) (by omega) (by omega) (by rw [← Int.neg_add]; exact Ok_neg ok) (by omega)
    rw [← Int.neg_add, rn_neg (a + b), show -rn (a + b) - -a = -(rn (a + b) - a) from by omega, rn_neg] at this
    rw [show -b - -rn (rn (a + b) - a) = -(b - rn (rn (a + b) - a)) from by omega, Int.natAbs_neg, Int.natAbs_neg] at this
    exact ⟨by have := F_neg this.1; rwa [Int.neg_neg] at this, this.2⟩
  · omega
  · exact virt_pos ha hb h hab ok hi
/-- The six calls. -/
theorem two_sum {a b : Int} {U : Nat} (ha : F a) (hb : F b) (hU : up 9218868437227405312 = 4 * U) (h3 : ∃ r, up r = 3 * U) (h2 : ∃ r, up r = 2 * U) (la : a.natAbs < U) (lb : b.natAbs < U) :
    Ok (a + b) ∧ Ok (rn (a + b) - a) ∧ Ok (rn (a + b) - rn (rn (a + b) - a)) ∧ Ok (a - rn (rn (a + b) - rn (rn (a + b) - a))) ∧ Ok (b - rn (rn (a + b) - a)) ∧
    Ok (rn (a - rn (rn (a + b) - rn (rn (a + b) - a))) + rn (b - rn (rn (a + b) - a))) ∧ rn (a + b) + rn (rn (a - rn (rn (a + b) - rn (rn (a + b) - a))) + rn (b - rn (rn (a + b) - a))) = a + b := by
  have ok1 : Ok (a + b) := Ok_of_le h2 (by omega) (by omega)
  have s2 := rn_le (x := a + b) h2 (by omega) (by omega)
  have lo := loses ha hb ok1
  have ne1 := rn_nearest (a + b) a ok1 ha
  have ne2 : (a + b - rn (a + b)).natAbs ≤ b.natAbs := by
    rw [show a + b - a = b from by omega] at ne1; exact ne1
  have hFs := F_rn (a + b)
  have HV := fun h => virt ha hb h ok1 (by omega)
  have DK := fun h => dekker ha hb ok1 h
  have B1 : a.natAbs < b.natAbs → (rn (a + b)).natAbs < a.natAbs → rn (a + b) = a + b := fun h h4 => by
    refine rn_of_F ?_ ok1
    have hlt : (a + b).natAbs < a.natAbs := by
      rcases Nat.lt_or_ge (a + b).natAbs a.natAbs with h5 | h5
      · exact h5
      · have := rn_ge (x := a + b) ha (by omega) h5; omega
    obtain ⟨ra, ea⟩ := ha
    obtain ⟨rb, eb⟩ := hb
    have hr : ra ≤ rb := by
      rcases Nat.lt_or_ge rb ra with h6 | h6
      · have := up_lt h6; omega
      · exact h6
    obtain ⟨r, hr2⟩ := sterbenz hr (by omega)
    exact ⟨r, by omega⟩
  obtain ⟨s, hs⟩ : ∃ s, rn (a + b) = s := ⟨_, rfl⟩
  rw [hs] at s2 lo ne2 hFs HV DK B1 ⊢
  clear ne1
  have ok2 : Ok (s - a) := Ok_of_le h3 (by omega) (by omega)
  -- where the second is exact
  have EX : F (s - a) → _ := fun hF => by
    have e2 := rn_of_F hF ok2
    have e3 : s - rn (s - a) = a := by rw [e2]; omega
    have oka : Ok a := OkF ha (by omega)
    have e4 : rn (s - rn (s - a)) = a := by rw [e3, rn_of_F ha oka]
    have e5 : b - rn (s - a) = a + b - s := by rw [e2]; omega
    have oke : Ok (a + b - s) := OkF lo (by omega)
    have e6 : rn (b - rn (s - a)) = a + b - s := by rw [e5, rn_of_F lo oke]
    have ok0 : Ok 0 := OkF F_zero (by show 0 < _; omega)
    have e7 : rn (a - rn (s - rn (s - a))) = 0 := by rw [e4, Int.sub_self, rn_of_F F_zero ok0]
    show Ok (a + b) ∧ Ok (s - a) ∧ Ok (s - rn (s - a)) ∧ Ok (a - rn (s - rn (s - a))) ∧ Ok (b - rn (s - a)) ∧ Ok (rn (a - rn (s - rn (s - a))) + rn (b - rn (s - a))) ∧ s + rn (rn (a - rn (s - rn (s - a))) + rn (b - rn (s - a))) = a + b
    rw [e7, e6, Int.zero_add, rn_of_F lo oke, e4, Int.sub_self, e3, e5]
    exact ⟨ok1, ok2, oka, ok0, oke, oke, by omega⟩
  by_cases hab : b.natAbs ≤ a.natAbs
  · exact EX (DK hab).1
  · by_cases hsa : s.natAbs < a.natAbs
    · refine EX ?_
      rw [B1 (by omega) hsa, show a + b - a = b from by omega]; exact hb
    · -- the sum is no less than a
      have okd : Ok (s + -a) := by rw [← Int.sub_eq_add_neg]; exact ok2
      obtain ⟨d1, d2⟩ := dekker hFs (F_neg ha) okd (by rw [Int.natAbs_neg]; omega)
      have l2 := loses hFs (F_neg ha) okd
      have n2 := rn_nearest (s + -a) s okd hFs
      obtain ⟨v1, v2⟩ := HV (by omega)
      rw [← Int.sub_eq_add_neg] at d1 d2 l2 n2
      obtain ⟨t, ht⟩ : ∃ t, rn (s - a) = t := ⟨_, rfl⟩
      rw [ht] at d1 d2 l2 n2 v1 v2 ⊢
      have hst : F (s - t) := by have := F_neg d1; rwa [show -(t - s) = s - t from by omega] at this
      have okst : Ok (s - t) := OkF hst (by omega)
      have e1 := rn_of_F hst okst
      have hx : F (a - (s - t)) := by have := F_neg l2; rwa [show -(s - a - t) = a - (s - t) from by omega] at this
      have okx : Ok (a - (s - t)) := OkF hx (by omega)
      have oky : Ok (b - t) := OkF v1 (by omega)
      have e2 := rn_of_F hx okx
      have e3 := rn_of_F v1 oky
      have e4 : a - (s - t) + (b - t) = a + b - s := by omega
      have oke : Ok (a + b - s) := OkF lo (by omega)
      rw [e1, e2, e3, e4, rn_of_F lo oke]
      exact ⟨ok1, ok2, okst, okx, oky, oke, by omega⟩
end Go.Proofs.Ytnikbaibchgmnaa
