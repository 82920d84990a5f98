/-
  What an addition loses is a number, and six calls find it.
-/
import Derived.Test.YtnikbaibchgmnaaQuot2
namespace Go.Proofs.Ytnikbaibchgmnaa
open Go.RowKit Ieee

/-- The nearest is the nearest. -/
theorem R_nearest (n t : Nat) (hr : R n 0 < 9218868437227405312) : (n - up (R n 0)) + (up (R n 0) - n) ≤ (n - up t) + (up t - n) := by
  obtain ⟨r, hrr⟩ : ∃ r, R n 0 = r := ⟨_, rfl⟩
  rw [hrr] at hr ⊢
  rcases Nat.lt_trichotomy t r with h | h | h
  · obtain ⟨q, rfl⟩ : ∃ q, r = q + 1 := ⟨r - 1, by omega⟩
    have h1 : ¬ R n 0 ≤ q := by omega
    rw [R_le_iff (by omega)] at h1
    have h2 := up_le (show t ≤ q by omega)
    have h3 := up_succ q
    simp only [Nat.pow_zero, Nat.mul_one] at h1
    have h4 : ¬ 2 * n < up q + up (q + 1) := fun h => h1 (.inl h)
    omega
  · subst h; exact Nat.le_refl _
  · have h1 : R n 0 ≤ r := by omega
    rw [R_le_iff hr] at h1
    simp only [Nat.pow_zero, Nat.mul_one] at h1
    have h2 := up_le (show r + 1 ≤ t from h)
    have h3 := up_succ r
    rcases h1 with h1 | ⟨h1, _⟩ <;> omega
/-- What a rung stands for that was rounded to. -/
theorem up_R (n : Nat) (h : n ≠ 0) (hr : R n 0 < 9218868437227405312) : up (R n 0) = RN n (n.log2 - 52) * 2 ^ (n.log2 - 52) := by
  have e : R n 0 = (n.log2 - 52) * 4503599627370496 + RN n (n.log2 - 52) := by
    unfold R at hr ⊢
    rw [Nat.max_eq_left (Nat.zero_le _), Nat.sub_zero] at hr ⊢
    generalize (n.log2 - 52) * 4503599627370496 + RN n (n.log2 - 52) = Z at *
    rcases Nat.le_total Z 9218868437227405312 with h1 | h1
    · exact Nat.min_eq_left h1
    · rw [Nat.min_eq_right h1] at hr; exact absurd hr (Nat.lt_irrefl _)
  rw [e]
  have l1 := log2_le' h
  have l2 := log2_lt' h
  by_cases h0 : n.log2 ≤ 52
  · rw [show n.log2 - 52 = 0 from by omega, Nat.zero_mul, Nat.zero_add, RN_zero, Nat.pow_zero, Nat.mul_one]
    have : n < 9007199254740992 := Nat.lt_of_lt_of_le l2 (Nat.le_trans (Nat.pow_le_pow_right (by decide) (show n.log2 + 1 ≤ 53 by omega)) (by decide))
    unfold up
    split
    · rfl
    · rw [show n / 2 ^ 52 = 1 from by omega]; omega
  · have hd : n.log2 = 52 + (n.log2 - 52) := by omega
    have hp := Nat.two_pow_pos (n.log2 - 52)
    have q1 : 4503599627370496 ≤ n / 2 ^ (n.log2 - 52) := by
      rw [Nat.le_div_iff_mul_le hp, show (4503599627370496 : Nat) = 2 ^ 52 from rfl, ← Nat.pow_add, ← hd]; exact l1
    have q2 : n / 2 ^ (n.log2 - 52) < 9007199254740992 := by
      rw [Nat.div_lt_iff_lt_mul hp, show (9007199254740992 : Nat) = 2 ^ 53 from rfl, ← Nat.pow_add, show 53 + (n.log2 - 52) = n.log2 + 1 from by omega]; exact l2
    have k1 := RN_le n (n.log2 - 52)
    have k2 := RN_lt n (n.log2 - 52)
    exact up_mk _ _ (by omega) (by omega)
/-- A multiple of a power of two is rounded to a multiple of it: itself, or one of twice the power. -/
theorem R_mult (n c : Nat) (hr : R n 0 < 9218868437227405312) (hd : 2 ^ c ∣ n) : up (R n 0) = n ∨ 2 ^ (c + 1) ∣ up (R n 0) := by
  by_cases h0 : n = 0
  · left; rw [h0, R_zero, up_zero]
  · rw [up_R n h0 hr]
    by_cases hc : n.log2 - 52 ≤ c
    · left
      obtain ⟨m, hm⟩ := Nat.dvd_trans (Nat.pow_dvd_pow 2 hc) hd
      have : RN n (n.log2 - 52) = m := by
        have e := RN_exact m (n.log2 - 52)
        rw [Nat.mul_comm, ← hm] at e
        exact e
      rw [this, Nat.mul_comm]; exact hm.symm
    · right
      exact Nat.dvd_trans (Nat.pow_dvd_pow 2 (by omega)) (Nat.dvd_mul_left _ _)
/-- Is it a number? -/
def F (x : Int) : Prop := ∃ r, up r = x.natAbs
theorem F_neg {x : Int} (h : F x) : F (-x) := by obtain ⟨r, hr⟩ := h; exact ⟨r, by rw [hr, Int.natAbs_neg]⟩
theorem F_zero : F 0 := ⟨0, rfl⟩
theorem rep' (k M : Nat) (h : M ≤ 9007199254740992) : ∃ r, up r = M * 2 ^ k := by
  by_cases h1 : M = 9007199254740992
  · obtain ⟨r, hr⟩ := rep (k + 1) 4503599627370496 (by omega)
    exact ⟨r, by rw [hr, h1, Nat.pow_succ, Nat.mul_comm _ 2, ← Nat.mul_assoc]⟩
  · exact rep k M (by omega)
theorem F_of_mult {x : Int} {c : Nat} (hd : 2 ^ c ∣ x.natAbs) (hb : x.natAbs ≤ 9007199254740992 * 2 ^ c) : F x := by
  obtain ⟨m, hm⟩ := hd
  have : m ≤ 9007199254740992 := by
    rw [hm, Nat.mul_comm] at hb
    exact Nat.le_of_mul_le_mul_right hb (Nat.two_pow_pos c)
  obtain ⟨r, hr⟩ := rep' c m this
  exact ⟨r, by rw [hr, hm, Nat.mul_comm]⟩
/-- Rounding with the sign. -/
def rn (x : Int) : Int := if x < 0 then -(up (R x.natAbs 0) : Int) else (up (R x.natAbs 0) : Int)
def Ok (x : Int) : Prop := R x.natAbs 0 < 9218868437227405312
theorem rn_natAbs (x : Int) : (rn x).natAbs = up (R x.natAbs 0) := by unfold rn; split <;> omega
theorem rn_of_F {x : Int} (h : F x) (ok : Ok x) : rn x = x := by
  obtain ⟨r, hr⟩ := h
  have hR := ok
  unfold Ok at hR
  have e : up (R x.natAbs 0) = x.natAbs := by
    rw [← hr] at hR ⊢
    rw [R_up] at hR ⊢
    rw [Nat.min_eq_left (by omega)]
  unfold rn
  rw [e]
  split <;> omega
theorem F_rn (x : Int) : F (rn x) := ⟨_, (rn_natAbs x).symm⟩
/-- None is nearer. -/
theorem rn_nearest (x y : Int) (ok : Ok x) (hy : F y) : (x - rn x).natAbs ≤ (x - y).natAbs := by
  obtain ⟨t, ht⟩ := hy
  have h1 := R_nearest x.natAbs t ok
  have h0 := R_nearest x.natAbs 0 ok
  rw [up_zero] at h0
  unfold rn
  generalize up (R x.natAbs 0) = u at *
  rw [ht] at h1
  split <;> omega
theorem mult_natAbs_add {x y : Int} {c : Nat} (hx : 2 ^ c ∣ x.natAbs) (hy : 2 ^ c ∣ y.natAbs) : 2 ^ c ∣ (x + y).natAbs := by
  have a : ((2 ^ c : Nat) : Int) ∣ x := Int.ofNat_dvd_left.2 hx
  have b : ((2 ^ c : Nat) : Int) ∣ y := Int.ofNat_dvd_left.2 hy
  exact Int.ofNat_dvd_left.1 (Int.dvd_add a b)
theorem mult_neg {x : Int} {c : Nat} (hx : 2 ^ c ∣ x.natAbs) : 2 ^ c ∣ (-x).natAbs := by rw [Int.natAbs_neg]; exact hx
theorem mult_sub {x y : Int} {c : Nat} (hx : 2 ^ c ∣ x.natAbs) (hy : 2 ^ c ∣ y.natAbs) : 2 ^ c ∣ (x - y).natAbs := by
  rw [Int.sub_eq_add_neg]; exact mult_natAbs_add hx (mult_neg hy)
theorem rn_mult (x : Int) (c : Nat) (ok : Ok x) (hd : 2 ^ c ∣ x.natAbs) : rn x = x ∨ 2 ^ (c + 1) ∣ (rn x).natAbs := by
  rcases R_mult x.natAbs c ok hd with h | h
  · left; unfold rn; rw [h]; split <;> omega
  · right; rw [rn_natAbs]; exact h
theorem rn_mult' (x : Int) (c : Nat) (ok : Ok x) (hd : 2 ^ c ∣ x.natAbs) : 2 ^ c ∣ (rn x).natAbs := by
  rcases rn_mult x c ok hd with h | h
  · rw [h]; exact hd
  · exact Nat.dvd_trans (Nat.pow_dvd_pow 2 (Nat.le_succ c)) h
/-- A number's own place. -/
theorem F_place {x : Int} (h : F x) : ∃ r, up r = x.natAbs ∧ 2 ^ kx r ∣ x.natAbs ∧ x.natAbs ≤ 9007199254740991 * 2 ^ kx r := by
  obtain ⟨r, hr⟩ := h
  refine ⟨r, hr, ?_, ?_⟩
  · rw [← hr, up_eq]; exact Nat.dvd_mul_left _ _
  · rw [← hr, up_eq]; exact Nat.mul_le_mul_right _ (by have := mg_lt r; omega)
/-- What an addition loses is a number. -/
theorem loses {p q : Int} (hp : F p) (hq : F q) (ok : Ok (p + q)) : F (p + q - rn (p + q)) := by
  obtain ⟨rp, e1, d1, b1⟩ := F_place hp
  obtain ⟨rq, e2, d2, b2⟩ := F_place hq
  have n1 := rn_nearest (p + q) p ok hp
  have n2 := rn_nearest (p + q) q ok hq
  rcases Nat.le_total (kx rp) (kx rq) with h | h
  · have dT : 2 ^ kx rp ∣ (p + q).natAbs := mult_natAbs_add d1 (Nat.dvd_trans (Nat.pow_dvd_pow 2 h) d2)
    have hp0 := Nat.two_pow_pos (kx rp)
    refine F_of_mult (mult_sub dT (rn_mult' _ _ ok dT)) ?_
    have : (p + q - q).natAbs = p.natAbs := by congr 1; omega
    omega
  · have dT : 2 ^ kx rq ∣ (p + q).natAbs := mult_natAbs_add (Nat.dvd_trans (Nat.pow_dvd_pow 2 h) d1) d2
    have hp0 := Nat.two_pow_pos (kx rq)
    refine F_of_mult (mult_sub dT (rn_mult' _ _ ok dT)) ?_
    have : (p + q - p).natAbs = q.natAbs := by congr 1; omega
    omega
/-- The sum without its greater part is a number. -/
theorem dekker {p q : Int} (hp : F p) (hq : F q) (ok : Ok (p + q)) (h : q.natAbs ≤ p.natAbs) : F (rn (p + q) - p) ∧ (rn (p + q) - p).natAbs ≤ 2 * q.natAbs := by
  obtain ⟨rp, e1, d1, b1⟩ := F_place hp
  obtain ⟨rq, e2, d2, b2⟩ := F_place hq
  have n1 := rn_nearest (p + q) p ok hp
  have e3 : (p + q - p).natAbs = q.natAbs := by congr 1; omega
  have hb : (rn (p + q) - p).natAbs ≤ 2 * q.natAbs := by omega
  refine ⟨?_, hb⟩
  have hr : rq ≤ rp := by
    rcases Nat.lt_or_ge rp rq with h1 | h1
    · have := up_lt h1; omega
    · exact h1
  have hk := kx_le hr
  have dT : 2 ^ kx rq ∣ (p + q).natAbs := mult_natAbs_add (Nat.dvd_trans (Nat.pow_dvd_pow 2 hk) d1) d2
  have hp0 := Nat.two_pow_pos (kx rq)
  rcases rn_mult (p + q) (kx rq) ok dT with h1 | h1
  · rw [h1, show p + q - p = q from by omega]; exact hq
  · by_cases hkk : kx rq + 1 ≤ kx rp
    · refine F_of_mult (c := kx rq + 1) (mult_sub h1 (Nat.dvd_trans (Nat.pow_dvd_pow 2 hkk) d1)) ?_
      rw [Nat.pow_succ]; omega
    · have hkeq : kx rp = kx rq := by omega
      -- near twice the place
      have near : (p + q - rn (p + q)).natAbs ≤ 2 ^ kx rq := by
        obtain ⟨m, hm⟩ := dT
        have hmb : m ≤ 18014398509481982 := by
          have : (p + q).natAbs ≤ 18014398509481982 * 2 ^ kx rq := by rw [hkeq] at b1; omega
          rw [hm, Nat.mul_comm] at this
          exact Nat.le_of_mul_le_mul_right this hp0
        obtain ⟨t, ht⟩ := rep' (kx rq + 1) (m / 2) (by omega)
        have hF1 : F (if p + q < 0 then -(up t : Int) else (up t : Int)) := ⟨t, by split <;> omega⟩
        have := rn_nearest (p + q) _ ok hF1
        have e5 : up t = m / 2 * 2 * 2 ^ kx rq := by rw [ht, Nat.pow_succ, Nat.mul_comm (2 ^ kx rq) 2, ← Nat.mul_assoc]
        have e6 : m = m / 2 * 2 + m % 2 := by omega
        have e7 : (p + q).natAbs = m / 2 * 2 * 2 ^ kx rq + m % 2 * 2 ^ kx rq := by
          rw [hm, Nat.mul_comm, ← Nat.add_mul, ← e6]
        have e8 : m % 2 * 2 ^ kx rq ≤ 2 ^ kx rq := by
          have := Nat.mul_le_mul_right (2 ^ kx rq) (show m % 2 ≤ 1 by omega)
          omega
        split at this <;> omega
      refine F_of_mult (c := kx rq) (mult_sub (rn_mult' _ _ ok dT) (by rw [← hkeq]; exact d1)) ?_
      omega
end Go.Proofs.Ytnikbaibchgmnaa
