/-
  Round.
-/
import Derived.Test.YtnikbaibchgmnaaNear
namespace Go.Proofs.Ytnikbaibchgmnaa
open Go.RowKit Ieee

theorem log2_odd {N : Nat} (h : N ≠ 0) (c : Bool) : (2 * N + c.toNat).log2 = bl N := by
  have hc : c.toNat ≤ 1 := Bool.toNat_le _
  have h1 := log2_le' h
  have h2 := log2_lt' h
  rw [bl_pos h]
  refine log2_of ?_ ?_
  · rw [Nat.pow_succ]; omega
  · rw [Nat.pow_succ]; omega
theorem kept_big {N : Nat} {e : Int} {c : Bool} (h : N ≠ 0) (hL : -1074 < lastP N e) : 4503599627370496 ≤ kept N c (lastP N e - e) := by
  have hl : lastP N e - e = (bl N : Int) - 53 := by unfold lastP at hL ⊢; omega
  rw [hl]
  have h1 := log2_le' h
  have hb := bl_pos h
  unfold kept
  split
  · rename_i hd
    rw [show (-((bl N : Int) - 53)).toNat = 53 - bl N from by omega, show (4503599627370496 : Nat) = 2 ^ (N.log2 + (53 - bl N)) from by rw [show N.log2 + (53 - bl N) = 52 from by omega], Nat.pow_add]
    exact Nat.mul_le_mul_right _ h1
  · rename_i hd
    refine Nat.le_trans ?_ (RN_le _ _)
    rw [Nat.le_div_iff_mul_le (Nat.two_pow_pos _), show (4503599627370496 : Nat) = 2 ^ 52 from rfl, ← Nat.pow_add, show 52 + (((bl N : Int) - 53).toNat + 1) = N.log2 + 1 from by omega, Nat.pow_succ]
    omega
theorem nearest_kept (neg : Bool) {N : Nat} (e : Int) (c : Bool) (h : N ≠ 0) (hc : c = true → 18014398509481984 ≤ N) : double.nearest neg (2 * N + c.toNat) (e - 1) = double.word neg (min ((lastP N e + 1074).toNat * 4503599627370496 + kept N c (lastP N e - e)) 9218868437227405312) := by
  unfold Format.nearest
  rw [if_neg (by omega), log2_odd h]
  simp only [cut_even, dbl_lp, dbl_fb, dbl_inf, dbl_bin]
  have hl : max (e - 1 + (bl N : Int) - ((52 : Nat) : Int)) (-1074) = lastP N e := by unfold lastP; omega
  rw [hl]
  refine congrArg (double.word neg) ?_
  rw [show lastP N e - -1074 = lastP N e + 1074 from by omega]
  refine congrArg (fun z => min ((lastP N e + 1074).toNat * 4503599627370496 + z) 9218868437227405312) ?_
  have hLb : (bl N : Int) - 53 + e ≤ lastP N e := by unfold lastP; omega
  have hbig : c = true → 55 ≤ bl N := fun h2 => bl_big (hc h2)
  generalize lastP N e = L at *
  unfold kept
  rw [Nat.shiftLeft_eq]
  by_cases hd : L - e ≤ 0
  · rw [if_pos hd]
    have hcf : c = false := by cases c; rfl; have := hbig rfl; omega
    subst hcf
    show RN ((2 * N + 0) * 2 ^ (e - 1 - L).toNat) (L - (e - 1)).toNat = _
    rw [Nat.add_zero]
    by_cases h0 : L - e = 0
    · rw [show (e - 1 - L).toNat = 0 from by omega, show (L - (e - 1)).toNat = 1 from by omega, show (-(L - e)).toNat = 0 from by omega, Nat.pow_zero, Nat.mul_one, Nat.mul_one]
      have := RN_exact N 1
      rw [Nat.pow_one, Nat.mul_comm] at this
      exact this
    · obtain ⟨n, hn⟩ : ∃ n : Nat, -(L - e) = ((n + 1 : Nat) : Int) := ⟨(-(L - e)).toNat - 1, by omega⟩
      rw [show (e - 1 - L).toNat = n from by omega, show (L - (e - 1)).toNat = 0 from by omega, show (-(L - e)).toNat = n + 1 from by omega, RN_zero, Nat.pow_succ, Nat.mul_comm 2 N, Nat.mul_assoc, Nat.mul_comm 2]
  · rw [if_neg hd, show (e - 1 - L).toNat = 0 from by omega, show (L - (e - 1)).toNat = (L - e).toNat + 1 from by omega, Nat.pow_zero, Nat.mul_one]
theorem round_big {N : Nat} {e : Int} {c : Bool} {m : Nat} {q : Int} (neg : Bool) (h : N ≠ 0) (hc : c = true → 18014398509481984 ≤ N) (hn : NearIs N e c m q) (hq : 971 < q) : double.nearest neg (2 * N + c.toNat) (e - 1) = double.word neg 9218868437227405312 := by
  rw [nearest_kept neg e c h hc]
  refine congrArg (double.word neg) ?_
  refine Nat.min_eq_right ?_
  rcases hn.is with ⟨h1, h2, h3⟩ | ⟨h1, h2, h3⟩
  · rw [h1]; omega
  · have := kept_big (c := c) h (show -1074 < lastP N e by omega)
    omega
theorem round_small {N : Nat} {e : Int} {c : Bool} {m : Nat} {q : Int} (neg : Bool) (h : N ≠ 0) (hc : c = true → 18014398509481984 ≤ N) (hn : NearIs N e c m q) (hq : q ≤ 971) : ∃ G : Nat, q = -1074 + (G : Int) ∧ G ≤ 2045 ∧ ∀ r, up r = m * 2 ^ G → r < 9223372036854775808 ∧ double.nearest neg (2 * N + c.toNat) (e - 1) = double.word neg r := by
  have hL : -1074 ≤ lastP N e := by unfold lastP; omega
  obtain ⟨G0, hG0⟩ : ∃ G0 : Nat, lastP N e + 1074 = (G0 : Int) := ⟨(lastP N e + 1074).toNat, by omega⟩
  have hk : G0 ≠ 0 → 4503599627370496 ≤ kept N c (lastP N e - e) := fun h0 => kept_big h (by omega)
  have hnk := nearest_kept neg e c h hc
  rw [hG0, show ((G0 : Int)).toNat = G0 from by omega] at hnk
  rcases hn.is with ⟨h1, h2, h3⟩ | ⟨h1, h2, h3⟩
  · refine ⟨G0 + 1, by omega, by omega, fun r hr => ?_⟩
    have : r = G0 * 4503599627370496 + 9007199254740992 := by
      refine up_inj ?_
      rw [hr, h2, up_mk G0 9007199254740992 (by omega) (by omega), Nat.pow_succ, Nat.mul_comm _ 2, ← Nat.mul_assoc]
    rw [h1, Nat.min_eq_left (by omega)] at hnk
    rw [this]
    exact ⟨by omega, hnk⟩
  · refine ⟨G0, by omega, by omega, fun r hr => ?_⟩
    have : r = G0 * 4503599627370496 + kept N c (lastP N e - e) := by
      refine up_inj ?_
      rw [hr, h2]
      by_cases h0 : G0 = 0
      · subst h0
        rw [Nat.zero_mul, Nat.zero_add, Nat.pow_zero, Nat.mul_one]
        unfold up
        split
        · rfl
        · rw [show kept N c (lastP N e - e) / 2 ^ 52 = 1 from by omega]; omega
      · exact (up_mk G0 _ (hk h0) (by omega)).symm
    rw [Nat.min_eq_left (by omega)] at hnk
    rw [this]
    exact ⟨by omega, hnk⟩

set_option maxRecDepth 100000 in
set_option maxHeartbeats 1600000 in
theorem round_any (neg : Bool) (v : Value) (N : Nat) (e : Int) (c : Bool) (w : World) (hL : Ls w v N) (hN : N ≠ 0) (hB : N < 4294967296 ^ 1000) (he1 : -20000 ≤ e) (he2 : e ≤ 20000) (hc : c = true → 18014398509481984 ≤ N) :
    Calls Try.prog 30 #[.bool neg, v, .int .i64 e, .bool c] w fun x w' => x = .returned (.int .u64 (double.nearest neg (2 * N + c.toNat) (e - 1) : Nat)) ∧ Below w.heap.size w w' := by
  have c1 := hide (near_any v N e c w hL hN hB he1 he2 hc)
  have hRB := fun m q h h2 => round_big (e := e) (m := m) (q := q) neg hN hc h h2
  have hRS := fun m q h h2 => round_small (e := e) (m := m) (q := q) neg hN hc h h2
  generalize double.nearest neg (2 * N + c.toNat) (e - 1) = Z at *
  have HRB := hide hRB
  have HRS := hide hRS
  have HB := hide (Below.refl w.heap.size w)
  clear hRB hRS hL hN hB hc
  go_enter Try.func30, Try.ntmps30
  go_wp2_with fail
  refine (unhide c1).mono ?_
  rintro x w1 ⟨m, q, rfl, hn, hm, hb1⟩
  replace HB := hide ((unhide HB).trans (hb1.mono (unhide HB).size))
  have HN := hide hn
  clear hb1 hn
  by_cases hq : 971 < q
  · have hz := hide (unhide HRB m q (unhide HN) hq)
    go_wp2_with fail
    refine (signed_any neg 9218868437227405312 (by decide) _).mono ?_
    rintro x w2 ⟨rfl, rfl⟩
    go_wp2
    go_ret
    exact ⟨by rw [unhide hz]; rfl, unhide HB⟩
  · obtain ⟨G, hG, hG2, hr⟩ := unhide HRS m q (unhide HN) (by omega)
    have HR := hide hr
    obtain ⟨E, hE⟩ : ∃ E : Int, Hid (-1074 + (G : Int) = E) := ⟨_, rfl⟩
    have hql : q ≤ 971 := by omega
    obtain rfl : q = E := by have := unhide hE; omega
    have cl := laid_any m G hm hG2
    rw [unhide hE] at cl
    replace cl := hide cl
    have hqd : decide (971 < q) = false := by rw [decide_eq_false_iff_not]; exact hq
    clear hr hG hq
    go_wp2_with fail
    refine (unhide cl _).mono ?_
    rintro x w2 ⟨r, rfl, hru, rfl⟩
    obtain ⟨hrl, hz⟩ := unhide HR r hru
    have HZ := hide hz
    have cs := hide (signed_any neg r hrl)
    clear hru hz hrl
    go_wp2_with fail
    refine (unhide cs _).mono ?_
    rintro x w3 ⟨rfl, rfl⟩
    go_wp2
    go_ret
    exact ⟨by rw [unhide HZ]; rfl, unhide HB⟩
/-- Where nothing is left over. -/
theorem nearest_double (neg : Bool) (N : Nat) (e : Int) : double.nearest neg (2 * N + (false).toNat) (e - 1) = double.nearest neg N e := by
  show double.nearest neg (2 * N + 0) (e - 1) = _
  obtain ⟨k, s, h⟩ : ∃ k s : Nat, e + 1074 + s = k := ⟨(e + 1074).toNat, (-(e + 1074)).toNat, by omega⟩
  rw [nearest_R neg N e k s h, Nat.add_zero, nearest_R neg (2 * N) (e - 1) k (s + 1) (by omega)]
  refine congrArg (double.word neg) ?_
  have := R_scale (N * 2 ^ k) s 1
  rw [← this, Nat.pow_one]
  congr 1
  ac_rfl
end Go.Proofs.Ytnikbaibchgmnaa
