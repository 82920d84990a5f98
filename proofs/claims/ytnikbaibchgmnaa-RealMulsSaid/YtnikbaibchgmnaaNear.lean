/-
  near.
-/
import Derived.Test.YtnikbaibchgmnaaLaid
namespace Go.Proofs.Ytnikbaibchgmnaa
open Go.RowKit Ieee

/-- The last place that is kept. -/
def lastP (N : Nat) (e : Int) : Int := max ((bl N : Int) - 53 + e) (-1074)
/-- What near answers. -/
structure NearIs (N : Nat) (e : Int) (c : Bool) (m : Nat) (q : Int) : Prop where
  le : kept N c (lastP N e - e) ≤ 9007199254740992
  is : (kept N c (lastP N e - e) = 9007199254740992 ∧ m = 4503599627370496 ∧ q = lastP N e + 1) ∨ (kept N c (lastP N e - e) < 9007199254740992 ∧ m = kept N c (lastP N e - e) ∧ q = lastP N e)
theorem bl_lt (N : Nat) : N < 2 ^ bl N := by
  unfold bl
  split
  · rename_i h; subst h; decide
  · rename_i h; exact log2_lt' h
theorem kept_le (N n : Nat) (h : bl N + n ≤ 53) : N * 2 ^ n < 9007199254740992 := by
  have h1 := Nat.mul_lt_mul_of_pos_right (bl_lt N) (Nat.two_pow_pos n)
  rw [← Nat.pow_add] at h1
  exact Nat.lt_of_lt_of_le h1 (Nat.le_trans (Nat.pow_le_pow_right (by decide) h) (by decide))
theorem cut_le (N D : Nat) (h : bl N ≤ 53 + (D + 1)) : N / 2 ^ (D + 1) < 9007199254740992 := by
  rw [Nat.div_lt_iff_lt_mul (Nat.two_pow_pos _), show (9007199254740992 : Nat) = 2 ^ 53 from rfl, ← Nat.pow_add]
  exact Nat.lt_of_lt_of_le (bl_lt N) (Nat.pow_le_pow_right (by decide) h)
theorem bl_big {N : Nat} (h : 18014398509481984 ≤ N) : 55 ≤ bl N := by
  have h0 : N ≠ 0 := by omega
  rw [bl_pos h0]
  have := (Nat.le_log2 h0).2 (show 2 ^ 54 ≤ N from h)
  omega
theorem near_exact (N n : Nat) (e : Int) (c : Bool) (hd : lastP N e - e = -(n : Int)) (hb : bl N + n ≤ 53) : NearIs N e c (N * 2 ^ n) (lastP N e) := by
  have hk : kept N c (lastP N e - e) = N * 2 ^ n := by
    unfold kept; rw [hd, if_pos (by omega), show (- -(n : Int)).toNat = n from by omega]
  have := kept_le N n hb
  exact ⟨by omega, .inr ⟨by omega, hk.symm, rfl⟩⟩
theorem near_cut (N D : Nat) (e : Int) (c : Bool) (hd : lastP N e - e = ((D + 1 : Nat) : Int)) (hb : bl N ≤ 53 + (D + 1)) (up1 : Bool)
    (hu : up1 = decide (N / 2 ^ D % 2 = 1 ∧ (c = true ∨ N % 2 ^ D ≠ 0 ∨ N / 2 ^ (D + 1) % 2 = 1))) (m : Nat) (q : Int) (hm : if up1 ∧ N / 2 ^ (D + 1) + 1 = 9007199254740992 then m = 4503599627370496 ∧ q = lastP N e + 1 else m = N / 2 ^ (D + 1) + up1.toNat ∧ q = lastP N e) : NearIs N e c m q := by
  have hk : kept N c (lastP N e - e) = N / 2 ^ (D + 1) + up1.toNat := by
    unfold kept
    rw [hd, if_neg (by omega), show (((D + 1 : Nat) : Int)).toNat + 1 = D + 2 from by omega, near_rn, hu]
    by_cases h : N / 2 ^ D % 2 = 1 ∧ (c = true ∨ N % 2 ^ D ≠ 0 ∨ N / 2 ^ (D + 1) % 2 = 1)
    · rw [if_pos h, decide_eq_true h]; rfl
    · rw [if_neg h, decide_eq_false h]; rfl
  have h1 := cut_le N D hb
  have h2 : up1.toNat ≤ 1 := Bool.toNat_le _
  refine ⟨by omega, ?_⟩
  rw [hk]
  by_cases h : up1 ∧ N / 2 ^ (D + 1) + 1 = 9007199254740992
  · rw [if_pos h] at hm
    left
    obtain ⟨rfl, h3⟩ := h
    exact ⟨h3, hm⟩
  · rw [if_neg h] at hm
    right
    refine ⟨?_, hm⟩
    cases up1
    · show N / 2 ^ (D + 1) + 0 < _; omega
    · have : N / 2 ^ (D + 1) + 1 ≠ 9007199254740992 := fun h3 => h ⟨rfl, h3⟩
      show N / 2 ^ (D + 1) + 1 < _
      omega

set_option maxRecDepth 100000 in
set_option maxHeartbeats 6400000 in
theorem near_any (v : Value) (N : Nat) (e : Int) (c : Bool) (w : World) (hL : Ls w v N) (hN : N ≠ 0) (hB : N < 4294967296 ^ 1000) (he1 : -20000 ≤ e) (he2 : e ≤ 20000) (hc : c = true → 18014398509481984 ≤ N) :
    Calls Try.prog 48 #[v, .int .i64 e, .bool c, .int .i64 53, .int .i64 (-1074)] w fun x w' => ∃ m q, x = .returned (.tuple #[.int .u64 (m : Nat), .int .i64 q]) ∧ NearIs N e c m q ∧ m < 9007199254740992 ∧ Below w.heap.size w w' := by
  have hb1 := bl_le hB
  have hb0 : 1 ≤ bl N := by rw [bl_pos hN]; omega
  have hbc : c = true → 55 ≤ bl N := fun h => bl_big (hc h)
  have c1 := hide (rbits_any v N w hL hB)
  have HLs := hide hL
  have HBn := hide hB
  have HB := hide (Below.refl w.heap.size w)
  have hlast : lastP N e = max ((bl N : Int) - 53 + e) (-1074) := rfl
  have NE := fun n h1 h2 => near_exact N n e c h1 h2
  have NC := fun D h1 h2 u h3 m q h4 => near_cut N D e c h1 h2 u h3 m q h4
  have NL := kept_le N
  have CL := cut_le N
  generalize lastP N e = L at *
  obtain ⟨Q0, hQ0⟩ : ∃ Q0 : Int, (bl N : Int) - 53 + e = Q0 := ⟨_, rfl⟩
  rw [hQ0] at hlast
  generalize bl N = b at *
  clear hL hB hc
  by_cases hq : Q0 < -1074
  · obtain rfl : L = -1074 := by omega
    have he3 : (-1074 : Int) - e ≤ 60000 := by omega
    by_cases hd : -1074 - e ≤ 0
    · obtain ⟨n, hn⟩ : ∃ n : Nat, -1074 - e = -(n : Int) := ⟨(e - -1074).toNat, by omega⟩
      have hcf : c = false := by cases c; rfl; have := hbc rfl; omega
      subst hcf
      have hnb : b + n ≤ 53 := by omega
      have R := hide (NE n hn hnb)
      have M := hide (NL n hnb)
      obtain ⟨d, hd1⟩ : ∃ d : Int, -1074 - e = d := ⟨_, rfl⟩
      rw [hd1] at hd hn
      have hneg : -d = (n : Int) := by omega
      skip
      clear NE NC NL CL hbc hn hnb hlast
      go_enter Try.func48, Try.ntmps48
      go_wp2_with fail
      refine (unhide c1).mono ?_
      rintro x w1 ⟨rfl, rfl⟩
      go_wp2_with fail
      refine (up_any v N n _ (unhide HLs) (unhide HBn) (by omega)).mono ?_
      rintro x w2 ⟨v2, rfl, hL2, hB2⟩
      have HL2 := hide hL2
      replace HB := hide ((unhide HB).trans (hB2.mono (unhide HB).size))
      clear hL2 hB2
      go_wp2_with fail
      refine (small_any v2 _ _ (unhide HL2) (Nat.lt_trans (unhide M) (by decide))).mono ?_
      rintro x w3 ⟨rfl, rfl⟩
      generalize N * 2 ^ n = m at *
      go_wp2
      go_ret2
      exact ⟨m, _, rfl, unhide R, unhide M, unhide HB⟩
    · obtain ⟨D, hn⟩ : ∃ D : Nat, -1074 - e = ((D + 1 : Nat) : Int) := ⟨(-1074 - e).toNat - 1, by omega⟩
      obtain ⟨dn, hdn⟩ : ∃ dn, D + 1 = dn := ⟨_, rfl⟩
      have hnb : b ≤ 53 + (D + 1) := by omega
      have R := hide (NC D hn hnb)
      have M := hide (CL D hnb)
      rw [hdn] at hn R M
      have hdd : decide ((dn : Int) ≤ 0) = false := by rw [decide_eq_false_iff_not]; omega
      have hd1 : (dn : Int) - 1 = (D : Int) := by omega
      have hdl : dn ≤ 60000 := by omega
      have hDl : Hid (D ≤ 60000) := by unfold Hid; omega
      obtain ⟨m1, hm1⟩ : ∃ m1, Hid (N / 2 ^ dn = m1) := ⟨_, rfl⟩
      obtain ⟨hb, hhb⟩ : ∃ x, Hid (N / 2 ^ D % 2 = x) := ⟨_, rfl⟩
      obtain ⟨rs, hrs⟩ : ∃ x, Hid ((N % 2 ^ D != 0) = x) := ⟨_, rfl⟩
      have hb2 : hb = 0 ∨ hb = 1 := by have := unhide hhb; omega
      rw [unhide hm1] at R M
      rw [unhide hhb] at R
      have hrs2 : Hid (rs = true ↔ N % 2 ^ D ≠ 0) := by unfold Hid; rw [← unhide hrs, bne_iff_ne]
      have HM2 := unhide M
      have h53 : m1 + 1 = 9007199254740992 ∨ m1 + 1 < 9007199254740992 := by omega
      skip
      clear NE NC NL CL hbc hlast hd hnb hdn
      rcases hb2 with rfl | rfl
      · cases c
        · skip
          have RR := hide (unhide R false (by rw [eq_comm, decide_eq_false_iff_not]; rintro ⟨h, _⟩; omega) m1 (-1074) (by simp))
          have g1 : ((m1 : Int) == 9007199254740992) = false := by rw [beq_eq_false_iff_ne]; omega
          clear R
          go_enter Try.func48, Try.ntmps48
          go_wp2_with fail
          refine (unhide c1).mono ?_
          rintro x w1 ⟨rfl, rfl⟩
          go_wp2_with fail
          refine (down_any v N dn _ (unhide HLs) (unhide HBn) (by omega)).mono ?_
          rintro x w2 ⟨v2, rfl, hL2, hB2⟩
          have HL2 : Hid (Ls w2 v2 m1) := by unfold Hid; rw [← unhide hm1]; exact hL2
          replace HLs := hide ((unhide HLs).below hB2)
          replace HB := hide ((unhide HB).trans (hB2.mono (unhide HB).size))
          clear hL2 hB2
          go_wp2_with fail
          refine (small_any v2 m1 _ (unhide HL2) (by omega)).mono ?_
          rintro x w3 ⟨rfl, rfl⟩
          go_wp2_with fail
          refine (bit_any v N D _ (unhide HLs) (by have := unhide hDl; omega)).mono ?_
          rintro x w4 ⟨rfl, rfl⟩
          rw [unhide hhb]
          go_wp2_with fail
          refine (beneath_any v N D _ (unhide HLs) (unhide HBn) (by have := unhide hDl; omega)).mono ?_
          rintro x w5 ⟨rfl, rfl⟩
          rw [unhide hrs]
          go_wp2
          go_ret2
          exact ⟨m1, _, rfl, unhide RR, by omega, unhide HB⟩
        · skip
          have RR := hide (unhide R false (by rw [eq_comm, decide_eq_false_iff_not]; rintro ⟨h, _⟩; omega) m1 (-1074) (by simp))
          have g1 : ((m1 : Int) == 9007199254740992) = false := by rw [beq_eq_false_iff_ne]; omega
          clear R
          go_enter Try.func48, Try.ntmps48
          go_wp2_with fail
          refine (unhide c1).mono ?_
          rintro x w1 ⟨rfl, rfl⟩
          go_wp2_with fail
          refine (down_any v N dn _ (unhide HLs) (unhide HBn) (by omega)).mono ?_
          rintro x w2 ⟨v2, rfl, hL2, hB2⟩
          have HL2 : Hid (Ls w2 v2 m1) := by unfold Hid; rw [← unhide hm1]; exact hL2
          replace HLs := hide ((unhide HLs).below hB2)
          replace HB := hide ((unhide HB).trans (hB2.mono (unhide HB).size))
          clear hL2 hB2
          go_wp2_with fail
          refine (small_any v2 m1 _ (unhide HL2) (by omega)).mono ?_
          rintro x w3 ⟨rfl, rfl⟩
          go_wp2_with fail
          refine (bit_any v N D _ (unhide HLs) (by have := unhide hDl; omega)).mono ?_
          rintro x w4 ⟨rfl, rfl⟩
          rw [unhide hhb]
          go_wp2
          go_ret2
          exact ⟨m1, _, rfl, unhide RR, by omega, unhide HB⟩
      · cases c
        · cases rs
          · have hz := unhide hrs2
            by_cases ho : m1 % 2 = 1
            · have g3 : ((m1 : Int) % 2 == 1) = true := by rw [beq_iff_eq]; omega
              have RU := fun m q h => unhide R true (by rw [eq_comm, decide_eq_true_iff]; exact ⟨rfl, .inr (.inr ho)⟩) m q h
              rcases h53 with h5 | h5
              · have RR := hide (RU 4503599627370496 (-1074 + 1) (by rw [if_pos ⟨rfl, h5⟩]; exact ⟨rfl, rfl⟩))
                have g1 : ((m1 : Int) + 1 == 9007199254740992) = true := by rw [beq_iff_eq]; omega
                have g2 : (m1 : Int) + 1 = 9007199254740992 := by omega
                clear R RU
                go_enter Try.func48, Try.ntmps48
                go_wp2_with fail
                refine (unhide c1).mono ?_
                rintro x w1 ⟨rfl, rfl⟩
                go_wp2_with fail
                refine (down_any v N dn _ (unhide HLs) (unhide HBn) (by omega)).mono ?_
                rintro x w2 ⟨v2, rfl, hL2, hB2⟩
                have HL2 : Hid (Ls w2 v2 m1) := by unfold Hid; rw [← unhide hm1]; exact hL2
                replace HLs := hide ((unhide HLs).below hB2)
                replace HB := hide ((unhide HB).trans (hB2.mono (unhide HB).size))
                clear hL2 hB2
                go_wp2_with fail
                refine (small_any v2 m1 _ (unhide HL2) (by omega)).mono ?_
                rintro x w3 ⟨rfl, rfl⟩
                go_wp2_with fail
                refine (bit_any v N D _ (unhide HLs) (by have := unhide hDl; omega)).mono ?_
                rintro x w4 ⟨rfl, rfl⟩
                rw [unhide hhb]
                go_wp2_with fail
                refine (beneath_any v N D _ (unhide HLs) (unhide HBn) (by have := unhide hDl; omega)).mono ?_
                rintro x w5 ⟨rfl, rfl⟩
                rw [unhide hrs]
                go_wp2
                go_ret2
                exact ⟨4503599627370496, _, rfl, unhide RR, by omega, unhide HB⟩
              · have RR := hide (RU (m1 + 1) (-1074) (by rw [if_neg (fun h => by omega)]; exact ⟨rfl, rfl⟩))
                have g1 : ((m1 : Int) + 1 == 9007199254740992) = false := by rw [beq_eq_false_iff_ne]; omega
                clear R RU
                go_enter Try.func48, Try.ntmps48
                go_wp2_with fail
                refine (unhide c1).mono ?_
                rintro x w1 ⟨rfl, rfl⟩
                go_wp2_with fail
                refine (down_any v N dn _ (unhide HLs) (unhide HBn) (by omega)).mono ?_
                rintro x w2 ⟨v2, rfl, hL2, hB2⟩
                have HL2 : Hid (Ls w2 v2 m1) := by unfold Hid; rw [← unhide hm1]; exact hL2
                replace HLs := hide ((unhide HLs).below hB2)
                replace HB := hide ((unhide HB).trans (hB2.mono (unhide HB).size))
                clear hL2 hB2
                go_wp2_with fail
                refine (small_any v2 m1 _ (unhide HL2) (by omega)).mono ?_
                rintro x w3 ⟨rfl, rfl⟩
                go_wp2_with fail
                refine (bit_any v N D _ (unhide HLs) (by have := unhide hDl; omega)).mono ?_
                rintro x w4 ⟨rfl, rfl⟩
                rw [unhide hhb]
                go_wp2_with fail
                refine (beneath_any v N D _ (unhide HLs) (unhide HBn) (by have := unhide hDl; omega)).mono ?_
                rintro x w5 ⟨rfl, rfl⟩
                rw [unhide hrs]
                go_wp2
                go_ret2
                exact ⟨m1 + 1, _, by go_num, unhide RR, by omega, unhide HB⟩
            · have g3 : ((m1 : Int) % 2 == 1) = false := by rw [beq_eq_false_iff_ne]; omega
              have RR := hide (unhide R false (by rw [eq_comm, decide_eq_false_iff_not]; rintro ⟨_, h | h | h⟩; exact absurd h (by simp); exact absurd (hz.2 h) (by simp); exact ho h) m1 (-1074) (by simp))
              have g1 : ((m1 : Int) == 9007199254740992) = false := by rw [beq_eq_false_iff_ne]; omega
              clear R
              clear hz ho
              go_enter Try.func48, Try.ntmps48
              go_wp2_with fail
              refine (unhide c1).mono ?_
              rintro x w1 ⟨rfl, rfl⟩
              go_wp2_with fail
              refine (down_any v N dn _ (unhide HLs) (unhide HBn) (by omega)).mono ?_
              rintro x w2 ⟨v2, rfl, hL2, hB2⟩
              have HL2 : Hid (Ls w2 v2 m1) := by unfold Hid; rw [← unhide hm1]; exact hL2
              replace HLs := hide ((unhide HLs).below hB2)
              replace HB := hide ((unhide HB).trans (hB2.mono (unhide HB).size))
              clear hL2 hB2
              go_wp2_with fail
              refine (small_any v2 m1 _ (unhide HL2) (by omega)).mono ?_
              rintro x w3 ⟨rfl, rfl⟩
              go_wp2_with fail
              refine (bit_any v N D _ (unhide HLs) (by have := unhide hDl; omega)).mono ?_
              rintro x w4 ⟨rfl, rfl⟩
              rw [unhide hhb]
              go_wp2_with fail
              refine (beneath_any v N D _ (unhide HLs) (unhide HBn) (by have := unhide hDl; omega)).mono ?_
              rintro x w5 ⟨rfl, rfl⟩
              rw [unhide hrs]
              go_wp2
              go_ret2
              exact ⟨m1, _, rfl, unhide RR, by omega, unhide HB⟩
          · have hz := (unhide hrs2).1 rfl
            have RU := fun m q h => unhide R true (by rw [eq_comm, decide_eq_true_iff]; exact ⟨rfl, .inr (.inl hz)⟩) m q h
            rcases h53 with h5 | h5
            · have RR := hide (RU 4503599627370496 (-1074 + 1) (by rw [if_pos ⟨rfl, h5⟩]; exact ⟨rfl, rfl⟩))
              have g1 : ((m1 : Int) + 1 == 9007199254740992) = true := by rw [beq_iff_eq]; omega
              have g2 : (m1 : Int) + 1 = 9007199254740992 := by omega
              clear R RU
              clear hz
              go_enter Try.func48, Try.ntmps48
              go_wp2_with fail
              refine (unhide c1).mono ?_
              rintro x w1 ⟨rfl, rfl⟩
              go_wp2_with fail
              refine (down_any v N dn _ (unhide HLs) (unhide HBn) (by omega)).mono ?_
              rintro x w2 ⟨v2, rfl, hL2, hB2⟩
              have HL2 : Hid (Ls w2 v2 m1) := by unfold Hid; rw [← unhide hm1]; exact hL2
              replace HLs := hide ((unhide HLs).below hB2)
              replace HB := hide ((unhide HB).trans (hB2.mono (unhide HB).size))
              clear hL2 hB2
              go_wp2_with fail
              refine (small_any v2 m1 _ (unhide HL2) (by omega)).mono ?_
              rintro x w3 ⟨rfl, rfl⟩
              go_wp2_with fail
              refine (bit_any v N D _ (unhide HLs) (by have := unhide hDl; omega)).mono ?_
              rintro x w4 ⟨rfl, rfl⟩
              rw [unhide hhb]
              go_wp2_with fail
              refine (beneath_any v N D _ (unhide HLs) (unhide HBn) (by have := unhide hDl; omega)).mono ?_
              rintro x w5 ⟨rfl, rfl⟩
              rw [unhide hrs]
              go_wp2
              go_ret2
              exact ⟨4503599627370496, _, rfl, unhide RR, by omega, unhide HB⟩
            · have RR := hide (RU (m1 + 1) (-1074) (by rw [if_neg (fun h => by omega)]; exact ⟨rfl, rfl⟩))
              have g1 : ((m1 : Int) + 1 == 9007199254740992) = false := by rw [beq_eq_false_iff_ne]; omega
              clear R RU
              clear hz
              go_enter Try.func48, Try.ntmps48
              go_wp2_with fail
              refine (unhide c1).mono ?_
              rintro x w1 ⟨rfl, rfl⟩
              go_wp2_with fail
              refine (down_any v N dn _ (unhide HLs) (unhide HBn) (by omega)).mono ?_
              rintro x w2 ⟨v2, rfl, hL2, hB2⟩
              have HL2 : Hid (Ls w2 v2 m1) := by unfold Hid; rw [← unhide hm1]; exact hL2
              replace HLs := hide ((unhide HLs).below hB2)
              replace HB := hide ((unhide HB).trans (hB2.mono (unhide HB).size))
              clear hL2 hB2
              go_wp2_with fail
              refine (small_any v2 m1 _ (unhide HL2) (by omega)).mono ?_
              rintro x w3 ⟨rfl, rfl⟩
              go_wp2_with fail
              refine (bit_any v N D _ (unhide HLs) (by have := unhide hDl; omega)).mono ?_
              rintro x w4 ⟨rfl, rfl⟩
              rw [unhide hhb]
              go_wp2_with fail
              refine (beneath_any v N D _ (unhide HLs) (unhide HBn) (by have := unhide hDl; omega)).mono ?_
              rintro x w5 ⟨rfl, rfl⟩
              rw [unhide hrs]
              go_wp2
              go_ret2
              exact ⟨m1 + 1, _, by go_num, unhide RR, by omega, unhide HB⟩
        · skip
          have RU := fun m q h => unhide R true (by rw [eq_comm, decide_eq_true_iff]; exact ⟨rfl, .inl rfl⟩) m q h
          rcases h53 with h5 | h5
          · have RR := hide (RU 4503599627370496 (-1074 + 1) (by rw [if_pos ⟨rfl, h5⟩]; exact ⟨rfl, rfl⟩))
            have g1 : ((m1 : Int) + 1 == 9007199254740992) = true := by rw [beq_iff_eq]; omega
            have g2 : (m1 : Int) + 1 = 9007199254740992 := by omega
            clear R RU
            go_enter Try.func48, Try.ntmps48
            go_wp2_with fail
            refine (unhide c1).mono ?_
            rintro x w1 ⟨rfl, rfl⟩
            go_wp2_with fail
            refine (down_any v N dn _ (unhide HLs) (unhide HBn) (by omega)).mono ?_
            rintro x w2 ⟨v2, rfl, hL2, hB2⟩
            have HL2 : Hid (Ls w2 v2 m1) := by unfold Hid; rw [← unhide hm1]; exact hL2
            replace HLs := hide ((unhide HLs).below hB2)
            replace HB := hide ((unhide HB).trans (hB2.mono (unhide HB).size))
            clear hL2 hB2
            go_wp2_with fail
            refine (small_any v2 m1 _ (unhide HL2) (by omega)).mono ?_
            rintro x w3 ⟨rfl, rfl⟩
            go_wp2_with fail
            refine (bit_any v N D _ (unhide HLs) (by have := unhide hDl; omega)).mono ?_
            rintro x w4 ⟨rfl, rfl⟩
            rw [unhide hhb]
            go_wp2
            go_ret2
            exact ⟨4503599627370496, _, rfl, unhide RR, by omega, unhide HB⟩
          · have RR := hide (RU (m1 + 1) (-1074) (by rw [if_neg (fun h => by omega)]; exact ⟨rfl, rfl⟩))
            have g1 : ((m1 : Int) + 1 == 9007199254740992) = false := by rw [beq_eq_false_iff_ne]; omega
            clear R RU
            go_enter Try.func48, Try.ntmps48
            go_wp2_with fail
            refine (unhide c1).mono ?_
            rintro x w1 ⟨rfl, rfl⟩
            go_wp2_with fail
            refine (down_any v N dn _ (unhide HLs) (unhide HBn) (by omega)).mono ?_
            rintro x w2 ⟨v2, rfl, hL2, hB2⟩
            have HL2 : Hid (Ls w2 v2 m1) := by unfold Hid; rw [← unhide hm1]; exact hL2
            replace HLs := hide ((unhide HLs).below hB2)
            replace HB := hide ((unhide HB).trans (hB2.mono (unhide HB).size))
            clear hL2 hB2
            go_wp2_with fail
            refine (small_any v2 m1 _ (unhide HL2) (by omega)).mono ?_
            rintro x w3 ⟨rfl, rfl⟩
            go_wp2_with fail
            refine (bit_any v N D _ (unhide HLs) (by have := unhide hDl; omega)).mono ?_
            rintro x w4 ⟨rfl, rfl⟩
            rw [unhide hhb]
            go_wp2
            go_ret2
            exact ⟨m1 + 1, _, by go_num, unhide RR, by omega, unhide HB⟩
  · obtain rfl : L = Q0 := by omega
    have hq2 : decide (L < -1074) = false := by rw [decide_eq_false_iff_not]; omega
    have he3 : L - e ≤ 60000 := by omega
    by_cases hd : L - e ≤ 0
    · obtain ⟨n, hn⟩ : ∃ n : Nat, L - e = -(n : Int) := ⟨(e - L).toNat, by omega⟩
      have hcf : c = false := by cases c; rfl; have := hbc rfl; omega
      subst hcf
      have hnb : b + n ≤ 53 := by omega
      have R := hide (NE n hn hnb)
      have M := hide (NL n hnb)
      obtain ⟨d, hd1⟩ : ∃ d : Int, L - e = d := ⟨_, rfl⟩
      rw [hd1] at hd hn
      have hneg : -d = (n : Int) := by omega
      skip
      clear NE NC NL CL hbc hn hnb hlast
      go_enter Try.func48, Try.ntmps48
      go_wp2_with fail
      refine (unhide c1).mono ?_
      rintro x w1 ⟨rfl, rfl⟩
      go_wp2_with fail
      refine (up_any v N n _ (unhide HLs) (unhide HBn) (by omega)).mono ?_
      rintro x w2 ⟨v2, rfl, hL2, hB2⟩
      have HL2 := hide hL2
      replace HB := hide ((unhide HB).trans (hB2.mono (unhide HB).size))
      clear hL2 hB2
      go_wp2_with fail
      refine (small_any v2 _ _ (unhide HL2) (Nat.lt_trans (unhide M) (by decide))).mono ?_
      rintro x w3 ⟨rfl, rfl⟩
      generalize N * 2 ^ n = m at *
      go_wp2
      go_ret2
      exact ⟨m, _, rfl, unhide R, unhide M, unhide HB⟩
    · obtain ⟨D, hn⟩ : ∃ D : Nat, L - e = ((D + 1 : Nat) : Int) := ⟨(L - e).toNat - 1, by omega⟩
      obtain ⟨dn, hdn⟩ : ∃ dn, D + 1 = dn := ⟨_, rfl⟩
      have hnb : b ≤ 53 + (D + 1) := by omega
      have R := hide (NC D hn hnb)
      have M := hide (CL D hnb)
      rw [hdn] at hn R M
      have hdd : decide ((dn : Int) ≤ 0) = false := by rw [decide_eq_false_iff_not]; omega
      have hd1 : (dn : Int) - 1 = (D : Int) := by omega
      have hdl : dn ≤ 60000 := by omega
      have hDl : Hid (D ≤ 60000) := by unfold Hid; omega
      obtain ⟨m1, hm1⟩ : ∃ m1, Hid (N / 2 ^ dn = m1) := ⟨_, rfl⟩
      obtain ⟨hb, hhb⟩ : ∃ x, Hid (N / 2 ^ D % 2 = x) := ⟨_, rfl⟩
      obtain ⟨rs, hrs⟩ : ∃ x, Hid ((N % 2 ^ D != 0) = x) := ⟨_, rfl⟩
      have hb2 : hb = 0 ∨ hb = 1 := by have := unhide hhb; omega
      rw [unhide hm1] at R M
      rw [unhide hhb] at R
      have hrs2 : Hid (rs = true ↔ N % 2 ^ D ≠ 0) := by unfold Hid; rw [← unhide hrs, bne_iff_ne]
      have HM2 := unhide M
      have h53 : m1 + 1 = 9007199254740992 ∨ m1 + 1 < 9007199254740992 := by omega
      skip
      clear NE NC NL CL hbc hlast hd hnb hdn
      rcases hb2 with rfl | rfl
      · cases c
        · skip
          have RR := hide (unhide R false (by rw [eq_comm, decide_eq_false_iff_not]; rintro ⟨h, _⟩; omega) m1 L (by simp))
          have g1 : ((m1 : Int) == 9007199254740992) = false := by rw [beq_eq_false_iff_ne]; omega
          clear R
          go_enter Try.func48, Try.ntmps48
          go_wp2_with fail
          refine (unhide c1).mono ?_
          rintro x w1 ⟨rfl, rfl⟩
          go_wp2_with fail
          refine (down_any v N dn _ (unhide HLs) (unhide HBn) (by omega)).mono ?_
          rintro x w2 ⟨v2, rfl, hL2, hB2⟩
          have HL2 : Hid (Ls w2 v2 m1) := by unfold Hid; rw [← unhide hm1]; exact hL2
          replace HLs := hide ((unhide HLs).below hB2)
          replace HB := hide ((unhide HB).trans (hB2.mono (unhide HB).size))
          clear hL2 hB2
          go_wp2_with fail
          refine (small_any v2 m1 _ (unhide HL2) (by omega)).mono ?_
          rintro x w3 ⟨rfl, rfl⟩
          go_wp2_with fail
          refine (bit_any v N D _ (unhide HLs) (by have := unhide hDl; omega)).mono ?_
          rintro x w4 ⟨rfl, rfl⟩
          rw [unhide hhb]
          go_wp2_with fail
          refine (beneath_any v N D _ (unhide HLs) (unhide HBn) (by have := unhide hDl; omega)).mono ?_
          rintro x w5 ⟨rfl, rfl⟩
          rw [unhide hrs]
          go_wp2
          go_ret2
          exact ⟨m1, _, rfl, unhide RR, by omega, unhide HB⟩
        · skip
          have RR := hide (unhide R false (by rw [eq_comm, decide_eq_false_iff_not]; rintro ⟨h, _⟩; omega) m1 L (by simp))
          have g1 : ((m1 : Int) == 9007199254740992) = false := by rw [beq_eq_false_iff_ne]; omega
          clear R
          go_enter Try.func48, Try.ntmps48
          go_wp2_with fail
          refine (unhide c1).mono ?_
          rintro x w1 ⟨rfl, rfl⟩
          go_wp2_with fail
          refine (down_any v N dn _ (unhide HLs) (unhide HBn) (by omega)).mono ?_
          rintro x w2 ⟨v2, rfl, hL2, hB2⟩
          have HL2 : Hid (Ls w2 v2 m1) := by unfold Hid; rw [← unhide hm1]; exact hL2
          replace HLs := hide ((unhide HLs).below hB2)
          replace HB := hide ((unhide HB).trans (hB2.mono (unhide HB).size))
          clear hL2 hB2
          go_wp2_with fail
          refine (small_any v2 m1 _ (unhide HL2) (by omega)).mono ?_
          rintro x w3 ⟨rfl, rfl⟩
          go_wp2_with fail
          refine (bit_any v N D _ (unhide HLs) (by have := unhide hDl; omega)).mono ?_
          rintro x w4 ⟨rfl, rfl⟩
          rw [unhide hhb]
          go_wp2
          go_ret2
          exact ⟨m1, _, rfl, unhide RR, by omega, unhide HB⟩
      · cases c
        · cases rs
          · have hz := unhide hrs2
            by_cases ho : m1 % 2 = 1
            · have g3 : ((m1 : Int) % 2 == 1) = true := by rw [beq_iff_eq]; omega
              have RU := fun m q h => unhide R true (by rw [eq_comm, decide_eq_true_iff]; exact ⟨rfl, .inr (.inr ho)⟩) m q h
              rcases h53 with h5 | h5
              · have RR := hide (RU 4503599627370496 (L + 1) (by rw [if_pos ⟨rfl, h5⟩]; exact ⟨rfl, rfl⟩))
                have g1 : ((m1 : Int) + 1 == 9007199254740992) = true := by rw [beq_iff_eq]; omega
                have g2 : (m1 : Int) + 1 = 9007199254740992 := by omega
                clear R RU
                go_enter Try.func48, Try.ntmps48
                go_wp2_with fail
                refine (unhide c1).mono ?_
                rintro x w1 ⟨rfl, rfl⟩
                go_wp2_with fail
                refine (down_any v N dn _ (unhide HLs) (unhide HBn) (by omega)).mono ?_
                rintro x w2 ⟨v2, rfl, hL2, hB2⟩
                have HL2 : Hid (Ls w2 v2 m1) := by unfold Hid; rw [← unhide hm1]; exact hL2
                replace HLs := hide ((unhide HLs).below hB2)
                replace HB := hide ((unhide HB).trans (hB2.mono (unhide HB).size))
                clear hL2 hB2
                go_wp2_with fail
                refine (small_any v2 m1 _ (unhide HL2) (by omega)).mono ?_
                rintro x w3 ⟨rfl, rfl⟩
                go_wp2_with fail
                refine (bit_any v N D _ (unhide HLs) (by have := unhide hDl; omega)).mono ?_
                rintro x w4 ⟨rfl, rfl⟩
                rw [unhide hhb]
                go_wp2_with fail
                refine (beneath_any v N D _ (unhide HLs) (unhide HBn) (by have := unhide hDl; omega)).mono ?_
                rintro x w5 ⟨rfl, rfl⟩
                rw [unhide hrs]
                go_wp2
                go_ret2
                exact ⟨4503599627370496, _, rfl, unhide RR, by omega, unhide HB⟩
              · have RR := hide (RU (m1 + 1) L (by rw [if_neg (fun h => by omega)]; exact ⟨rfl, rfl⟩))
                have g1 : ((m1 : Int) + 1 == 9007199254740992) = false := by rw [beq_eq_false_iff_ne]; omega
                clear R RU
                go_enter Try.func48, Try.ntmps48
                go_wp2_with fail
                refine (unhide c1).mono ?_
                rintro x w1 ⟨rfl, rfl⟩
                go_wp2_with fail
                refine (down_any v N dn _ (unhide HLs) (unhide HBn) (by omega)).mono ?_
                rintro x w2 ⟨v2, rfl, hL2, hB2⟩
                have HL2 : Hid (Ls w2 v2 m1) := by unfold Hid; rw [← unhide hm1]; exact hL2
                replace HLs := hide ((unhide HLs).below hB2)
                replace HB := hide ((unhide HB).trans (hB2.mono (unhide HB).size))
                clear hL2 hB2
                go_wp2_with fail
                refine (small_any v2 m1 _ (unhide HL2) (by omega)).mono ?_
                rintro x w3 ⟨rfl, rfl⟩
                go_wp2_with fail
                refine (bit_any v N D _ (unhide HLs) (by have := unhide hDl; omega)).mono ?_
                rintro x w4 ⟨rfl, rfl⟩
                rw [unhide hhb]
                go_wp2_with fail
                refine (beneath_any v N D _ (unhide HLs) (unhide HBn) (by have := unhide hDl; omega)).mono ?_
                rintro x w5 ⟨rfl, rfl⟩
                rw [unhide hrs]
                go_wp2
                go_ret2
                exact ⟨m1 + 1, _, by go_num, unhide RR, by omega, unhide HB⟩
            · have g3 : ((m1 : Int) % 2 == 1) = false := by rw [beq_eq_false_iff_ne]; omega
              have RR := hide (unhide R false (by rw [eq_comm, decide_eq_false_iff_not]; rintro ⟨_, h | h | h⟩; exact absurd h (by simp); exact absurd (hz.2 h) (by simp); exact ho h) m1 L (by simp))
              have g1 : ((m1 : Int) == 9007199254740992) = false := by rw [beq_eq_false_iff_ne]; omega
              clear R
              clear hz ho
              go_enter Try.func48, Try.ntmps48
              go_wp2_with fail
              refine (unhide c1).mono ?_
              rintro x w1 ⟨rfl, rfl⟩
              go_wp2_with fail
              refine (down_any v N dn _ (unhide HLs) (unhide HBn) (by omega)).mono ?_
              rintro x w2 ⟨v2, rfl, hL2, hB2⟩
              have HL2 : Hid (Ls w2 v2 m1) := by unfold Hid; rw [← unhide hm1]; exact hL2
              replace HLs := hide ((unhide HLs).below hB2)
              replace HB := hide ((unhide HB).trans (hB2.mono (unhide HB).size))
              clear hL2 hB2
              go_wp2_with fail
              refine (small_any v2 m1 _ (unhide HL2) (by omega)).mono ?_
              rintro x w3 ⟨rfl, rfl⟩
              go_wp2_with fail
              refine (bit_any v N D _ (unhide HLs) (by have := unhide hDl; omega)).mono ?_
              rintro x w4 ⟨rfl, rfl⟩
              rw [unhide hhb]
              go_wp2_with fail
              refine (beneath_any v N D _ (unhide HLs) (unhide HBn) (by have := unhide hDl; omega)).mono ?_
              rintro x w5 ⟨rfl, rfl⟩
              rw [unhide hrs]
              go_wp2
              go_ret2
              exact ⟨m1, _, rfl, unhide RR, by omega, unhide HB⟩
          · have hz := (unhide hrs2).1 rfl
            have RU := fun m q h => unhide R true (by rw [eq_comm, decide_eq_true_iff]; exact ⟨rfl, .inr (.inl hz)⟩) m q h
            rcases h53 with h5 | h5
            · have RR := hide (RU 4503599627370496 (L + 1) (by rw [if_pos ⟨rfl, h5⟩]; exact ⟨rfl, rfl⟩))
              have g1 : ((m1 : Int) + 1 == 9007199254740992) = true := by rw [beq_iff_eq]; omega
              have g2 : (m1 : Int) + 1 = 9007199254740992 := by omega
              clear R RU
              clear hz
              go_enter Try.func48, Try.ntmps48
              go_wp2_with fail
              refine (unhide c1).mono ?_
              rintro x w1 ⟨rfl, rfl⟩
              go_wp2_with fail
              refine (down_any v N dn _ (unhide HLs) (unhide HBn) (by omega)).mono ?_
              rintro x w2 ⟨v2, rfl, hL2, hB2⟩
              have HL2 : Hid (Ls w2 v2 m1) := by unfold Hid; rw [← unhide hm1]; exact hL2
              replace HLs := hide ((unhide HLs).below hB2)
              replace HB := hide ((unhide HB).trans (hB2.mono (unhide HB).size))
              clear hL2 hB2
              go_wp2_with fail
              refine (small_any v2 m1 _ (unhide HL2) (by omega)).mono ?_
              rintro x w3 ⟨rfl, rfl⟩
              go_wp2_with fail
              refine (bit_any v N D _ (unhide HLs) (by have := unhide hDl; omega)).mono ?_
              rintro x w4 ⟨rfl, rfl⟩
              rw [unhide hhb]
              go_wp2_with fail
              refine (beneath_any v N D _ (unhide HLs) (unhide HBn) (by have := unhide hDl; omega)).mono ?_
              rintro x w5 ⟨rfl, rfl⟩
              rw [unhide hrs]
              go_wp2
              go_ret2
              exact ⟨4503599627370496, _, rfl, unhide RR, by omega, unhide HB⟩
            · have RR := hide (RU (m1 + 1) L (by rw [if_neg (fun h => by omega)]; exact ⟨rfl, rfl⟩))
              have g1 : ((m1 : Int) + 1 == 9007199254740992) = false := by rw [beq_eq_false_iff_ne]; omega
              clear R RU
              clear hz
              go_enter Try.func48, Try.ntmps48
              go_wp2_with fail
              refine (unhide c1).mono ?_
              rintro x w1 ⟨rfl, rfl⟩
              go_wp2_with fail
              refine (down_any v N dn _ (unhide HLs) (unhide HBn) (by omega)).mono ?_
              rintro x w2 ⟨v2, rfl, hL2, hB2⟩
              have HL2 : Hid (Ls w2 v2 m1) := by unfold Hid; rw [← unhide hm1]; exact hL2
              replace HLs := hide ((unhide HLs).below hB2)
              replace HB := hide ((unhide HB).trans (hB2.mono (unhide HB).size))
              clear hL2 hB2
              go_wp2_with fail
              refine (small_any v2 m1 _ (unhide HL2) (by omega)).mono ?_
              rintro x w3 ⟨rfl, rfl⟩
              go_wp2_with fail
              refine (bit_any v N D _ (unhide HLs) (by have := unhide hDl; omega)).mono ?_
              rintro x w4 ⟨rfl, rfl⟩
              rw [unhide hhb]
              go_wp2_with fail
              refine (beneath_any v N D _ (unhide HLs) (unhide HBn) (by have := unhide hDl; omega)).mono ?_
              rintro x w5 ⟨rfl, rfl⟩
              rw [unhide hrs]
              go_wp2
              go_ret2
              exact ⟨m1 + 1, _, by go_num, unhide RR, by omega, unhide HB⟩
        · skip
          have RU := fun m q h => unhide R true (by rw [eq_comm, decide_eq_true_iff]; exact ⟨rfl, .inl rfl⟩) m q h
          rcases h53 with h5 | h5
          · have RR := hide (RU 4503599627370496 (L + 1) (by rw [if_pos ⟨rfl, h5⟩]; exact ⟨rfl, rfl⟩))
            have g1 : ((m1 : Int) + 1 == 9007199254740992) = true := by rw [beq_iff_eq]; omega
            have g2 : (m1 : Int) + 1 = 9007199254740992 := by omega
            clear R RU
            go_enter Try.func48, Try.ntmps48
            go_wp2_with fail
            refine (unhide c1).mono ?_
            rintro x w1 ⟨rfl, rfl⟩
            go_wp2_with fail
            refine (down_any v N dn _ (unhide HLs) (unhide HBn) (by omega)).mono ?_
            rintro x w2 ⟨v2, rfl, hL2, hB2⟩
            have HL2 : Hid (Ls w2 v2 m1) := by unfold Hid; rw [← unhide hm1]; exact hL2
            replace HLs := hide ((unhide HLs).below hB2)
            replace HB := hide ((unhide HB).trans (hB2.mono (unhide HB).size))
            clear hL2 hB2
            go_wp2_with fail
            refine (small_any v2 m1 _ (unhide HL2) (by omega)).mono ?_
            rintro x w3 ⟨rfl, rfl⟩
            go_wp2_with fail
            refine (bit_any v N D _ (unhide HLs) (by have := unhide hDl; omega)).mono ?_
            rintro x w4 ⟨rfl, rfl⟩
            rw [unhide hhb]
            go_wp2
            go_ret2
            exact ⟨4503599627370496, _, rfl, unhide RR, by omega, unhide HB⟩
          · have RR := hide (RU (m1 + 1) L (by rw [if_neg (fun h => by omega)]; exact ⟨rfl, rfl⟩))
            have g1 : ((m1 : Int) + 1 == 9007199254740992) = false := by rw [beq_eq_false_iff_ne]; omega
            clear R RU
            go_enter Try.func48, Try.ntmps48
            go_wp2_with fail
            refine (unhide c1).mono ?_
            rintro x w1 ⟨rfl, rfl⟩
            go_wp2_with fail
            refine (down_any v N dn _ (unhide HLs) (unhide HBn) (by omega)).mono ?_
            rintro x w2 ⟨v2, rfl, hL2, hB2⟩
            have HL2 : Hid (Ls w2 v2 m1) := by unfold Hid; rw [← unhide hm1]; exact hL2
            replace HLs := hide ((unhide HLs).below hB2)
            replace HB := hide ((unhide HB).trans (hB2.mono (unhide HB).size))
            clear hL2 hB2
            go_wp2_with fail
            refine (small_any v2 m1 _ (unhide HL2) (by omega)).mono ?_
            rintro x w3 ⟨rfl, rfl⟩
            go_wp2_with fail
            refine (bit_any v N D _ (unhide HLs) (by have := unhide hDl; omega)).mono ?_
            rintro x w4 ⟨rfl, rfl⟩
            rw [unhide hhb]
            go_wp2
            go_ret2
            exact ⟨m1 + 1, _, by go_num, unhide RR, by omega, unhide HB⟩
end Go.Proofs.Ytnikbaibchgmnaa
