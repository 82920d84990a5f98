/-
  The document's Sum.
-/
import Derived.Test.YtnikbaibchgmnaaParts
namespace Go.Proofs.Ytnikbaibchgmnaa
open Go.RowKit Ieee

theorem pow_lt_B {x k m : Nat} (h : x < 2 ^ k) (hk : k ≤ 32 * m) : x < 4294967296 ^ m := by
  rw [show (4294967296 : Nat) = 2 ^ 32 from rfl, ← Nat.pow_mul]
  exact Nat.lt_of_lt_of_le h (Nat.pow_le_pow_right (by decide) hk)
theorem kx_lt {r : Nat} (h : r < 9218868437227405312) : kx r ≤ 2045 := by unfold kx; split <;> omega
theorem part_lt (r c : Nat) (h : r < 9218868437227405312) : mg r * 2 ^ (kx r - c) < 4294967296 ^ 66 := by
  have h1 := mg_lt r
  have h2 := kx_lt h
  obtain ⟨K, hK⟩ : ∃ K, K = 2098 := ⟨_, rfl⟩
  refine pow_lt_B (k := K) ?_ (by omega)
  have : mg r * 2 ^ (kx r - c) < 2 ^ 53 * 2 ^ (kx r - c) := Nat.mul_lt_mul_of_pos_right h1 (Nat.two_pow_pos _)
  refine Nat.lt_of_lt_of_le this ?_
  rw [← Nat.pow_add]
  exact Nat.pow_le_pow_right (by decide) (by omega)
theorem B66 : 4294967296 ^ 66 + 4294967296 ^ 66 ≤ 4294967296 ^ 67 := by rw [Nat.pow_succ]; omega
theorem B_mono {x a b : Nat} (h : x < 4294967296 ^ a) (hab : a ≤ b) : x < 4294967296 ^ b := Nat.lt_of_lt_of_le h (Nat.pow_le_pow_right (by decide) hab)
/-- What Sum answers: of what size, and of which sign. -/
structure SumIs (a b : Nat) (neg : Bool) (N : Nat) (E : Int) : Prop where
  place : E = -1074 + (min (kx (rg a)) (kx (rg b)) : Nat)
  size : N * 2 ^ min (kx (rg a)) (kx (rg b)) = (S a + S b).natAbs
  sign : N ≠ 0 → neg = decide (S a + S b < 0)
  bound : N < 4294967296 ^ 67
theorem S_parts (a c : Nat) (h : c ≤ kx (rg a)) : S a = (if sg a then -((mg (rg a) * 2 ^ (kx (rg a) - c) : Nat) : Int) else ((mg (rg a) * 2 ^ (kx (rg a) - c) : Nat) : Int)) * 2 ^ c := by
  have hu : up (rg a) = mg (rg a) * 2 ^ (kx (rg a) - c) * 2 ^ c := by rw [up_eq, Nat.mul_assoc, ← Nat.pow_add, Nat.sub_add_cancel h]
  unfold S
  rw [hu, Int.natCast_mul (mg (rg a) * 2 ^ (kx (rg a) - c)) (2 ^ c), Int.natCast_pow]
  cases sg a
  · rfl
  · simp [Int.neg_mul]
theorem mulpow_natAbs (x : Int) (T : Nat) : (x * 2 ^ T).natAbs = x.natAbs * 2 ^ T := by
  rw [Int.natAbs_mul, Int.natAbs_pow]; rfl
theorem mulpow_neg {x : Int} {T : Nat} : (x * 2 ^ T < 0) = (x < 0) := by
  have hp := pow2_pos T
  apply propext
  constructor
  · intro h
    by_cases h1 : x < 0
    · exact h1
    · have := Int.mul_nonneg (Int.not_lt.1 h1) (Int.le_of_lt hp); omega
  · intro h; exact Int.mul_neg_of_neg_of_pos h hp
theorem sum_same (a b : Nat) (hs : sg a = sg b) (ha : rg a < 9218868437227405312) (hb : rg b < 9218868437227405312) (c : Nat) (hc : min (kx (rg a)) (kx (rg b)) = c) (E : Int) (hE : E = -1074 + (c : Nat)) : SumIs a b (sg a) (mg (rg a) * 2 ^ (kx (rg a) - c) + mg (rg b) * 2 ^ (kx (rg b) - c)) E := by
  have e1 := S_parts a c (by omega)
  have e2 := S_parts b c (by omega)
  have p1 := part_lt (rg a) c ha
  have p2 := part_lt (rg b) c hb
  have hB := B66
  rw [← hs] at e2
  generalize mg (rg a) * 2 ^ (kx (rg a) - c) = x at *
  generalize mg (rg b) * 2 ^ (kx (rg b) - c) = y at *
  refine ⟨by rw [hc, hE], ?_, fun hN => ?_, by omega⟩
  · rw [hc, e1, e2, ← Int.add_mul, mulpow_natAbs]; congr 1; cases sg a <;> simp <;> omega
  · rw [e1, e2, ← Int.add_mul, eq_comm]; simp only [mulpow_neg]
    cases sg a
    · rw [decide_eq_false]; simp; omega
    · rw [decide_eq_true]; simp; omega
theorem sum_diff (a b : Nat) (hs : sg a ≠ sg b) (ha : rg a < 9218868437227405312) (hb : rg b < 9218868437227405312) (c : Nat) (hc : min (kx (rg a)) (kx (rg b)) = c) (E : Int) (hE : E = -1074 + (c : Nat)) :
    (mg (rg a) * 2 ^ (kx (rg a) - c) < mg (rg b) * 2 ^ (kx (rg b) - c) → SumIs a b (sg b) (mg (rg b) * 2 ^ (kx (rg b) - c) - mg (rg a) * 2 ^ (kx (rg a) - c)) E) ∧ (¬ mg (rg a) * 2 ^ (kx (rg a) - c) < mg (rg b) * 2 ^ (kx (rg b) - c) → SumIs a b (sg a) (mg (rg a) * 2 ^ (kx (rg a) - c) - mg (rg b) * 2 ^ (kx (rg b) - c)) E) := by
  have e1 := S_parts a c (by omega)
  have e2 := S_parts b c (by omega)
  have p1 := part_lt (rg a) c ha
  have p2 := part_lt (rg b) c hb
  have hB := B66
  have hs2 : sg b = !sg a := by cases h1 : sg a <;> cases h2 : sg b <;> simp_all
  rw [hs2] at e2 ⊢
  generalize mg (rg a) * 2 ^ (kx (rg a) - c) = x at *
  generalize mg (rg b) * 2 ^ (kx (rg b) - c) = y at *
  constructor
  · intro hlt
    refine ⟨by rw [hc, hE], ?_, fun hN => ?_, by omega⟩
    · rw [hc, e1, e2, ← Int.add_mul, mulpow_natAbs]; congr 1; cases sg a <;> simp <;> omega
    · rw [e1, e2, ← Int.add_mul, eq_comm]; simp only [mulpow_neg]
      cases sg a
      · rw [decide_eq_true]
        · rfl
        · simp; omega
      · rw [decide_eq_false]
        · rfl
        · simp; omega
  · intro hlt
    refine ⟨by rw [hc, hE], ?_, fun hN => ?_, by omega⟩
    · rw [hc, e1, e2, ← Int.add_mul, mulpow_natAbs]; congr 1; cases sg a <;> simp <;> omega
    · rw [e1, e2, ← Int.add_mul, eq_comm]; simp only [mulpow_neg]
      cases sg a
      · rw [decide_eq_false]; simp; omega
      · rw [decide_eq_true]; simp; omega

set_option maxRecDepth 100000 in
set_option maxHeartbeats 3200000 in
theorem sum_any (a b : Nat) (ha : a < 18446744073709551616) (hb : b < 18446744073709551616) (fa : rg a < 9218868437227405312) (fb : rg b < 9218868437227405312) (w : World) :
    Calls Try.prog 28 #[.int .u64 (a : Int), .int .u64 (b : Int)] w fun e w' => ∃ v N neg E, e = .returned (.tuple #[.bool neg, v, .int .i64 E]) ∧ Ls w' v N ∧ SumIs a b neg N E ∧ Below w.heap.size w w' := by
  have cA := parts_any a ha fa
  have cB := parts_any b hb fb
  obtain ⟨c, hc⟩ : ∃ c, min (kx (rg a)) (kx (rg b)) = c := ⟨_, rfl⟩
  have HS1 := fun h => sum_same a b h fa fb c hc _ rfl
  have HS2 := fun h => sum_diff a b h fa fb c hc _ rfl
  have x1 : mg (rg a) < 18446744073709551616 := Nat.lt_trans (mg_lt _) (by decide)
  have x2 : mg (rg b) < 18446744073709551616 := Nat.lt_trans (mg_lt _) (by decide)
  have y1 : mg (rg a) < 4294967296 ^ 1000 := B_mono (a := 2) (b := 1000) (Nat.lt_trans (mg_lt _) (by decide)) (by decide)
  have y2 : mg (rg b) < 4294967296 ^ 1000 := B_mono (a := 2) (b := 1000) (Nat.lt_trans (mg_lt _) (by decide)) (by decide)
  have k1 := kx_lt fa
  have k2 := kx_lt fb
  have z1 : mg (rg a) * 2 ^ (kx (rg a) - c) < 4294967296 ^ 1000 := B_mono (b := 1000) (part_lt (rg a) c fa) (by decide)
  have z2 : mg (rg b) * 2 ^ (kx (rg b) - c) < 4294967296 ^ 1000 := B_mono (b := 1000) (part_lt (rg b) c fb) (by decide)
  have HB := hide (Below.refl w.heap.size w)
  obtain ⟨na, hna⟩ : ∃ n, kx (rg a) - c = n := ⟨_, rfl⟩
  obtain ⟨nb, hnb⟩ : ∃ n, kx (rg b) - c = n := ⟨_, rfl⟩
  rw [hna] at z1 HS1 HS2
  rw [hnb] at z2 HS1 HS2
  obtain ⟨EA, hEA⟩ : ∃ E : Int, -1074 + (kx (rg a) : Int) = E := ⟨_, rfl⟩
  obtain ⟨EB, hEB⟩ : ∃ E : Int, -1074 + (kx (rg b) : Int) = E := ⟨_, rfl⟩
  obtain ⟨EC, hEC⟩ : ∃ E : Int, -1074 + ((c : Nat) : Int) = E := ⟨_, rfl⟩
  rw [hEA] at cA
  rw [hEB] at cB
  rw [hEC] at HS1 HS2
  have hk : (EC = EA ∧ EA ≤ EB ∧ na = 0 ∧ EB - EA = (nb : Int)) ∨ (EC = EB ∧ EB < EA ∧ nb = 0 ∧ EA - EB = (na : Int)) := by omega
  have rng : -1074 ≤ EA ∧ EA ≤ 971 ∧ -1074 ≤ EB ∧ EB ≤ 971 := by omega
  have hn1 : na ≤ 10000 := by omega
  have hn2 : nb ≤ 10000 := by omega
  have HSS := hide HS1
  have HSD := hide HS2
  have HX := hide (And.intro x1 (And.intro x2 (And.intro y1 (And.intro y2 (And.intro z1 z2)))))
  clear HS1 HS2 x1 x2 y1 y2 z1 z2 k1 k2 hna hnb hEA hEB hEC hc fa fb ha hb
  generalize mg (rg a) = ma at *
  generalize mg (rg b) = mb at *
  generalize sg a = sa at *
  generalize sg b = sb at *
  replace cA := hide cA
  replace cB := hide cB
  have be := bool_eql
  rcases hk with ⟨rfl, h1, rfl, h2⟩ | ⟨rfl, h1, rfl, h2⟩
  · have d1 : decide (EB < EC) = false := by rw [decide_eq_false_iff_not]; omega
    go_enter Try.func28, Try.ntmps28
    go_wp2_with fail
    refine (unhide cA _).mono ?_
    rintro e w1 ⟨rfl, rfl⟩
    go_wp2_with fail
    refine (unhide cB _).mono ?_
    rintro e w1 ⟨rfl, rfl⟩
    go_wp2_with fail
    refine (list_any ma _ (unhide HX).1).mono ?_
    rintro e pw ⟨pv, rfl, pL, pB⟩
    have pH := hide pL
    replace HB := hide ((unhide HB).trans (pB.mono (unhide HB).size))
    clear pL pB
    go_wp2_with fail
    refine (up_any pv ma 0 _ (unhide pH) (unhide HX).2.2.1 (by omega)).mono ?_
    rintro e qw ⟨qv, rfl, qL, qB⟩
    have qH := hide qL
    replace HB := hide ((unhide HB).trans (qB.mono (unhide HB).size))
    clear qL qB
    go_wp2_with fail
    refine (list_any mb _ (unhide HX).2.1).mono ?_
    rintro e rw ⟨rv, rfl, rL, rB⟩
    have rH := hide rL
    replace HB := hide ((unhide HB).trans (rB.mono (unhide HB).size))
    have qH2 := hide ((unhide qH).below rB)
    clear rL rB qH
    go_wp2_with fail
    refine (up_any rv mb nb _ (unhide rH) (unhide HX).2.2.2.1 hn2).mono ?_
    rintro e sw ⟨sv, rfl, sL, sB⟩
    have sH := hide sL
    replace HB := hide ((unhide HB).trans (sB.mono (unhide HB).size))
    have qH3 := hide ((unhide qH2).below sB)
    clear sL sB qH2 pH rH
    by_cases hs : sa = sb
    · subst hs
      have e1 : (sa == sa) = true := by cases sa <;> rfl
      go_wp2_with fail
      refine (plus_any qv sv (ma * 2 ^ 0) (mb * 2 ^ nb) _ (unhide qH3) (unhide sH) (unhide HX).2.2.2.2.1 (unhide HX).2.2.2.2.2).mono ?_
      rintro e tw ⟨tv, rfl, tL, tB⟩
      have tH := hide tL
      replace HB := hide ((unhide HB).trans (tB.mono (unhide HB).size))
      clear tL tB
      go_wp2
      go_ret3
      exact ⟨_, _, _, _, rfl, unhide tH, unhide HSS (by first | rfl | trivial), unhide HB⟩
    · have e1 : (sa == sb) = false := beq_eq_false_iff_ne.2 hs
      go_wp2_with fail
      refine (cmp_any qv sv (ma * 2 ^ 0) (mb * 2 ^ nb) _ (unhide qH3) (unhide sH) (unhide HX).2.2.2.2.1 (unhide HX).2.2.2.2.2).mono ?_
      rintro e cw ⟨rfl, cB⟩
      replace HB := hide ((unhide HB).trans (cB.mono (unhide HB).size))
      have qH4 := hide ((unhide qH3).below cB)
      have sH4 := hide ((unhide sH).below cB)
      clear cB qH3 sH
      by_cases hlt : ma * 2 ^ 0 < mb * 2 ^ nb
      · have hcm : cmpN (ma * 2 ^ 0) (mb * 2 ^ nb) = -1 := if_pos hlt
        rw [hcm]
        have HM := hide ((unhide HSD hs).1 hlt)
        go_wp2_with fail
        refine (minus_any sv qv (mb * 2 ^ nb) (ma * 2 ^ 0) _ (unhide sH4) (unhide qH4) (unhide HX).2.2.2.2.2 (Nat.le_of_lt hlt)).mono ?_
        rintro e tw ⟨tv, rfl, tL, tB⟩
        have tH := hide tL
        replace HB := hide ((unhide HB).trans (tB.mono (unhide HB).size))
        clear tL tB
        go_wp2
        go_ret3
        exact ⟨_, _, _, _, rfl, unhide tH, unhide HM, unhide HB⟩
      · have hcm : Hid (0 ≤ cmpN (ma * 2 ^ 0) (mb * 2 ^ nb)) := by unfold Hid cmpN; rw [if_neg hlt]; split <;> decide
        have HM := hide ((unhide HSD hs).2 hlt)
        have hle : Hid (mb * 2 ^ nb ≤ ma * 2 ^ 0) := by unfold Hid; omega
        generalize cmpN (ma * 2 ^ 0) (mb * 2 ^ nb) = cc at *
        have hcc : 0 ≤ cc := unhide hcm
        go_wp2_with fail
        refine (minus_any qv sv (ma * 2 ^ 0) (mb * 2 ^ nb) _ (unhide qH4) (unhide sH4) (unhide HX).2.2.2.2.1 (unhide hle)).mono ?_
        rintro e tw ⟨tv, rfl, tL, tB⟩
        have tH := hide tL
        replace HB := hide ((unhide HB).trans (tB.mono (unhide HB).size))
        clear tL tB
        go_wp2
        go_ret3
        exact ⟨_, _, _, _, rfl, unhide tH, unhide HM, unhide HB⟩
  · skip
    go_enter Try.func28, Try.ntmps28
    go_wp2_with fail
    refine (unhide cA _).mono ?_
    rintro e w1 ⟨rfl, rfl⟩
    go_wp2_with fail
    refine (unhide cB _).mono ?_
    rintro e w1 ⟨rfl, rfl⟩
    go_wp2_with fail
    refine (list_any ma _ (unhide HX).1).mono ?_
    rintro e pw ⟨pv, rfl, pL, pB⟩
    have pH := hide pL
    replace HB := hide ((unhide HB).trans (pB.mono (unhide HB).size))
    clear pL pB
    go_wp2_with fail
    refine (up_any pv ma na _ (unhide pH) (unhide HX).2.2.1 hn1).mono ?_
    rintro e qw ⟨qv, rfl, qL, qB⟩
    have qH := hide qL
    replace HB := hide ((unhide HB).trans (qB.mono (unhide HB).size))
    clear qL qB
    go_wp2_with fail
    refine (list_any mb _ (unhide HX).2.1).mono ?_
    rintro e rw ⟨rv, rfl, rL, rB⟩
    have rH := hide rL
    replace HB := hide ((unhide HB).trans (rB.mono (unhide HB).size))
    have qH2 := hide ((unhide qH).below rB)
    clear rL rB qH
    go_wp2_with fail
    refine (up_any rv mb 0 _ (unhide rH) (unhide HX).2.2.2.1 (by omega)).mono ?_
    rintro e sw ⟨sv, rfl, sL, sB⟩
    have sH := hide sL
    replace HB := hide ((unhide HB).trans (sB.mono (unhide HB).size))
    have qH3 := hide ((unhide qH2).below sB)
    clear sL sB qH2 pH rH
    by_cases hs : sa = sb
    · subst hs
      have e1 : (sa == sa) = true := by cases sa <;> rfl
      go_wp2_with fail
      refine (plus_any qv sv (ma * 2 ^ na) (mb * 2 ^ 0) _ (unhide qH3) (unhide sH) (unhide HX).2.2.2.2.1 (unhide HX).2.2.2.2.2).mono ?_
      rintro e tw ⟨tv, rfl, tL, tB⟩
      have tH := hide tL
      replace HB := hide ((unhide HB).trans (tB.mono (unhide HB).size))
      clear tL tB
      go_wp2
      go_ret3
      exact ⟨_, _, _, _, rfl, unhide tH, unhide HSS (by first | rfl | trivial), unhide HB⟩
    · have e1 : (sa == sb) = false := beq_eq_false_iff_ne.2 hs
      go_wp2_with fail
      refine (cmp_any qv sv (ma * 2 ^ na) (mb * 2 ^ 0) _ (unhide qH3) (unhide sH) (unhide HX).2.2.2.2.1 (unhide HX).2.2.2.2.2).mono ?_
      rintro e cw ⟨rfl, cB⟩
      replace HB := hide ((unhide HB).trans (cB.mono (unhide HB).size))
      have qH4 := hide ((unhide qH3).below cB)
      have sH4 := hide ((unhide sH).below cB)
      clear cB qH3 sH
      by_cases hlt : ma * 2 ^ na < mb * 2 ^ 0
      · have hcm : cmpN (ma * 2 ^ na) (mb * 2 ^ 0) = -1 := if_pos hlt
        rw [hcm]
        have HM := hide ((unhide HSD hs).1 hlt)
        go_wp2_with fail
        refine (minus_any sv qv (mb * 2 ^ 0) (ma * 2 ^ na) _ (unhide sH4) (unhide qH4) (unhide HX).2.2.2.2.2 (Nat.le_of_lt hlt)).mono ?_
        rintro e tw ⟨tv, rfl, tL, tB⟩
        have tH := hide tL
        replace HB := hide ((unhide HB).trans (tB.mono (unhide HB).size))
        clear tL tB
        go_wp2
        go_ret3
        exact ⟨_, _, _, _, rfl, unhide tH, unhide HM, unhide HB⟩
      · have hcm : Hid (0 ≤ cmpN (ma * 2 ^ na) (mb * 2 ^ 0)) := by unfold Hid cmpN; rw [if_neg hlt]; split <;> decide
        have HM := hide ((unhide HSD hs).2 hlt)
        have hle : Hid (mb * 2 ^ 0 ≤ ma * 2 ^ na) := by unfold Hid; omega
        generalize cmpN (ma * 2 ^ na) (mb * 2 ^ 0) = cc at *
        have hcc : 0 ≤ cc := unhide hcm
        go_wp2_with fail
        refine (minus_any qv sv (ma * 2 ^ na) (mb * 2 ^ 0) _ (unhide qH4) (unhide sH4) (unhide HX).2.2.2.2.1 (unhide hle)).mono ?_
        rintro e tw ⟨tv, rfl, tL, tB⟩
        have tH := hide tL
        replace HB := hide ((unhide HB).trans (tB.mono (unhide HB).size))
        clear tL tB
        go_wp2
        go_ret3
        exact ⟨_, _, _, _, rfl, unhide tH, unhide HM, unhide HB⟩
end Go.Proofs.Ytnikbaibchgmnaa
