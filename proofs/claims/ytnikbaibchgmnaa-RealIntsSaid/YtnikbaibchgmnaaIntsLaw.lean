/-
  The document's FromInt and ToInt; RealInts.
-/
import Derived.Test.YtnikbaibchgmnaaRound
import Derived.Test.YtnikbaibchgmnaaToInt
import Derived.Test.YtnikbaibchgmnaaHoldsLaw
namespace Go.Proofs.Ytnikbaibchgmnaa
open Go.RowKit Ieee

theorem from_near (n : Int) : fromN n = double.nearest (decide (n < 0)) (2 * n.natAbs + (false).toNat) (0 - 1) := by
  rw [nearest_double]; rfl
set_option maxRecDepth 100000 in
set_option maxHeartbeats 800000 in
theorem rfrom_any (n : Int) (h1 : -9223372036854775808 ≤ n) (h2 : n ≤ 9223372036854775807) (w : World) :
    Calls Try.prog 23 #[.int .i64 n] w fun e w' => e = .returned (.int .u64 (fromN n : Nat)) ∧ Below w.heap.size w w' := by
  have HB := hide (Below.refl w.heap.size w)
  by_cases h0 : n = 0
  · subst h0
    rw [show fromN 0 = 0 from by decide +kernel]
    clear h1 h2
    go_enter Try.func23, Try.ntmps23
    go_wp2
    go_ret
    exact ⟨rfl, unhide HB⟩
  · have g0 : (n == 0) = false := by rw [beq_eq_false_iff_ne]; exact h0
    have hf := from_near n
    obtain ⟨X, hX⟩ : ∃ X : Nat, n.natAbs = X := ⟨_, rfl⟩
    rw [hX] at hf
    have hXl : X < 18446744073709551616 := by omega
    have hX0 : X ≠ 0 := by omega
    have hXB : X < 4294967296 ^ 1000 := B_mono (a := 2) (b := 1000) (Nat.lt_of_lt_of_le hXl (by decide)) (by decide)
    generalize fromN n = F at *
    by_cases hn : n < 0
    · rw [decide_eq_true hn] at hf
      obtain ⟨Y, hY⟩ : ∃ Y : Int, IntKind.u64.wrap n = Y := ⟨_, rfl⟩
      have hY2 : Y = n + 18446744073709551616 := by rw [← hY, IntKind.wrap_u64]; omega
      have w2 : IntKind.u64.wrap (0 - Y) = (X : Int) := by rw [IntKind.wrap_u64]; omega
      have w3 : IntKind.u64.wrap (-Y) = (X : Int) := by rw [IntKind.wrap_u64]; omega
      have c1 := hide (list_any X w hXl)
      have HX := hide (And.intro hX0 hXB)
      have HF := hide hf
      clear hf hX0 hXB hX hXl hY2 h0
      go_enter Try.func23, Try.ntmps23
      go_wp2_with fail
      refine (unhide c1).mono ?_
      rintro e w1 ⟨v, rfl, hL, hb1⟩
      have HL := hide hL
      replace HB := hide ((unhide HB).trans (hb1.mono (unhide HB).size))
      clear hL hb1
      go_wp2_with fail
      refine (round_any true v X 0 false _ (unhide HL) (unhide HX).1 (unhide HX).2 (by decide) (by decide) (by intro h; cases h)).mono ?_
      rintro e w2 ⟨rfl, hb2⟩
      replace HB := hide ((unhide HB).trans (hb2.mono (unhide HB).size))
      clear hb2
      go_wp2
      go_ret
      exact ⟨by rw [unhide HF]; rfl, unhide HB⟩
    · rw [decide_eq_false hn] at hf
      have w2 : IntKind.u64.wrap n = (X : Int) := by rw [IntKind.wrap_u64]; omega
      have hn2 : 0 ≤ n := by omega
      have hnX : n = (X : Int) := by omega
      subst hnX
      have c1 := hide (list_any X w hXl)
      have HX := hide (And.intro hX0 hXB)
      have HF := hide hf
      have g1 : decide ((X : Int) < 0) = false := by rw [decide_eq_false_iff_not]; omega
      clear hf hX0 hXB hX hXl h0 hn
      go_enter Try.func23, Try.ntmps23
      go_wp2_with fail
      refine (unhide c1).mono ?_
      rintro e w1 ⟨v, rfl, hL, hb1⟩
      have HL := hide hL
      replace HB := hide ((unhide HB).trans (hb1.mono (unhide HB).size))
      clear hL hb1
      go_wp2_with fail
      refine (round_any false v X 0 false _ (unhide HL) (unhide HX).1 (unhide HX).2 (by decide) (by decide) (by intro h; cases h)).mono ?_
      rintro e w2 ⟨rfl, hb2⟩
      replace HB := hide ((unhide HB).trans (hb2.mono (unhide HB).size))
      clear hb2
      go_wp2
      go_ret
      exact ⟨by rw [unhide HF]; rfl, unhide HB⟩

/-- What ToInt answers, by the whole part. -/
theorem toN_fin (T a : Nat) (hT : T = 1074) (ha : a < 18446744073709551616) (hf : rg a < 9218868437227405312) : toN T a = (if sg a then (if up (rg a) / 2 ^ T ≤ 9223372036854775808 then (-((up (rg a) / 2 ^ T : Nat) : Int), true) else (0, false)) else (if up (rg a) / 2 ^ T < 9223372036854775808 then (((up (rg a) / 2 ^ T : Nat) : Int), true) else (0, false))) := by
  have n : isN a = false := by rw [isN_eq, decide_eq_false (by omega)]
  have hk := key_S a ha
  have hp := Nat.two_pow_pos T
  have q1 : rg a < 4890909195324358656 ↔ up (rg a) / 2 ^ T < 9223372036854775808 := by
    rw [Nat.div_lt_iff_lt_mul hp, ← up_K T hT, up_lt_iff]
  have q2 : rg a ≤ 4890909195324358656 ↔ up (rg a) / 2 ^ T ≤ 9223372036854775808 := by
    constructor
    · intro h
      have := Nat.div_le_div_right (c := 2 ^ T) (up_le h)
      rwa [up_K T hT, Nat.mul_div_cancel _ hp] at this
    · intro h
      rcases Nat.lt_or_ge 4890909195324358656 (rg a) with h2 | h2
      · exfalso
        have h3 := up_le (show 4890909195324358656 + 1 ≤ rg a from h2)
        rw [up_next, show mg 4890909195324358656 = 4503599627370496 from by decide, show kx 4890909195324358656 = 11 + T from by rw [hT]; decide, Nat.pow_add, ← Nat.mul_assoc] at h3
        have h4 := (Nat.le_div_iff_mul_le hp).2 h3
        have h5 : (4503599627370496 + 1) * 2 ^ 11 = 9223372036854777856 := by decide
        rw [h5] at h4
        omega
      · exact h2
  unfold toN
  generalize up (rg a) / 2 ^ T = W at *
  cases hs : sg a
  · rw [hs] at hk
    simp only [Bool.false_eq_true, if_false] at hk ⊢
    by_cases hw : W < 9223372036854775808
    · rw [if_pos hw, if_pos ⟨n, by rw [hk]; omega, by rw [hk]; have := q1.2 hw; omega⟩]
    · rw [if_neg hw, if_neg]
      rintro ⟨_, _, h⟩
      rw [hk] at h
      exact hw (q1.1 (by omega))
  · rw [hs] at hk
    simp only [if_true] at hk ⊢
    by_cases hw : W ≤ 9223372036854775808
    · rw [if_pos hw, if_pos ⟨n, by rw [hk]; have := q2.2 hw; omega, by rw [hk]; omega⟩]
    · rw [if_neg hw, if_neg]
      rintro ⟨_, h, _⟩
      rw [hk] at h
      exact hw (q2.1 (by omega))
theorem toN_out (T a : Nat) (ha : a < 18446744073709551616) (h : 9218868437227405312 ≤ rg a) : toN T a = (0, false) := by
  refine if_neg ?_
  rintro ⟨h1, h2, h3⟩
  have hk := key_S a ha
  rw [hk] at h2 h3
  cases hs : sg a <;> rw [hs] at h2 h3 <;> simp at h2 h3 <;> omega

theorem bl_64 {W : Nat} : bl W ≤ 64 ↔ W < 18446744073709551616 := by
  constructor
  · intro h
    exact Nat.lt_of_lt_of_le (bl_lt W) (Nat.le_trans (Nat.pow_le_pow_right (by decide) h) (by decide))
  · intro h
    unfold bl
    split
    · omega
    · rename_i h0
      have := (Nat.log2_lt h0).2 (show W < 2 ^ 64 from h)
      omega
/-- The last steps of ToInt are these. -/
def endOf (s : Bool) (W : Nat) : Int × Bool := if s then (if W ≤ 9223372036854775808 then (-((W : Nat) : Int), true) else (0, false)) else (if W < 9223372036854775808 then (((W : Nat) : Int), true) else (0, false))

set_option maxRecDepth 100000 in
set_option maxHeartbeats 6400000 in
theorem rto_any (T a : Nat) (hT : T = 1074) (ha : a < 18446744073709551616) (w : World) :
    Calls Try.prog 20 #[.int .u64 (a : Int)] w fun e w' => e = .returned (.tuple #[.int .i64 (toN T a).1, .bool (toN T a).2]) ∧ Below w.heap.size w w' := by
  have cA := rclass_any a ha
  have HB := hide (Below.refl w.heap.size w)
  rcases Nat.lt_or_ge (rg a) 9218868437227405312 with fa | fa
  · have hE : toN T a = endOf (sg a) (up (rg a) / 2 ^ T) := toN_fin T a hT ha fa
    have kA := class_fin fa
    have gA0 : (classN a == 0) = false := by rw [beq_eq_false_iff_ne]; omega
    have gA1 : (classN a == 1) = false := by rw [beq_eq_false_iff_ne]; omega
    have cP := parts_any a ha fa
    have hm := mg_lt (rg a)
    have hk := kx_lt fa
    have hup := up_eq (rg a)
    rw [hE]
    rw [hup]
    generalize classN a = ca at *
    generalize mg (rg a) = m at *
    generalize kx (rg a) = k at *
    generalize sg a = s at *
    obtain ⟨E, hEE⟩ : ∃ E : Int, -1074 + (k : Int) = E := ⟨_, rfl⟩
    rw [hEE] at cP
    replace cA := hide cA
    replace cP := hide cP
    have hmB : Hid (m < 4294967296 ^ 1000) := B_mono (a := 2) (b := 1000) (Nat.lt_trans hm (by decide)) (by decide)
    have hm64 : m < 18446744073709551616 := Nat.lt_trans hm (by decide)
    clear ha fa kA hE hup
    by_cases hE0 : E < 0
    · obtain ⟨d, hd⟩ : ∃ d : Nat, -E = (d : Int) := ⟨(-E).toNat, by omega⟩
      have hW : m * 2 ^ k / 2 ^ T = m / 2 ^ d := by
        have e : 2 ^ T = 2 ^ d * 2 ^ k := by rw [← Nat.pow_add]; congr 1; omega
        rw [e, Nat.mul_div_mul_right _ _ (Nat.two_pow_pos k)]
      rw [hW]
      have hdl : d ≤ 100000 := by omega
      obtain ⟨W, hWW⟩ : ∃ W, Hid (m / 2 ^ d = W) := ⟨_, rfl⟩
      rw [unhide hWW]
      have hWl : Hid (W < 18446744073709551616) := by unfold Hid; rw [← unhide hWW]; exact Nat.lt_of_le_of_lt (Nat.div_le_self _ _) hm64
      clear hW
      have hWB : Hid (W < 4294967296 ^ 1000) := B_mono (a := 2) (b := 1000) (Nat.lt_of_lt_of_le (unhide hWl) (by decide)) (by decide)
      go_enter Try.func20, Try.ntmps20
      go_wp2_with fail
      refine (unhide cA _).mono ?_
      rintro e w1 ⟨rfl, rfl⟩
      go_wp2_with fail
      refine (unhide cP _).mono ?_
      rintro e w1 ⟨rfl, rfl⟩
      go_wp2_with fail
      refine (list_any m _ hm64).mono ?_
      rintro e w2 ⟨v2, rfl, hL2, hB2⟩
      have HL2 := hide hL2
      replace HB := hide ((unhide HB).trans (hB2.mono (unhide HB).size))
      clear hL2 hB2
      go_wp2_with fail
      refine (down_any v2 m d _ (unhide HL2) (unhide hmB) hdl).mono ?_
      rintro e w3 ⟨v3, rfl, hL3, hB3⟩
      have HL3 : Hid (Ls w3 v3 W) := by unfold Hid; rw [← unhide hWW]; exact hL3
      replace HB := hide ((unhide HB).trans (hB3.mono (unhide HB).size))
      clear hL3 hB3
      go_wp2_with fail
      refine (rbits_any v3 W _ (unhide HL3) (unhide hWB)).mono ?_
      rintro e w4 ⟨rfl, rfl⟩
      have hbl : Hid (bl W ≤ 64) := bl_64.2 (unhide hWl)
      have hbl2 := unhide hbl
      generalize bl W = bb at *
      have g0 : decide ((64 : Int) < (bb : Int)) = false := by rw [decide_eq_false_iff_not]; omega
      go_wp2_with fail
      refine (small_any v3 W _ (unhide HL3) (unhide hWl)).mono ?_
      rintro e w5 ⟨rfl, rfl⟩
      have hWl2 := unhide hWl
      by_cases hs : s = true
      · subst hs
        by_cases hw : W ≤ 9223372036854775808
        · have hr : Hid (endOf true W = (-(W : Int), true)) := if_pos hw
          obtain ⟨Z, hZ⟩ : ∃ Z : Int, IntKind.u64.wrap (0 - (W : Int)) = Z := ⟨_, rfl⟩
          have hZ3 : IntKind.u64.wrap (-(W : Int)) = Z := by rw [← hZ]; congr 1; omega
          have hZ2 : IntKind.i64.wrap Z = -(W : Int) := by rw [← hZ, IntKind.wrap_u64, IntKind.wrap_i64]; omega
          have g1 : (W : Int) ≤ 9223372036854775808 := by omega
          go_wp2
          go_ret2
          exact ⟨by rw [unhide hr]; rfl, unhide HB⟩
        · have hr : Hid (endOf true W = (0, false)) := if_neg hw
          have g1 : decide ((W : Int) ≤ 9223372036854775808) = false := by rw [decide_eq_false_iff_not]; omega
          clear hw
          go_wp2
          go_ret2
          exact ⟨by rw [unhide hr]; rfl, unhide HB⟩
      · obtain rfl : s = false := by cases s; rfl; exact absurd rfl hs
        by_cases hw : W < 9223372036854775808
        · have hr : Hid (endOf false W = ((W : Int), true)) := if_pos hw
          have hZ2 : IntKind.i64.wrap (W : Int) = (W : Int) := by rw [IntKind.wrap_i64]; omega
          have g1 : (W : Int) < 9223372036854775808 := by omega
          clear hs
          go_wp2
          go_ret2
          exact ⟨by rw [unhide hr]; rfl, unhide HB⟩
        · have hr : Hid (endOf false W = (0, false)) := if_neg hw
          have g1 : decide ((W : Int) < 9223372036854775808) = false := by rw [decide_eq_false_iff_not]; omega
          clear hw hs
          go_wp2
          go_ret2
          exact ⟨by rw [unhide hr]; rfl, unhide HB⟩
    · obtain ⟨d, rfl⟩ : ∃ d : Nat, E = (d : Int) := ⟨E.toNat, by omega⟩
      have hW : m * 2 ^ k / 2 ^ T = m * 2 ^ d := by
        have e : m * 2 ^ k = m * 2 ^ d * 2 ^ T := by rw [Nat.mul_assoc, ← Nat.pow_add]; congr 2; omega
        rw [e, Nat.mul_div_cancel _ (Nat.two_pow_pos T)]
      rw [hW]
      have hE1 : decide ((d : Int) < 0) = false := by rw [decide_eq_false_iff_not]; omega
      have hdl : d ≤ 10000 := by omega
      obtain ⟨W, hWW⟩ : ∃ W, Hid (m * 2 ^ d = W) := ⟨_, rfl⟩
      have hWB : Hid (W < 4294967296 ^ 1000) := by
        unfold Hid
        rw [← unhide hWW]
        have h1 : m * 2 ^ d < 2 ^ 53 * 2 ^ d := Nat.mul_lt_mul_of_pos_right hm (Nat.two_pow_pos d)
        rw [← Nat.pow_add] at h1
        exact pow_lt_B (k := 53 + d) (m := 1000) h1 (by omega)
      rw [unhide hWW]
      clear hW
      go_enter Try.func20, Try.ntmps20
      go_wp2_with fail
      refine (unhide cA _).mono ?_
      rintro e w1 ⟨rfl, rfl⟩
      go_wp2_with fail
      refine (unhide cP _).mono ?_
      rintro e w1 ⟨rfl, rfl⟩
      go_wp2_with fail
      refine (list_any m _ hm64).mono ?_
      rintro e w2 ⟨v2, rfl, hL2, hB2⟩
      have HL2 := hide hL2
      replace HB := hide ((unhide HB).trans (hB2.mono (unhide HB).size))
      clear hL2 hB2
      go_wp2_with fail
      refine (up_any v2 m d _ (unhide HL2) (unhide hmB) hdl).mono ?_
      rintro e w3 ⟨v3, rfl, hL3, hB3⟩
      have HL3 : Hid (Ls w3 v3 W) := by unfold Hid; rw [← unhide hWW]; exact hL3
      replace HB := hide ((unhide HB).trans (hB3.mono (unhide HB).size))
      clear hL3 hB3
      go_wp2_with fail
      refine (rbits_any v3 W _ (unhide HL3) (unhide hWB)).mono ?_
      rintro e w4 ⟨rfl, rfl⟩
      by_cases hbl : bl W ≤ 64
      · have hWl : Hid (W < 18446744073709551616) := bl_64.1 hbl
        generalize bl W = bb at *
        have g0 : decide ((64 : Int) < (bb : Int)) = false := by rw [decide_eq_false_iff_not]; omega
        go_wp2_with fail
        refine (small_any v3 W _ (unhide HL3) (unhide hWl)).mono ?_
        rintro e w5 ⟨rfl, rfl⟩
        have hWl2 := unhide hWl
        by_cases hs : s = true
        · subst hs
          by_cases hw : W ≤ 9223372036854775808
          · have hr : Hid (endOf true W = (-(W : Int), true)) := if_pos hw
            obtain ⟨Z, hZ⟩ : ∃ Z : Int, IntKind.u64.wrap (0 - (W : Int)) = Z := ⟨_, rfl⟩
            have hZ3 : IntKind.u64.wrap (-(W : Int)) = Z := by rw [← hZ]; congr 1; omega
            have hZ2 : IntKind.i64.wrap Z = -(W : Int) := by rw [← hZ, IntKind.wrap_u64, IntKind.wrap_i64]; omega
            have g1 : (W : Int) ≤ 9223372036854775808 := by omega
            go_wp2
            go_ret2
            exact ⟨by rw [unhide hr]; rfl, unhide HB⟩
          · have hr : Hid (endOf true W = (0, false)) := if_neg hw
            have g1 : decide ((W : Int) ≤ 9223372036854775808) = false := by rw [decide_eq_false_iff_not]; omega
            clear hw
            go_wp2
            go_ret2
            exact ⟨by rw [unhide hr]; rfl, unhide HB⟩
        · obtain rfl : s = false := by cases s; rfl; exact absurd rfl hs
          by_cases hw : W < 9223372036854775808
          · have hr : Hid (endOf false W = ((W : Int), true)) := if_pos hw
            have hZ2 : IntKind.i64.wrap (W : Int) = (W : Int) := by rw [IntKind.wrap_i64]; omega
            have g1 : (W : Int) < 9223372036854775808 := by omega
            clear hs
            go_wp2
            go_ret2
            exact ⟨by rw [unhide hr]; rfl, unhide HB⟩
          · have hr : Hid (endOf false W = (0, false)) := if_neg hw
            have g1 : decide ((W : Int) < 9223372036854775808) = false := by rw [decide_eq_false_iff_not]; omega
            clear hw hs
            go_wp2
            go_ret2
            exact ⟨by rw [unhide hr]; rfl, unhide HB⟩
      · have hWg : 18446744073709551616 ≤ W := Nat.not_lt.1 fun h => hbl (bl_64.2 h)
        have hr : Hid (endOf s W = (0, false)) := by
          unfold Hid
          cases s
          · show (if W < 9223372036854775808 then (((W : Nat) : Int), true) else (0, false)) = _
            exact if_neg (by omega)
          · show (if W ≤ 9223372036854775808 then (-((W : Nat) : Int), true) else (0, false)) = _
            exact if_neg (by omega)
        generalize bl W = bb at *
        have g0 : (64 : Int) < (bb : Int) := by omega
        clear hWg
        go_wp2
        go_ret2
        exact ⟨by rw [unhide hr]; rfl, unhide HB⟩
  · rw [toN_out T a ha fa]
    rcases Nat.lt_or_ge 9218868437227405312 (rg a) with h | h
    · have hn : isN a = true := by rw [isN_eq, decide_eq_true h]
      rw [class_N hn] at cA
      replace cA := hide cA
      clear fa h hn ha hT
      go_enter Try.func20, Try.ntmps20
      go_wp2_with fail
      refine (unhide cA _).mono ?_
      rintro e w1 ⟨rfl, rfl⟩
      go_wp2
      go_ret2
      exact ⟨rfl, unhide HB⟩
    · have hi : rg a = 9218868437227405312 := by omega
      rw [class_inf hi] at cA
      replace cA := hide cA
      clear fa h hi ha hT
      go_enter Try.func20, Try.ntmps20
      go_wp2_with fail
      refine (unhide cA _).mono ?_
      rintro e w1 ⟨rfl, rfl⟩
      go_wp2
      go_ret2
      exact ⟨rfl, unhide HB⟩

set_option maxRecDepth 100000 in
set_option maxHeartbeats 1600000 in
theorem intsLaw (n : Int) (a : Nat) (w : World) (h1 : -9223372036854775808 ≤ n) (h2 : n ≤ 9223372036854775807) (ha : a < 18446744073709551616) :
    Calls Try.prog 6 #[.int .i64 n, .int .u64 (a : Int)] w fun e w' => e = .returned (.bool true) ∧ Below w.heap.size w w' := by
  obtain ⟨T, hT⟩ : ∃ T, T = 1074 := ⟨_, rfl⟩
  have c1 := hide (rto_any T a hT ha)
  have c2 := hide (toInt_any T hT a ha)
  have c3 := hide (from_any n)
  have c4 := hide (toInt_any T hT (fromN n) (fromN_lt n))
  have c5 := hide (rfrom_any n h1 h2)
  have c6 := hide (rto_any T (fromN n) hT (fromN_lt n))
  have HB := hide (Below.refl w.heap.size w)
  have be := bool_neq
  generalize fromN n = F at *
  generalize (toN T a).1 = x at *
  generalize (toN T a).2 = y at *
  generalize (toN T F).1 = z at *
  generalize (toN T F).2 = t at *
  have e1 : (y != y) = false := by cases y <;> rfl
  have e2 : (t != t) = false := by cases t <;> rfl
  clear ha h1 h2
  go_enter Try.func6, Try.ntmps6
  go_wp2_with fail
  refine (unhide c1 _).mono ?_
  rintro e w1 ⟨rfl, hb1⟩
  replace HB := hide ((unhide HB).trans (hb1.mono (unhide HB).size))
  clear hb1
  go_wp2_with fail
  refine (unhide c2 _).mono ?_
  rintro e w2 ⟨rfl, rfl⟩
  go_wp2_with fail
  refine (unhide c3 _).mono ?_
  rintro e w3 ⟨rfl, rfl⟩
  go_wp2_with fail
  refine (unhide c4 _).mono ?_
  rintro e w4 ⟨rfl, rfl⟩
  go_wp2_with fail
  refine (unhide c5 _).mono ?_
  rintro e w5 ⟨rfl, hb5⟩
  replace HB := hide ((unhide HB).trans (hb5.mono (unhide HB).size))
  clear hb5
  go_wp2_with fail
  refine (unhide c6 _).mono ?_
  rintro e w6 ⟨rfl, hb6⟩
  replace HB := hide ((unhide HB).trans (hb6.mono (unhide HB).size))
  clear hb6
  go_wp2_with fail
  refine (unhide c3 _).mono ?_
  rintro e w7 ⟨rfl, rfl⟩
  go_wp2_with fail
  refine (unhide c5 _).mono ?_
  rintro e w8 ⟨rfl, hb8⟩
  replace HB := hide ((unhide HB).trans (hb8.mono (unhide HB).size))
  clear hb8
  go_wp2
  go_ret
  exact ⟨rfl, unhide HB⟩
end Go.Proofs.Ytnikbaibchgmnaa
