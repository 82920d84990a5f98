/-
  Over.
-/
import Derived.Test.YtnikbaibchgmnaaTimes
import Derived.Test.YtnikbaibchgmnaaUp
import Derived.Test.YtnikbaibchgmnaaMinus
import Derived.Test.YtnikbaibchgmnaaBits
namespace Go.Proofs.Ytnikbaibchgmnaa
open Go.RowKit

theorem Ls.nil (w : World) : Ls w (.slice none 0 0) 0 := ⟨0, .inl ⟨rfl, rfl⟩, by decide, .inl rfl⟩
theorem Ls.one (w : World) (T : TypeId) : Ls (w.alloc (.cells #[.int .u64 1] T)) (.slice (some ⟨w.heap.size, 0, none⟩) 1 1) 1 := by
  refine ⟨1, .inr ⟨w.heap.size, 0, 1, rfl, Nat.le_refl _, by unfold maxLen; decide, by simp, fun i hi => ?_⟩, by decide, .inr (by decide)⟩
  rw [ds_length] at hi
  obtain rfl : i = 0 := by omega
  exact cell_one_new _ _ _ 0 _ rfl
theorem Ls.len' {w : World} {v : Value} {N : Nat} (h : Ls w v N) : ∃ b k cap, v = .slice b k cap ∧ True := by
  obtain ⟨k, h1, h2, h3⟩ := h
  obtain ⟨b, cap, rfl, hc, hm⟩ := h1.shapeR
  exact ⟨b, _, cap, rfl, trivial⟩
theorem bl_le500 {N : Nat} (h : N < 4294967296 ^ 500) : bl N ≤ 16000 := by
  obtain ⟨K, hK⟩ : ∃ K, K = 500 := ⟨_, rfl⟩
  rw [← hK] at h
  have e : (4294967296 : Nat) ^ K = 2 ^ (32 * K) := by rw [show (4294967296 : Nat) = 2 ^ 32 from rfl, ← Nat.pow_mul]
  unfold bl
  split
  · omega
  · rename_i h0
    rw [e] at h
    have := (Nat.log2_lt h0).2 h
    omega
/-- One digit more of a quotient. -/
theorem over_step (X b C : Nat) (hC : 0 < C) (hb : b < 2) : (C ≤ 2 * (X % C) + b → (2 * X + b) / C = 2 * (X / C) + 1 ∧ (2 * X + b) % C = 2 * (X % C) + b - C) ∧ (¬ C ≤ 2 * (X % C) + b → (2 * X + b) / C = 2 * (X / C) ∧ (2 * X + b) % C = 2 * (X % C) + b) := by
  have hm := Nat.div_add_mod X C
  have hl := Nat.mod_lt X hC
  generalize X % C = r at *
  generalize X / C = q at *
  have e : 2 * X + b = C * (2 * q) + (2 * r + b) := by rw [Nat.mul_left_comm]; omega
  constructor
  · intro h
    obtain ⟨y, hy⟩ : ∃ y, 2 * r + b = C + y := ⟨2 * r + b - C, by omega⟩
    have e2 : 2 * X + b = C * (2 * q + 1) + y := by rw [e, hy, Nat.mul_add, Nat.mul_one]; omega
    rw [e2, Nat.mul_add_div hC, Nat.mul_add_mod, Nat.div_eq_of_lt (by omega), Nat.mod_eq_of_lt (by omega)]
    omega
  · intro h
    rw [e, Nat.mul_add_div hC, Nat.mul_add_mod, Nat.div_eq_of_lt (by omega), Nat.mod_eq_of_lt (by omega)]
    omega
theorem half_step (A g : Nat) : A / 2 ^ g = 2 * (A / 2 ^ (g + 1)) + A / 2 ^ g % 2 := by
  rw [Nat.pow_succ, ← Nat.div_div_eq_div_mul]; omega
theorem B_two {x K L : Nat} (h : x < 4294967296 ^ K) (hKL : K < L) : 2 * x + 1 < 4294967296 ^ L := by
  have h1 : (4294967296 : Nat) ^ K * 2 ≤ 4294967296 ^ (K + 1) := by rw [Nat.pow_succ]; exact Nat.mul_le_mul_left _ (by decide)
  have h2 : (4294967296 : Nat) ^ (K + 1) ≤ 4294967296 ^ L := Nat.pow_le_pow_right (by decide) hKL
  omega
theorem B_up {x K L : Nat} (h : x < 4294967296 ^ K) (hKL : K ≤ L) : x < 4294967296 ^ L := Nat.lt_of_lt_of_le h (Nat.pow_le_pow_right (by decide) hKL)
theorem b_x {x : Nat} (h : x < 4294967296 ^ 500) : x < 4294967296 ^ 1000 := B_up (K := 500) (L := 1000) h (by decide)
theorem b_two {x : Nat} (h : x < 4294967296 ^ 500) : 2 * x + 1 < 4294967296 ^ 1000 := B_two (K := 500) (L := 1000) h (by decide)
theorem b_20 {x : Nat} (h : x < 4294967296 ^ 500) : x * 2 < 4294967296 ^ 1000 := Nat.lt_of_le_of_lt (show x * 2 ≤ 2 * x + 1 from by rw [Nat.mul_comm]; exact Nat.le_succ _) (b_two h)
theorem b_2z {x : Nat} (h : x < 4294967296 ^ 500) : 2 * x + 0 < 4294967296 ^ 1000 := Nat.lt_of_le_of_lt (show 2 * x + 0 ≤ 2 * x + 1 from Nat.le_succ _) (b_two h)
theorem b_1 {x : Nat} (h : x < 4294967296 ^ 500) : 1 < 4294967296 ^ 1000 := Nat.lt_of_le_of_lt (show 1 ≤ 2 * x + 1 from Nat.le_add_left _ _) (b_two h)
set_option maxRecDepth 100000 in
set_option maxHeartbeats 1600000 in
theorem over_any (va vb : Value) (A C : Nat) (w : World) (hA : Ls w va A) (hC : Ls w vb C) (hAb : A < 4294967296 ^ 500) (hCb : C < 4294967296 ^ 500) (hC0 : 0 < C) :
    Calls Try.prog 37 #[va, vb] w fun e w' => ∃ vq vr, e = .returned (.tuple #[vq, vr]) ∧ Ls w' vq (A / C) ∧ Ls w' vr (A % C) ∧ Below w.heap.size w w' := by
  have HA := hide hA
  have HC := hide hC
  have b1 : Hid (A < 4294967296 ^ 1000) := b_x hAb
  have b2 : Hid (C < 4294967296 ^ 1000) := b_x hCb
  have HBd := hide (And.intro hAb hCb)
  clear hAb hCb
  have HC0 := hide hC0
  have cBits := hide (rbits_any va A w hA (unhide b1))
  obtain ⟨M, hM⟩ : ∃ M, Hid (bl A = M) := ⟨_, rfl⟩
  rw [unhide hM] at cBits
  have hMl : M ≤ 16000 := by rw [← unhide hM]; exact bl_le500 (unhide HBd).1
  have hMz : Hid (A / 2 ^ M = 0) := by unfold Hid; rw [← unhide hM]; exact bl_end A
  clear hA hC hC0
  go_enter Try.func37, Try.ntmps37
  go_wp2_with fail
  refine (unhide cBits).mono ?_
  rintro e w1 ⟨rfl, rfl⟩
  go_wp2
  go_loopg [6, 7, 8] M (fun g vq vr s wr => s = .int .i64 ((g : Int) - 1) ∧ g ≤ M ∧ Hid (Ls wr vq (A / 2 ^ g / C)) ∧ Hid (Ls wr vr (A / 2 ^ g % C)) ∧ Hid (Below w1.heap.size w1 wr))
  case atStart => exact ⟨rfl, Nat.le_refl _, by unfold Hid; rw [unhide hMz, Nat.zero_div]; exact Ls.nil _, by unfold Hid; rw [unhide hMz, Nat.zero_mod]; exact Ls.nil _, Below.refl _ _⟩
  case round =>
    obtain ⟨rfl, hgM, hQ, hR, HB⟩ := hrel
    by_cases h0 : gk = 0
    · subst h0
      have hQ2 : Hid (Ls wr u6 (A / C)) := by have := unhide hQ; rw [Nat.pow_zero, Nat.div_one] at this; exact this
      have hR2 : Hid (Ls wr u7 (A % C)) := by have := unhide hR; rw [Nat.pow_zero, Nat.div_one] at this; exact this
      clear hQ hR
      go_wp2
      go_ret2
      exact ⟨_, _, rfl, unhide hQ2, unhide hR2, unhide HB⟩
    · obtain ⟨g, rfl⟩ : ∃ g, gk = g + 1 := ⟨gk - 1, by omega⟩
      have i4 : ((g + 1 : Nat) : Int) - 1 = (g : Int) := by omega
      have i2 : (0 : Int) ≤ (g : Int) := by omega
      rw [i4]
      have hstep := half_step A g
      obtain ⟨X, hX⟩ : ∃ X, A / 2 ^ (g + 1) = X := ⟨_, rfl⟩
      obtain ⟨bt, hbt⟩ : ∃ b, A / 2 ^ g % 2 = b := ⟨_, rfl⟩
      rw [hX] at hstep hQ hR
      rw [hbt] at hstep
      have hb2 : bt = 0 ∨ bt = 1 := by omega
      have hov := over_step X bt C (unhide HC0) (by omega)
      rw [← hstep] at hov
      have hXl : Hid (X < 4294967296 ^ 500) := by unfold Hid; rw [← hX]; exact Nat.lt_of_le_of_lt (Nat.div_le_self _ _) (unhide HBd).1
      have hq1 : Hid (X / C < 4294967296 ^ 500) := Nat.lt_of_le_of_lt (Nat.div_le_self _ _) (unhide hXl)
      have hr1 : Hid (X % C < 4294967296 ^ 500) := Nat.lt_trans (Nat.mod_lt _ (unhide HC0)) (unhide HBd).2
      have HOV := hide hov
      have HBT := hide hbt
      have hM2 : g ≤ 16000 := by omega
      clear hov hXl hstep hX hbt h0
      generalize X / C = q at *
      generalize X % C = r at *
      -- rest twice
      go_wp2_with fail
      refine (up_any u7 r 1 _ (unhide hR) (b_x (unhide hr1)) (by decide)).mono ?_
      rintro e w2 ⟨v2, rfl, hL2, hB2⟩
      rw [Nat.pow_one] at hL2
      have HL2 := hide hL2
      have hQa := hide ((unhide hQ).below hB2)
      have HBa := hide ((unhide HB).trans (hB2.mono (unhide HB).size))
      clear hL2 hB2 hQ hR HB
      go_wp2_with fail
      refine (bit_any va A g _ ((unhide HA).below (unhide HBa)) (by omega)).mono ?_
      rintro e w3 ⟨rfl, rfl⟩
      rw [unhide HBT]
      rcases hb2 with rfl | rfl
      · have HR3 : Hid (Ls w3 v2 (2 * r + 0)) := by unfold Hid; rw [Nat.add_zero, Nat.mul_comm]; exact unhide HL2
        clear HL2
        go_wp2_with fail
        refine (up_any u6 q 1 _ (unhide hQa) (b_x (unhide hq1)) (by decide)).mono ?_
        rintro e w5 ⟨v5, rfl, hL5, hB5⟩
        rw [Nat.pow_one] at hL5
        have HL5 := hide hL5
        have HR5 := hide ((unhide HR3).below hB5)
        have HBc := hide ((unhide HBa).trans (hB5.mono (unhide HBa).size))
        clear hL5 hB5 HR3 hQa HBa
        go_wp2_with fail
        refine (cmp_any _ vb (2 * r + 0) C _ (unhide HR5) ((unhide HC).below (unhide HBc)) (b_2z (unhide hr1)) (unhide b2)).mono ?_
        rintro e w6 ⟨rfl, hB6⟩
        have HR6 := hide ((unhide HR5).below hB6)
        have HL6 := hide ((unhide HL5).below hB6)
        have HBd2 := hide ((unhide HBc).trans (hB6.mono (unhide HBc).size))
        clear hB6 HR5 HL5 HBc
        by_cases hge : C ≤ 2 * r + 0
        · obtain ⟨o1, o2⟩ := (unhide HOV).1 hge
          have hcm : Hid (0 ≤ cmpN (2 * r + 0) C) := by unfold Hid cmpN; rw [if_neg (by omega)]; split <;> decide
          generalize cmpN (2 * r + 0) C = cc at *
          have hcc : 0 ≤ cc := unhide hcm
          have HO1 := hide o1
          have HO2 := hide o2
          have HGE := hide hge
          clear o1 o2 hge
          go_wp2_with fail
          refine (minus_any _ vb (2 * r + 0) C _ (unhide HR6) ((unhide HC).below (unhide HBd2)) (b_2z (unhide hr1)) (unhide HGE)).mono ?_
          rintro e w7 ⟨v7, rfl, hL7, hB7⟩
          have HL7 := hide hL7
          have HQ7 := hide ((unhide HL6).below hB7)
          have HBe := hide ((unhide HBd2).trans (hB7.mono (unhide HBd2).size))
          clear hL7 hB7 HR6 HL6 HBd2
          go_wp2_with fail
          refine (plus_any v5 _ (q * 2) 1 _ ((unhide HQ7).below (below_alloc (Below.refl _ _) _)) (Ls.one _ _) (b_20 (unhide hq1)) (b_1 (unhide hq1))).mono ?_
          rintro e w8 ⟨v8, rfl, hL8, hB8⟩
          have hB9 := (below_alloc (Below.refl w7.heap.size w7) _).trans (hB8.mono (below_alloc (Below.refl w7.heap.size w7) _).size)
          have HL8 : Hid (Ls w8 v8 (A / 2 ^ g / C)) := by unfold Hid; rw [unhide HO1, Nat.mul_comm]; exact hL8
          have HR8 : Hid (Ls w8 v7 (A / 2 ^ g % C)) := by unfold Hid; rw [unhide HO2]; exact (unhide HL7).below hB9
          have HBf := hide ((unhide HBe).trans (hB9.mono (unhide HBe).size))
          clear hL8 hB8 hB9 HL7 HQ7 HBe
          go_wp2
          go_roundg g
          case measure => omega
          case rel => exact ⟨by go_num, by omega, HL8, HR8, HBf⟩
        · obtain ⟨o1, o2⟩ := (unhide HOV).2 hge
          have hcm : cmpN (2 * r + 0) C = -1 := if_pos (by omega)
          rw [hcm]
          have HL8 : Hid (Ls w6 v5 (A / 2 ^ g / C)) := by unfold Hid; rw [o1, Nat.mul_comm]; exact unhide HL6
          have HR8 : Hid (Ls w6 v2 (A / 2 ^ g % C)) := by unfold Hid; rw [o2]; exact unhide HR6
          clear o1 o2 hge hcm
          go_wp2
          go_roundg g
          case measure => omega
          case rel => exact ⟨by go_num, by omega, HL8, HR8, HBd2⟩
      · go_wp2_with fail
        refine (plus_any v2 _ (r * 2) 1 _ ((unhide HL2).below (below_alloc (Below.refl _ _) _)) (Ls.one _ _) (b_20 (unhide hr1)) (b_1 (unhide hr1))).mono ?_
        rintro e w4 ⟨v4, rfl, hL4, hB4⟩
        have hB9 := (below_alloc (Below.refl w3.heap.size w3) _).trans (hB4.mono (below_alloc (Below.refl w3.heap.size w3) _).size)
        have HR3 : Hid (Ls w4 v4 (2 * r + 1)) := by unfold Hid; rw [Nat.mul_comm]; exact hL4
        replace hQa := hide ((unhide hQa).below hB9)
        replace HBa := hide ((unhide HBa).trans (hB9.mono (unhide HBa).size))
        clear hL4 hB4 hB9 HL2
        go_wp2_with fail
        refine (up_any u6 q 1 _ (unhide hQa) (b_x (unhide hq1)) (by decide)).mono ?_
        rintro e w5 ⟨v5, rfl, hL5, hB5⟩
        rw [Nat.pow_one] at hL5
        have HL5 := hide hL5
        have HR5 := hide ((unhide HR3).below hB5)
        have HBc := hide ((unhide HBa).trans (hB5.mono (unhide HBa).size))
        clear hL5 hB5 HR3 hQa HBa
        go_wp2_with fail
        refine (cmp_any _ vb (2 * r + 1) C _ (unhide HR5) ((unhide HC).below (unhide HBc)) (b_two (unhide hr1)) (unhide b2)).mono ?_
        rintro e w6 ⟨rfl, hB6⟩
        have HR6 := hide ((unhide HR5).below hB6)
        have HL6 := hide ((unhide HL5).below hB6)
        have HBd2 := hide ((unhide HBc).trans (hB6.mono (unhide HBc).size))
        clear hB6 HR5 HL5 HBc
        by_cases hge : C ≤ 2 * r + 1
        · obtain ⟨o1, o2⟩ := (unhide HOV).1 hge
          have hcm : Hid (0 ≤ cmpN (2 * r + 1) C) := by unfold Hid cmpN; rw [if_neg (by omega)]; split <;> decide
          generalize cmpN (2 * r + 1) C = cc at *
          have hcc : 0 ≤ cc := unhide hcm
          have HO1 := hide o1
          have HO2 := hide o2
          have HGE := hide hge
          clear o1 o2 hge
          go_wp2_with fail
          refine (minus_any _ vb (2 * r + 1) C _ (unhide HR6) ((unhide HC).below (unhide HBd2)) (b_two (unhide hr1)) (unhide HGE)).mono ?_
          rintro e w7 ⟨v7, rfl, hL7, hB7⟩
          have HL7 := hide hL7
          have HQ7 := hide ((unhide HL6).below hB7)
          have HBe := hide ((unhide HBd2).trans (hB7.mono (unhide HBd2).size))
          clear hL7 hB7 HR6 HL6 HBd2
          go_wp2_with fail
          refine (plus_any v5 _ (q * 2) 1 _ ((unhide HQ7).below (below_alloc (Below.refl _ _) _)) (Ls.one _ _) (b_20 (unhide hq1)) (b_1 (unhide hq1))).mono ?_
          rintro e w8 ⟨v8, rfl, hL8, hB8⟩
          have hB9 := (below_alloc (Below.refl w7.heap.size w7) _).trans (hB8.mono (below_alloc (Below.refl w7.heap.size w7) _).size)
          have HL8 : Hid (Ls w8 v8 (A / 2 ^ g / C)) := by unfold Hid; rw [unhide HO1, Nat.mul_comm]; exact hL8
          have HR8 : Hid (Ls w8 v7 (A / 2 ^ g % C)) := by unfold Hid; rw [unhide HO2]; exact (unhide HL7).below hB9
          have HBf := hide ((unhide HBe).trans (hB9.mono (unhide HBe).size))
          clear hL8 hB8 hB9 HL7 HQ7 HBe
          go_wp2
          go_roundg g
          case measure => omega
          case rel => exact ⟨by go_num, by omega, HL8, HR8, HBf⟩
        · obtain ⟨o1, o2⟩ := (unhide HOV).2 hge
          have hcm : cmpN (2 * r + 1) C = -1 := if_pos (by omega)
          rw [hcm]
          have HL8 : Hid (Ls w6 v5 (A / 2 ^ g / C)) := by unfold Hid; rw [o1, Nat.mul_comm]; exact unhide HL6
          have HR8 : Hid (Ls w6 v4 (A / 2 ^ g % C)) := by unfold Hid; rw [o2]; exact unhide HR6
          clear o1 o2 hge hcm
          go_wp2
          go_roundg g
          case measure => omega
          case rel => exact ⟨by go_num, by omega, HL8, HR8, HBd2⟩
end Go.Proofs.Ytnikbaibchgmnaa
