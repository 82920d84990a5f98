/-
  The document's Class, Neg, Parts, Sum.
-/
import Derived.Test.YtnikbaibchgmnaaCmp
import Derived.Test.YtnikbaibchgmnaaUp
import Derived.Test.YtnikbaibchgmnaaMinus
import Derived.Test.YtnikbaibchgmnaaVal
namespace Go.Proofs.Ytnikbaibchgmnaa
open Go.RowKit Ieee

theorem bool_eql : ∀ (b c : Bool) (w : World), (binOp .eql 4 (.bool b) (.bool c)).run Try.prog w = .ok (.bool (b == c)) w := fun b c w => by cases b <;> cases c <;> kernel_rfl
theorem bool_neq : ∀ (b c : Bool) (w : World), (binOp .neq 4 (.bool b) (.bool c)).run Try.prog w = .ok (.bool (b != c)) w := fun b c w => by cases b <;> cases c <;> kernel_rfl
theorem band_ex (a : Nat) (h : a < 18446744073709551616) : bits .and .u64 ((a : Int) / 4503599627370496) 2047 = ((a / 4503599627370496 % 2048 : Nat) : Int) := by
  have e : (a : Int) / 4503599627370496 = ((a / 4503599627370496 : Nat) : Int) := rfl
  rw [e]
  go_bits2
set_option maxRecDepth 100000 in
theorem rclass_any (a : Nat) (h : a < 18446744073709551616) (w : World) : Calls Try.prog 27 #[.int .u64 (a : Int)] w fun e w' => e = .returned (.int .i64 (classN a)) ∧ w' = w := by
  have b1 := band_ex a h
  have b2 := band_lo a h
  have hE : a / 4503599627370496 % 2048 * 4503599627370496 + a % 4503599627370496 = a % 9223372036854775808 := by omega
  have hE2 : a / 4503599627370496 % 2048 < 2048 := Nat.mod_lt _ (by decide)
  have hF : a % 4503599627370496 < 4503599627370496 := Nat.mod_lt _ (by decide)
  have hC : classN a = if isN a then 0 else if a % 9223372036854775808 = 9218868437227405312 then 1 else if a % 9223372036854775808 = 0 then 2 else if a % 9223372036854775808 < 4503599627370496 then 3 else 4 := rfl
  rw [isN] at hC
  obtain ⟨E, hq⟩ : ∃ q, a / 4503599627370496 % 2048 = q := ⟨_, rfl⟩
  rw [hq] at b1 hE hE2
  obtain ⟨F, hF'⟩ : ∃ F, a % 4503599627370496 = F := ⟨_, rfl⟩
  rw [hF'] at b2 hE hF
  obtain ⟨G, hG⟩ : ∃ G, a % 9223372036854775808 = G := ⟨_, rfl⟩
  rw [hG] at hE hC
  generalize classN a = C at *
  clear hq hF' hG
  by_cases h1 : E = 2047
  · by_cases h2 : F = 0
    · obtain rfl : C = 1 := by rw [hC, if_neg (by simp; omega), if_pos (by omega)]
      subst h1 h2
      clear hC hE hE2 hF h
      go_enter Try.func27, Try.ntmps27
      go_wp2
      go_ret
      exact ⟨rfl, rfl⟩
    · obtain rfl : C = 0 := by rw [hC, if_pos (by simp; omega)]
      have c2 : ((F : Int) != 0) = true := by rw [bne_iff_ne]; omega
      subst h1
      clear hC hE hE2 hF h
      go_enter Try.func27, Try.ntmps27
      go_wp2
      go_ret
      exact ⟨rfl, rfl⟩
  · have c1 : ((E : Int) == 2047) = false := by rw [beq_eq_false_iff_ne]; omega
    by_cases h2 : E = 0
    · by_cases h3 : F = 0
      · obtain rfl : C = 2 := by rw [hC, if_neg (by simp; omega), if_neg (by omega), if_pos (by omega)]
        subst h2 h3
        clear hC hE hE2 hF h
        go_enter Try.func27, Try.ntmps27
        go_wp2
        go_ret
        exact ⟨rfl, rfl⟩
      · obtain rfl : C = 3 := by rw [hC, if_neg (by simp; omega), if_neg (by omega), if_neg (by omega), if_pos (by omega)]
        have c2 : ((F : Int) != 0) = true := by rw [bne_iff_ne]; omega
        subst h2
        clear hC hE hE2 hF h
        go_enter Try.func27, Try.ntmps27
        go_wp2
        go_ret
        exact ⟨rfl, rfl⟩
    · obtain rfl : C = 4 := by rw [hC, if_neg (by simp; omega), if_neg (by omega), if_neg (by omega), if_neg (by omega)]
      have c2 : ((E : Int) != 0) = true := by rw [bne_iff_ne]; omega
      clear hC hE hE2 hF h
      go_enter Try.func27, Try.ntmps27
      go_wp2
      go_ret
      exact ⟨rfl, rfl⟩

set_option maxRecDepth 100000 in
theorem negative_any (a : Nat) (h : a < 18446744073709551616) (w : World) : Calls Try.prog 33 #[.int .u64 (a : Int)] w fun e w' => e = .returned (.bool (sg a)) ∧ w' = w := by
  have b1 := band_mi a h
  by_cases ha : a < 9223372036854775808
  · rw [if_pos ha] at b1
    rw [sg_false ha]
    clear ha h
    go_enter Try.func33, Try.ntmps33
    go_wp2
    go_ret
    exact ⟨rfl, rfl⟩
  · rw [if_neg ha] at b1
    rw [sg_true h (by omega)]
    clear ha h
    go_enter Try.func33, Try.ntmps33
    go_wp2
    go_ret
    exact ⟨rfl, rfl⟩
theorem bor_mi (r : Nat) (h : r < 9223372036854775808) : bits .or .u64 (r : Int) 9223372036854775808 = ((9223372036854775808 + r : Nat) : Int) := by
  have e : r ||| 9223372036854775808 = 9223372036854775808 + r := by
    have := Nat.two_pow_add_eq_or_of_lt (i := 63) h 1
    rw [Nat.mul_one] at this
    rw [Nat.or_comm]; exact this.symm
  go_bits2
set_option maxRecDepth 100000 in
theorem signed_any (s : Bool) (r : Nat) (h : r < 9223372036854775808) (w : World) : Calls Try.prog 29 #[.bool s, .int .u64 (r : Int)] w fun e w' => e = .returned (.int .u64 (double.word s r : Nat)) ∧ w' = w := by
  have b1 := bor_mi r h
  cases s
  · rw [show double.word false r = r from rfl]
    clear h b1
    go_enter Try.func29, Try.ntmps29
    go_wp2
    go_ret
    exact ⟨rfl, rfl⟩
  · rw [show double.word true r = 9223372036854775808 + r from rfl]
    generalize 9223372036854775808 + r = R at *
    clear h
    go_enter Try.func29, Try.ntmps29
    go_wp2
    go_ret
    exact ⟨rfl, rfl⟩
theorem flip_eq_word {a : Nat} (h : a < 18446744073709551616) : flip a = double.word (!sg a) (rg a) := by
  rw [← word_sg_rg (flip_lt h), flip_sg h, flip_rg h]
set_option maxRecDepth 100000 in
theorem rneg_any (a : Nat) (h : a < 18446744073709551616) (w : World) : Calls Try.prog 32 #[.int .u64 (a : Int)] w fun e w' => e = .returned (.int .u64 (negN a : Nat)) ∧ w' = w := by
  have c1 := rclass_any a h
  have z1 := classN_zero a
  have c2 := negative_any a h
  have b1 := band_un a h
  rw [show a % 9223372036854775808 = rg a from rfl] at b1
  have c3 := signed_any (!sg a) (rg a) (rg_lt a)
  cases n : isN a
  · rw [n] at z1
    rw [neg_of_notN h n, flip_eq_word h]
    generalize double.word (!sg a) (rg a) = Z at *
    generalize classN a = c at *
    generalize sg a = s at *
    generalize rg a = r at *
    replace c1 := hide c1
    replace c2 := hide c2
    replace c3 := hide c3
    clear n h
    go_enter Try.func32, Try.ntmps32
    go_wp2_with fail
    refine (unhide c1 _).mono ?_
    rintro e w1 ⟨rfl, rfl⟩
    go_wp2_with fail
    refine (unhide c2 _).mono ?_
    rintro e w2 ⟨rfl, rfl⟩
    go_wp2_with fail
    refine (unhide c3 _).mono ?_
    rintro e w3 ⟨rfl, rfl⟩
    go_wp2
    go_ret
    exact ⟨rfl, rfl⟩
  · rw [n] at z1
    rw [neg_of_N h n]
    generalize classN a = c at *
    replace c1 := hide c1
    clear n h c2 c3 b1
    go_enter Try.func32, Try.ntmps32
    go_wp2_with fail
    refine (unhide c1 _).mono ?_
    rintro e w1 ⟨rfl, rfl⟩
    go_wp2
    go_ret
    exact ⟨rfl, rfl⟩

set_option maxRecDepth 100000 in
/-- A finite number taken apart. -/
theorem parts_any (a : Nat) (h : a < 18446744073709551616) (hf : rg a < 9218868437227405312) (w : World) : Calls Try.prog 34 #[.int .u64 (a : Int)] w fun e w' => e = .returned (.tuple #[.bool (sg a), .int .u64 (mg (rg a) : Nat), .int .i64 (-1074 + (kx (rg a) : Int))]) ∧ w' = w := by
  have c1 := hide (negative_any a h)
  have b1 := band_ex a h
  have b2 := band_lo a h
  have hE : a / 4503599627370496 % 2048 * 4503599627370496 + a % 4503599627370496 = rg a := by unfold rg; omega
  have hF : a % 4503599627370496 < 4503599627370496 := Nat.mod_lt _ (by decide)
  generalize a / 4503599627370496 % 2048 = E at *
  generalize a % 4503599627370496 = F at *
  by_cases h0 : E = 0
  · have e1 : mg (rg a) = F := by unfold mg; rw [if_pos (by omega)]; omega
    have e2 : kx (rg a) = 0 := by unfold kx; rw [if_pos (by omega)]
    rw [e1, e2]
    subst h0
    generalize sg a = s at *
    clear e1 e2 hE hF hf h
    go_enter Try.func34, Try.ntmps34
    go_wp2_with fail
    refine (unhide c1 _).mono ?_
    rintro e w1 ⟨rfl, rfl⟩
    go_wp2
    go_ret3
    exact ⟨rfl, rfl⟩
  · have e1 : mg (rg a) = F + 4503599627370496 := by unfold mg; rw [if_neg (by omega), ← hE]; omega
    have e2 : (-1074 : Int) + (kx (rg a) : Int) = (E : Int) - 1075 := by unfold kx; rw [if_neg (by omega), ← hE]; omega
    have g1 : ((E : Int) == 0) = false := by rw [beq_eq_false_iff_ne]; omega
    have g2 : (E : Int) ≤ 2047 := by omega
    have g3 : (F : Int) < 4503599627370496 := by omega
    rw [e1, e2]
    generalize sg a = s at *
    clear e1 e2 hE hF hf h h0
    go_enter Try.func34, Try.ntmps34
    go_wp2_with fail
    refine (unhide c1 _).mono ?_
    rintro e w1 ⟨rfl, rfl⟩
    go_wp2
    go_ret3
    first | exact ⟨rfl, rfl⟩ | (refine ⟨?_, rfl⟩; go_num)

end Go.Proofs.Ytnikbaibchgmnaa
