/-
  Constants: nan of the document, the program's rightFields.
-/
import Derived.Test.YtlogmdldjmkkjaaGreatDoorMapC
import Derived.Laws.Externs
import Derived.Deep.RegionHeld3
namespace Go.Proofs.YtlogmdldjmkkjaaGreatDoor
open Go.RowKit
set_option linter.unusedVariables false
set_option linter.unusedSimpArgs false
/-- The class of a number. -/
def isN (a : Nat) : Bool := decide (9218868437227405312 < a % 9223372036854775808)
def classN (a : Nat) : Int := if isN a then 0 else if a % 9223372036854775808 = 9218868437227405312 then 1 else if a % 9223372036854775808 = 0 then 2 else if a % 9223372036854775808 < 4503599627370496 then 3 else 4

theorem and_hi (a : Nat) : a &&& 9218868437227405312 = a / 4503599627370496 % 2048 * 4503599627370496 := by
  have e1 : (9218868437227405312 : Nat) = 2047 <<< 52 := rfl
  have e2 : a / 4503599627370496 % 2048 * 4503599627370496 = (((a >>> 52) &&& (2 ^ 11 - 1)) <<< 52) := by
    rw [Nat.and_two_pow_sub_one_eq_mod, Nat.shiftLeft_eq, Nat.shiftRight_eq_div_pow]
  rw [e1, e2]
  apply Nat.eq_of_testBit_eq
  intro i
  rw [Nat.testBit_and, Nat.testBit_shiftLeft, Nat.testBit_shiftLeft, Nat.testBit_and, Nat.testBit_shiftRight]
  by_cases h : 52 ≤ i
  · rw [show 52 + (i - 52) = i from by omega]; simp [h]
  · simp [h]
theorem band_hi (a : Nat) (h : a < 18446744073709551616) : bits .and .u64 (a : Int) 9218868437227405312 = ((a / 4503599627370496 % 2048 * 4503599627370496 : Nat) : Int) := by
  have := and_hi a
  go_bits2
theorem band_lo (a : Nat) (h : a < 18446744073709551616) : bits .and .u64 (a : Int) 4503599627370495 = ((a % 4503599627370496 : Nat) : Int) := by
  go_bits2
set_option maxRecDepth 100000 in
theorem class_any (a : Nat) (h : a < 18446744073709551616) (w : World) : Calls Tryz.prog 202 #[.int .u64 (a : Int)] w fun e w' => e = .returned (.int .i64 (classN a)) ∧ w' = w := by
  have b1 := band_hi a h
  have b2 := band_lo a h
  have hE : a / 4503599627370496 % 2048 * 4503599627370496 + a % 4503599627370496 = a % 9223372036854775808 := by omega
  have hE2 : a / 4503599627370496 % 2048 < 2048 := Nat.mod_lt _ (by decide)
  have hF : a % 4503599627370496 < 4503599627370496 := Nat.mod_lt _ (by decide)
  have hC : classN a = if isN a then 0 else if a % 9223372036854775808 = 9218868437227405312 then 1 else if a % 9223372036854775808 = 0 then 2 else if a % 9223372036854775808 < 4503599627370496 then 3 else 4 := rfl
  rw [isN] at hC
  obtain ⟨q, hq⟩ : ∃ q, a / 4503599627370496 % 2048 = q := ⟨_, rfl⟩
  rw [hq] at b1 hE hE2
  obtain ⟨F, hF'⟩ : ∃ F, a % 4503599627370496 = F := ⟨_, rfl⟩
  rw [hF'] at b2 hE hF
  obtain ⟨G, hG⟩ : ∃ G, a % 9223372036854775808 = G := ⟨_, rfl⟩
  rw [hG] at hE hC
  generalize classN a = C at *
  clear hq hF' hG
  obtain ⟨E, hE'⟩ : ∃ E, q * 4503599627370496 = E := ⟨_, rfl⟩
  rw [hE'] at b1 hE
  by_cases h1 : E = 9218868437227405312
  · by_cases h2 : F = 0
    · obtain rfl : C = 1 := by rw [hC, if_neg (by simp; omega), if_pos (by omega)]
      subst h1 h2
      clear hC hE hE2 hF hE' h
      go_enter Tryz.func202, Tryz.ntmps202
      go_wp2
      go_ret
      exact ⟨rfl, rfl⟩
    · obtain rfl : C = 0 := by rw [hC, if_pos (by simp; omega)]
      have c2 : ((F : Int) != 0) = true := by rw [bne_iff_ne]; omega
      subst h1
      clear hC hE hE2 hF hE' h
      go_enter Tryz.func202, Tryz.ntmps202
      go_wp2
      go_ret
      exact ⟨rfl, rfl⟩
  · have c1 : ((E : Int) == 9218868437227405312) = false := by rw [beq_eq_false_iff_ne]; omega
    by_cases h2 : E = 0
    · by_cases h3 : F = 0
      · obtain rfl : C = 2 := by rw [hC, if_neg (by simp; omega), if_neg (by omega), if_pos (by omega)]
        subst h2 h3
        clear hC hE hE2 hF hE' h
        go_enter Tryz.func202, Tryz.ntmps202
        go_wp2
        go_ret
        exact ⟨rfl, rfl⟩
      · obtain rfl : C = 3 := by rw [hC, if_neg (by simp; omega), if_neg (by omega), if_neg (by omega), if_pos (by omega)]
        have c2 : ((F : Int) == 0) = false := by rw [beq_eq_false_iff_ne]; omega
        subst h2
        clear hC hE hE2 hF hE' h
        go_enter Tryz.func202, Tryz.ntmps202
        go_wp2
        go_ret
        exact ⟨rfl, rfl⟩
    · obtain rfl : C = 4 := by rw [hC, if_neg (by simp; omega), if_neg (by omega), if_neg (by omega), if_neg (by omega)]
      have c2 : ((E : Int) == 0) = false := by rw [beq_eq_false_iff_ne]; omega
      clear hC hE hE2 hF hE' h
      go_enter Tryz.func202, Tryz.ntmps202
      go_wp2
      go_ret
      exact ⟨rfl, rfl⟩

theorem classN_zero (a : Nat) : (classN a == 0) = isN a := by
  unfold classN
  cases isN a
  · simp only [Bool.false_eq_true, if_false, beq_eq_false_iff_ne]
    split
    · decide
    · split
      · decide
      · split <;> decide
  · rfl

def canonN (a : Nat) : Nat := if isN a then 9221120237041090560 else a

set_option maxRecDepth 100000 in
theorem canon_any (a : Nat) (h : a < 18446744073709551616) (w : World) : Calls Tryz.prog 169 #[.int .u64 (a : Int)] w fun e w' => e = .returned (.int .u64 (canonN a : Nat)) ∧ w' = w := by
  have hC := hide (class_any a h)
  have hz := classN_zero a
  have hK : canonN a = if isN a then 9221120237041090560 else a := rfl
  generalize isN a = b at *
  generalize canonN a = K at *
  generalize classN a = c at *
  cases b
  · simp at hK
    subst hK
    go_enter Tryz.func169, Tryz.ntmps169
    go_wp2_with fail
    refine (unhide hC _).mono ?_
    rintro e w1 ⟨rfl, rfl⟩
    clear hC
    go_wp2
    go_ret
    exact ⟨rfl, rfl⟩
  · simp at hK
    subst hK
    go_enter Tryz.func169, Tryz.ntmps169
    go_wp2_with fail
    refine (unhide hC _).mono ?_
    rintro e w1 ⟨rfl, rfl⟩
    clear hC
    go_wp2
    go_ret
    exact ⟨rfl, rfl⟩



set_option linter.unusedVariables false
set_option linter.unusedSimpArgs false
theorem Below.drawn {B : Nat} {w w' : World} (h : Below B w w') : Below B w w'.drew := ⟨h.os, h.tape, h.output, h.size, h.block⟩
def uN (n : Int) : Nat := (n % 18446744073709551616).toNat
theorem uN_lt (n : Int) : uN n < 18446744073709551616 := by unfold uN; omega
theorem uN_wrap (n : Int) : IntKind.u64.wrap n = (uN n : Int) := by rw [IntKind.wrap_u64]; unfold uN; omega
/-- The bits of a NaN that is not the one NaN. -/
def badN (n : Int) : Bool := isN (uN n) && (uN n != 9221120237041090560)
/-- Has a constant what its kind has, and nothing else? -/
def rfB (c : Cn) : Bool := if c.kind = 3 then (c.text.toList.isEmpty && !badN c.n) else if c.kind = 4 then decide (c.n = 0) else false
set_option maxRecDepth 100000 in
set_option maxHeartbeats 3200000 in
theorem rightFields_any (c : Cn) (w : World) : Calls Tryz.prog 128 #[.agg #[.int .i64 c.kind, .int .i64 c.n, .string c.text]] w fun e w' => e = .returned (.bool (rfB c)) ∧ Below w.heap.size w w' := by
  obtain ⟨r, hr⟩ : ∃ r, Hid (rfB c = r) := ⟨_, rfl⟩
  rw [unhide hr]
  have hB := hide ((Below.refl _ w).alloc (Nat.le_refl _) (.cells #[.int .i64 c.kind, .int .i64 c.n, .string c.text] 69))
  obtain ⟨kd, nn, tx⟩ := c
  simp only at hB ⊢
  by_cases h3 : kd = 3
  · subst h3
    have e3 : rfB ⟨3, nn, tx⟩ = (tx.toList.isEmpty && !badN nn) := by unfold rfB; rw [if_pos rfl]
    rw [e3] at hr
    have hw := uN_wrap nn
    have hlt := uN_lt nn
    have n1 := new_cells w #[.int .i64 3, .int .i64 nn, .string tx] 69 1 _ rfl
    have n2 := new_cells w #[.int .i64 3, .int .i64 nn, .string tx] 69 2 _ rfl
    rw [Go.WideShapes.add_plain, Nat.zero_add] at n1 n2
    cases hte : tx.toList.isEmpty
    · obtain rfl : r = false := by rw [← unhide hr, hte]; rfl
      go_enter Tryz.func128, Tryz.ntmps128
      go_wp2_with fail
      refine wp_region_held_drew (S := (fun wx => wx.cell? ⟨w.heap.size, 1, none⟩ = some (.int .i64 nn) ∧ wx.cell? ⟨w.heap.size, 2, none⟩ = some (.string tx))) (by kernel_rfl) ⟨n1, n2⟩ (fun hHeld => ?_)
      refine wpAnyH_take (i := 0) (oi := _) (v := .pointer (some ⟨w.heap.size, 2, none⟩)) rfl (by kernel_rfl) (by kernel_rfl) (by kernel_rfl) (fun _ _ _ h => h) (Or.inl ⟨by rfl, (by intro w hSw; go_simp)⟩) (by assumption) ?_
      refine wpAnyH_take (i := 1) (oi := _) (v := .string tx) rfl (by kernel_rfl) (by kernel_rfl) (by kernel_rfl) (fun _ _ _ h => h) (Or.inl ⟨by rfl, (by intro w hSw; obtain ⟨s1, s2⟩ := hSw; go_simp)⟩) (by assumption) ?_
      refine wpAnyH_take (i := 2) (oi := _) (v := .bool false) rfl (by kernel_rfl) (by kernel_rfl) (by kernel_rfl) (fun _ _ _ h => h) (Or.inl ⟨by rfl, (by intro w hSw; go_simp)⟩) (by assumption) ?_
      refine wpAnyH_take (i := 3) (oi := _) (v := .bool false) rfl (by kernel_rfl) (by kernel_rfl) (by kernel_rfl) (fun _ _ _ h => h) (Or.inl ⟨by rfl, (by intro w hSw; go_simp)⟩) (by assumption) ?_
      go_simp
      refine wpAnyH_take (i := 4) (oi := _) (v := undef) rfl (by kernel_rfl) (by kernel_rfl) (by kernel_rfl) (fun _ _ _ h => h) (Or.inr ⟨by rfl, rfl⟩) (by assumption) ?_
      refine wpAnyH_take (i := 5) (oi := _) (v := undef) rfl (by kernel_rfl) (by kernel_rfl) (by kernel_rfl) (fun _ _ _ h => h) (Or.inr ⟨by rfl, rfl⟩) (by assumption) ?_
      refine wpAnyH_take (i := 6) (oi := _) (v := undef) rfl (by kernel_rfl) (by kernel_rfl) (by kernel_rfl) (fun _ _ _ h => h) (Or.inr ⟨by rfl, rfl⟩) (by assumption) ?_
      go_simp
      refine wpAnyH_take (i := 8) (oi := _) (v := undef) rfl (by kernel_rfl) (by kernel_rfl) (by kernel_rfl) (fun _ _ _ h => h) (Or.inr ⟨by rfl, rfl⟩) (by assumption) ?_
      refine wpAnyH_take (i := 9) (oi := _) (v := undef) rfl (by kernel_rfl) (by kernel_rfl) (by kernel_rfl) (fun _ _ _ h => h) (Or.inr ⟨by rfl, rfl⟩) (by assumption) ?_
      refine wpAnyH_take (i := 10) (oi := _) (v := undef) rfl (by kernel_rfl) (by kernel_rfl) (by kernel_rfl) (fun _ _ _ h => h) (Or.inr ⟨by rfl, rfl⟩) (by assumption) ?_
      go_simp
      refine wpAnyH_take (i := 7) (oi := _) (v := undef) rfl (by kernel_rfl) (by kernel_rfl) (by kernel_rfl) (fun _ _ _ h => h) (Or.inr ⟨by rfl, rfl⟩) (by assumption) ?_
      refine wpAnyH_take (i := 11) (oi := _) (v := undef) rfl (by kernel_rfl) (by kernel_rfl) (by kernel_rfl) (fun _ _ _ h => h) (Or.inr ⟨by rfl, rfl⟩) (by assumption) ?_
      go_simp
      refine wpAnyH_take (i := 12) (oi := _) (v := .bool false) rfl (by kernel_rfl) (by kernel_rfl) (by kernel_rfl) (fun _ _ _ h => h) (Or.inl ⟨by rfl, (by intro w hSw; go_simp)⟩) (by assumption) ?_
      refine wpAnyH_ready (rs := [13]) (by kernel_rfl) (by simp) ?_
      refine AllReadyH.cons (o := _) rfl (fun K hK => ?_) AllReadyH.nil
      go_simp
      refine hK.out _ _ hHeld (fun hHeld2 => ?_)
      clear hK K
      go_simp
      refine wpAnyH_done (by kernel_rfl) ?_ _
      clear hHeld hHeld2
      go_wp2_with fail
      go_ret
      exact ⟨rfl, Below.drawn (unhide hB)⟩
    · have hbd : r = ((canonN (uN nn) : Int) == (uN nn : Int)) := by
        rw [← unhide hr, hte, Bool.true_and]
        unfold badN canonN
        cases hi : isN (uN nn)
        · simp
        · simp only [Bool.true_and, if_true]
          by_cases q : uN nn = 9221120237041090560
          · simp [q]
          · have q1 : ((uN nn) != 9221120237041090560) = true := by rw [bne_iff_ne]; exact q
            rw [q1]
            symm
            rw [Bool.not_true, beq_eq_false_iff_ne]
            omega
      have HC := hide (canon_any (uN nn) hlt)
      generalize uN nn = u at *
      generalize canonN u = cu at *
      clear hlt hr e3
      go_enter Tryz.func128, Tryz.ntmps128
      go_wp2_with fail
      refine wp_region_held_drew (S := (fun wx => wx.cell? ⟨w.heap.size, 1, none⟩ = some (.int .i64 nn) ∧ wx.cell? ⟨w.heap.size, 2, none⟩ = some (.string tx))) (by kernel_rfl) ⟨n1, n2⟩ (fun hHeld => ?_)
      refine wpAnyH_take (i := 0) (oi := _) (v := .pointer (some ⟨w.heap.size, 2, none⟩)) rfl (by kernel_rfl) (by kernel_rfl) (by kernel_rfl) (fun _ _ _ h => h) (Or.inl ⟨by rfl, (by intro w hSw; go_simp)⟩) (by assumption) ?_
      refine wpAnyH_take (i := 1) (oi := _) (v := .string tx) rfl (by kernel_rfl) (by kernel_rfl) (by kernel_rfl) (fun _ _ _ h => h) (Or.inl ⟨by rfl, (by intro w hSw; obtain ⟨s1, s2⟩ := hSw; go_simp)⟩) (by assumption) ?_
      refine wpAnyH_take (i := 2) (oi := _) (v := .bool true) rfl (by kernel_rfl) (by kernel_rfl) (by kernel_rfl) (fun _ _ _ h => h) (Or.inl ⟨by rfl, (by intro w hSw; go_simp)⟩) (by assumption) ?_
      refine wpAnyH_take (i := 3) (oi := _) (v := .bool true) rfl (by kernel_rfl) (by kernel_rfl) (by kernel_rfl) (fun _ _ _ h => h) (Or.inl ⟨by rfl, (by intro w hSw; go_simp)⟩) (by assumption) ?_
      go_simp
      refine wpAnyH_take (i := 4) (oi := _) (v := .pointer (some ⟨w.heap.size, 1, none⟩)) rfl (by kernel_rfl) (by kernel_rfl) (by kernel_rfl) (fun _ _ _ h => h) (Or.inl ⟨by rfl, (by intro w hSw; go_simp)⟩) (by assumption) ?_
      refine wpAnyH_take (i := 5) (oi := _) (v := .int .i64 nn) rfl (by kernel_rfl) (by kernel_rfl) (by kernel_rfl) (fun _ _ _ h => h) (Or.inl ⟨by rfl, (by intro w hSw; obtain ⟨s1, s2⟩ := hSw; go_simp)⟩) (by assumption) ?_
      refine wpAnyH_take (i := 6) (oi := _) (v := .int .u64 (u : Int)) rfl (by kernel_rfl) (by kernel_rfl) (by kernel_rfl) (fun _ _ _ h => h) (Or.inl ⟨by rfl, (by intro w hSw; go_simp)⟩) (by assumption) ?_
      go_simp
      refine wpAnyH_take (i := 8) (oi := _) (v := .pointer (some ⟨w.heap.size, 1, none⟩)) rfl (by kernel_rfl) (by kernel_rfl) (by kernel_rfl) (fun _ _ _ h => h) (Or.inl ⟨by rfl, (by intro w hSw; go_simp)⟩) (by assumption) ?_
      refine wpAnyH_take (i := 9) (oi := _) (v := .int .i64 nn) rfl (by kernel_rfl) (by kernel_rfl) (by kernel_rfl) (fun _ _ _ h => h) (Or.inl ⟨by rfl, (by intro w hSw; obtain ⟨s1, s2⟩ := hSw; go_simp)⟩) (by assumption) ?_
      refine wpAnyH_take (i := 10) (oi := _) (v := .int .u64 (u : Int)) rfl (by kernel_rfl) (by kernel_rfl) (by kernel_rfl) (fun _ _ _ h => h) (Or.inl ⟨by rfl, (by intro w hSw; go_simp)⟩) (by assumption) ?_
      go_simp
      refine wpAnyH_ready (rs := [7]) (by kernel_rfl) (by simp) ?_
      refine AllReadyH.cons (o := _) rfl (fun K hK => ?_) AllReadyH.nil
      go_simp
      refine (unhide HC _).mono ?_
      rintro e w1 ⟨rfl, rfl⟩
      go_simp
      refine hK.out _ _ hHeld (fun hHeld1 => ?_)
      clear hK K
      go_simp
      refine wpAnyH_take (i := 11) (oi := _) (v := .bool ((cu : Int) == (u : Int))) rfl (by kernel_rfl) (by kernel_rfl) (by kernel_rfl) (fun _ _ _ h => h) (Or.inl ⟨by rfl, (by intro w hSw; go_simp)⟩) (by assumption) ?_
      refine wpAnyH_take (i := 12) (oi := _) (v := .bool ((cu : Int) == (u : Int))) rfl (by kernel_rfl) (by kernel_rfl) (by kernel_rfl) (fun _ _ _ h => h) (Or.inl ⟨by rfl, (by intro w hSw; go_simp)⟩) (by assumption) ?_
      go_simp
      refine wpAnyH_ready (rs := [13]) (by kernel_rfl) (by simp) ?_
      refine AllReadyH.cons (o := _) rfl (fun K hK => ?_) AllReadyH.nil
      go_simp
      refine hK.out _ _ hHeld (fun hHeld2 => ?_)
      clear hK K
      go_simp
      refine wpAnyH_done (by kernel_rfl) ?_ _
      clear hHeld hHeld1 hHeld2
      go_wp2_with fail
      go_ret
      exact ⟨by rw [hbd]; rfl, Below.drawn (unhide hB)⟩
  · have k3 : (kd == 3) = false := beq_eq_false_iff_ne.2 h3
    by_cases h4 : kd = 4
    · subst h4
      obtain rfl : r = decide (nn = 0) := by rw [← unhide hr]; unfold rfB; rw [if_neg (by show ¬ ((4 : Int) = 3); decide), if_pos rfl]
      have ed : decide (nn = 0) = (nn == 0) := rfl
      go_enter Tryz.func128, Tryz.ntmps128
      go_wp2_with fail
      go_ret
      refine ⟨?_, unhide hB⟩
      first | rfl | simp
    · have k4 : (kd == 4) = false := beq_eq_false_iff_ne.2 h4
      obtain rfl : r = false := by rw [← unhide hr]; unfold rfB; rw [if_neg h3, if_neg h4]
      go_enter Tryz.func128, Tryz.ntmps128
      go_wp2_with fail
      go_ret
      exact ⟨rfl, unhide hB⟩
end Go.Proofs.YtlogmdldjmkkjaaGreatDoor
