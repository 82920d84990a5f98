/-
  Floor, Single, proper.
-/
import Derived.Test.YtncmegafkccblaaRSign
namespace Go.Proofs.Ytncmegafkccblaa
open Go.RowKit Ieee

theorem floor_lt64 (a : Nat) : floorN a < 18446744073709551616 := by
  unfold floorN; split
  · omega
  · exact double.write_lt _
set_option maxRecDepth 100000 in
theorem mfloor_any (x : Nat) (hx : x < 18446744073709551616) (w : World) : Calls Try.prog 76 #[.float .f64 x] w fun e w' => ∃ r, e = .returned (.float .f64 r) ∧ r < 18446744073709551616 ∧ canonN r = floorN x ∧ Below w.heap.size w w' := by
  obtain ⟨r, w2, hr, hlt, hb, hc⟩ := fl_floor x hx w
  have HB := hide (And.intro hlt (And.intro hc hb))
  clear hlt hc hb hx
  go_enter Try.func76, Try.ntmps76
  go_wp2
  go_ret
  exact ⟨r, rfl, unhide HB⟩

set_option maxRecDepth 100000 in
theorem floor_any (a : Nat) (ha : a < 18446744073709551616) (w : World) : Calls Try.prog 62 #[.int .u64 (a : Int)] w fun e w' => e = .returned (.int .u64 (floorN a : Nat)) ∧ Below w.heap.size w w' := by
  have hA := hide (number_any a)
  have hB := hide (mfloor_any a ha)
  clear ha
  go_enter Try.func62, Try.ntmps62
  go_wp2_with fail
  refine (unhide hA _).mono ?_
  rintro e w1 ⟨rfl, rfl⟩
  go_wp2_with fail
  refine (unhide hB _).mono ?_
  rintro e w2 ⟨r, rfl, hlt, hc, hb⟩
  have HB := hide hb
  have HC := hide hc
  have hC := hide (bits_any r hlt)
  clear hb hc hlt hA hB
  go_wp2_with fail
  refine (unhide hC _).mono ?_
  rintro e w1 ⟨rfl, rfl⟩
  go_wp2
  go_ret
  exact ⟨by rw [unhide HC]; rfl, unhide HB⟩

theorem conv_down (x : Nat) (w : World) : ∃ r w', (convert 92 95 (.float .f64 x)).run Try.prog w = .ok (.float .f32 r) w' ∧ r < 4294967296 ∧ Below w.heap.size w w' := by
  have hs : Try.prog.underlying 92 = some (.float .f64) := by kernel_rfl
  have hd : Try.prog.underlying 95 = some (.float .f32) := by kernel_rfl
  cases h : floatToFloatBits .f64 x .f32 with
  | some r =>
    refine ⟨r, w, run_convert_float_float w 92 95 .f64 .f32 x r (by rw [hs]; rfl) hd h, ?_, Below.refl _ _⟩
    unfold floatToFloatBits at h
    rw [if_neg (by decide)] at h
    split at h
    · cases h
    · cases h; exact single.write_lt _
    · split at h
      · cases h
      · cases h; exact single.write_lt _
  | none =>
    unfold floatToFloatBits at h
    rw [if_neg (by decide)] at h
    split at h
    · rename_i s t hh
      refine ⟨Question.cut (.nanConv .f32 x) (w.tape w.drawn (.nanConv .f32 x)), w.drew, ?_, ?_, below_drew w⟩
      · simp [convert, run_underlying hs, run_underlying hd, Conv.floatToFloat, hh]
        intro hq; exact absurd hq (by simp [Question.forced])
      · generalize w.tape w.drawn (.nanConv .f32 x) = t
        show (t % 2) * 2 ^ 31 + 0x7f800000 + 1 + (t / 2) % (2 ^ 23 - 1) < 4294967296
        have h1 : t % 2 < 2 := Nat.mod_lt _ (by decide)
        have h2 : t / 2 % (2 ^ 23 - 1) < 2 ^ 23 - 1 := Nat.mod_lt _ (by decide)
        omega
    · cases h
    · rename_i s m e hh
      split at h
      · rename_i hi
        refine ⟨Question.cut (.floatToFloat x) (w.tape w.drawn (.floatToFloat x)), w.drew, ?_, ?_, below_drew w⟩
        · simp [convert, run_underlying hs, run_underlying hd, Conv.floatToFloat, hh, hi]
          intro hq; exact absurd hq (by simp [Question.forced])
        · exact Nat.mod_lt _ (by decide)
      · cases h
theorem conv_up (x : Nat) (w : World) : ∃ r w', (convert 95 92 (.float .f32 x)).run Try.prog w = .ok (.float .f64 r) w' ∧ r < 18446744073709551616 ∧ Below w.heap.size w w' := by
  have hs : Try.prog.underlying 95 = some (.float .f32) := by kernel_rfl
  have hd : Try.prog.underlying 92 = some (.float .f64) := by kernel_rfl
  cases h : floatToFloatBits .f32 x .f64 with
  | some r =>
    refine ⟨r, w, run_convert_float_float w 95 92 .f32 .f64 x r (by rw [hs]; rfl) hd h, ?_, Below.refl _ _⟩
    unfold floatToFloatBits at h
    rw [if_neg (by decide)] at h
    split at h
    · cases h
    · cases h; exact double.write_lt _
    · split at h
      · cases h
      · cases h; exact double.write_lt _
  | none =>
    unfold floatToFloatBits at h
    rw [if_neg (by decide)] at h
    split at h
    · rename_i s t hh
      refine ⟨Question.cut (.nanConv .f64 x) (w.tape w.drawn (.nanConv .f64 x)), w.drew, ?_, ?_, below_drew w⟩
      · simp [convert, run_underlying hs, run_underlying hd, Conv.floatToFloat, hh]
        intro hq; exact absurd hq (by simp [Question.forced])
      · generalize w.tape w.drawn (.nanConv .f64 x) = t
        show (t % 2) * 2 ^ 63 + 0x7ff0000000000000 + 1 + (t / 2) % (2 ^ 52 - 1) < 18446744073709551616
        have h1 : t % 2 < 2 := Nat.mod_lt _ (by decide)
        have h2 : t / 2 % (2 ^ 52 - 1) < 2 ^ 52 - 1 := Nat.mod_lt _ (by decide)
        omega
    · cases h
    · rename_i s m e hh
      split at h
      · rename_i hi
        refine ⟨Question.cut (.floatToFloat x) (w.tape w.drawn (.floatToFloat x)), w.drew, ?_, ?_, below_drew w⟩
        · simp [convert, run_underlying hs, run_underlying hd, Conv.floatToFloat, hh, hi]
          intro hq; exact absurd hq (by simp [Question.forced])
        · exact Nat.lt_trans (Nat.mod_lt _ (by decide)) (by decide)
      · cases h

def properN (a : Nat) : Bool := a == 9221120237041090560 || !isN a
theorem canon_proper (a : Nat) : properN (canonN a) = true := by
  unfold properN
  cases n : isN a
  · rw [canon_of_notN n, n]; simp
  · rw [canon_of_N n]; rfl
theorem canon_lt64 {a : Nat} (h : a < 18446744073709551616) : canonN a < 18446744073709551616 := by
  unfold canonN; split <;> omega

set_option maxRecDepth 100000 in
theorem single_any (a : Nat) (w : World) : Calls Try.prog 64 #[.int .u64 (a : Int)] w fun e w' => ∃ r, e = .returned (.int .u64 (r : Nat)) ∧ r < 18446744073709551616 ∧ properN r = true ∧ Below w.heap.size w w' := by
  have hA := hide (number_any a)
  obtain ⟨r, w1, hr, hlt, hb⟩ := conv_down a w
  obtain ⟨r2, w2, hr2, hlt2, hb2⟩ := conv_up r w1
  have HB := hide (hb.trans (hb2.mono hb.size))
  have HP := hide (And.intro (canon_lt64 hlt2) (canon_proper r2))
  have hC := hide (bits_any r2 hlt2)
  clear hb hb2 hlt hlt2
  generalize canonN r2 = C at *
  go_enter Try.func64, Try.ntmps64
  go_wp2_with fail
  refine (unhide hA _).mono ?_
  rintro e w3 ⟨rfl, rfl⟩
  go_wp2_with fail
  refine (unhide hC _).mono ?_
  rintro e w3 ⟨rfl, rfl⟩
  go_wp2
  go_ret
  exact ⟨C, rfl, (unhide HP).1, (unhide HP).2, unhide HB⟩

theorem proper_getD {o : Option Nat} (h : ∀ r, o = some r → isN r = false) : properN (o.getD 9221120237041090560) = true := by
  cases o with
  | none => rfl
  | some r => show properN r = true; unfold properN; rw [h r rfl]; simp
theorem add_proper (a b : Nat) : properN (addN a b) = true := proper_getD fun _ e => add_notN e
theorem mul_proper (a b : Nat) : properN (mulN a b) = true := proper_getD fun _ e => mul_notN e
theorem div_proper (a b : Nat) : properN (divN a b) = true := proper_getD fun _ e => div_notN e
theorem sqrt_proper (a : Nat) : properN (sqrtN a) = true := proper_getD fun _ e => sqrt_notN e
theorem neg_proper (a : Nat) : properN (negN a) = true := canon_proper _
theorem floor_proper (a : Nat) : properN (floorN a) = true := by
  unfold floorN
  cases n : isN a
  · rw [if_neg (by simp)]
    unfold properN
    rw [write_notN]
    · simp
    · rw [← read_isN] at n
      cases h : double.read a <;> rw [h] at n <;> first | rfl | cases n
  · rfl
theorem canon_isN {a : Nat} : isN (canonN a) = isN a := by
  cases n : isN a
  · rw [canon_of_notN n, n]
  · rw [canon_of_N n, one_N]
theorem class_canon (a : Nat) : classN (canonN a) = classN a := by
  cases n : isN a
  · rw [canon_of_notN n]
  · unfold classN; rw [canon_isN, n]; rfl
theorem add_canon (a b : Nat) : addN (canonN a) (canonN b) = addN a b := by
  cases n : isN a
  · rw [canon_of_notN n]
    cases m : isN b
    · rw [canon_of_notN m]
    · rw [canon_of_N m, add_NR _ one_N, add_NR _ m]
  · rw [canon_of_N n, add_NL one_N, add_NL n]
theorem mul_canon (a b : Nat) : mulN (canonN a) (canonN b) = mulN a b := by
  cases n : isN a
  · rw [canon_of_notN n]
    cases m : isN b
    · rw [canon_of_notN m]
    · rw [canon_of_N m, mul_NR _ one_N, mul_NR _ m]
  · rw [canon_of_N n, mul_NL one_N, mul_NL n]
theorem div_canon (a b : Nat) : divN (canonN a) (canonN b) = divN a b := by
  cases n : isN a
  · rw [canon_of_notN n]
    cases m : isN b
    · rw [canon_of_notN m]
    · rw [canon_of_N m, div_NR _ one_N, div_NR _ m]
  · rw [canon_of_N n, div_NL one_N, div_NL n]
theorem neg_canon {b : Nat} (h : b < 18446744073709551616) : negN (canonN b) = negN b := by
  cases m : isN b
  · rw [canon_of_notN m]
  · rw [canon_of_N m, neg_one, neg_of_N h m]
theorem sub_canon (a : Nat) {b : Nat} (h : b < 18446744073709551616) : subN (canonN a) (canonN b) = subN a b := by
  unfold subN
  rw [neg_canon h]
  cases n : isN a
  · rw [canon_of_notN n]
  · rw [canon_of_N n, add_NL one_N, add_NL n]
end Go.Proofs.Ytncmegafkccblaa
