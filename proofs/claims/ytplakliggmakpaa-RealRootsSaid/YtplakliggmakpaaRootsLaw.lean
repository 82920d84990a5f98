/-
  RealRoots: the law.
-/
import Derived.Test.YtplakliggmakpaaRoot
namespace Go.Proofs.Ytplakliggmakpaa
open Go.RowKit Ieee

theorem band_ex (a : Nat) (h : a < 18446744073709551616) : bits .and .u64 ((a : Int) / 4503599627370496) 2047 = ((a / 4503599627370496 % 2048 : Nat) : Int) := by
  have e : (a : Int) / 4503599627370496 = ((a / 4503599627370496 : Nat) : Int) := rfl
  rw [e]
  go_bits2
set_option maxRecDepth 100000 in
set_option maxHeartbeats 800000 in
theorem rootsLaw (a : Nat) (w : World) (ha : a < 18446744073709551616) :
    Calls Try.prog 7 #[.int .u64 (a : Int)] w fun e w' => e = .returned (.bool true) ∧ Below w.heap.size w w' := by
  have HB := hide (Below.refl w.heap.size w)
  have b1 := band_ex a ha
  have b2 := band_un a ha
  have hE : a / 4503599627370496 % 2048 * 4503599627370496 + a % 4503599627370496 = rg a := by unfold rg; omega
  have hF : a % 4503599627370496 < 4503599627370496 := Nat.mod_lt _ (by decide)
  generalize a / 4503599627370496 % 2048 = e at *
  by_cases h1 : e < 523
  · have g1 : (e : Int) < 523 := by omega
    clear hE hF h1
    go_enter Try.func7, Try.ntmps7
    go_wp2
    go_ret
    exact ⟨rfl, unhide HB⟩
  have g1 : decide ((e : Int) < 523) = false := by rw [decide_eq_false_iff_not]; omega
  by_cases h2 : 1523 ≤ e
  · have g2 : (1523 : Int) ≤ (e : Int) := by omega
    clear hE hF h1 h2
    go_enter Try.func7, Try.ntmps7
    go_wp2
    go_ret
    exact ⟨rfl, unhide HB⟩
  have g2 : decide ((1523 : Int) ≤ (e : Int)) = false := by rw [decide_eq_false_iff_not]; omega
  have hr := root_sq a e _ hF hE.symm (by omega) (by omega)
  have c1 := mul_any a a
  have c2 := sqrt_any (mulN a a)
  rw [hr] at c2
  rw [show a % 9223372036854775808 = rg a from rfl] at b2
  generalize rg a = G at *
  generalize mulN a a = M at *
  replace c1 := hide c1
  replace c2 := hide c2
  clear hE hF h1 h2 hr
  go_enter Try.func7, Try.ntmps7
  go_wp2_with fail
  refine (unhide c1 _).mono ?_
  rintro e w1 ⟨rfl, hb1⟩
  replace HB := hide ((unhide HB).trans (hb1.mono (unhide HB).size))
  clear hb1
  go_wp2_with fail
  refine (unhide c2 _).mono ?_
  rintro e w2 ⟨rfl, hb2⟩
  replace HB := hide ((unhide HB).trans (hb2.mono (unhide HB).size))
  clear hb2
  go_wp2
  go_ret
  exact ⟨rfl, unhide HB⟩
end Go.Proofs.Ytplakliggmakpaa
