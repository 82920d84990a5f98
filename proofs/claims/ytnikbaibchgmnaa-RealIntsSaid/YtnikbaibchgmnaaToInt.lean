/-
  ToInt.
-/
import Derived.Test.YtnikbaibchgmnaaFloor
namespace Go.Proofs.Ytnikbaibchgmnaa
open Go.RowKit Ieee

theorem toN_yes (T a : Nat) (n : isN a = false) (h1 : -4890909195324358656 ≤ keyN a) (h2 : keyN a < 4890909195324358656) : toN T a = (if sg a then -((up (rg a) / 2 ^ T : Nat) : Int) else ((up (rg a) / 2 ^ T : Nat) : Int), true) := if_pos ⟨n, h1, h2⟩
theorem toN_no (T a : Nat) (h : ¬ (isN a = false ∧ -4890909195324358656 ≤ keyN a ∧ keyN a < 4890909195324358656)) : toN T a = (0, false) := if_neg h
theorem keyc1 : keyN 14114281232179134464 = -4890909195324358656 := by decide
theorem keyc2 : keyN 4890909195324358656 = 4890909195324358656 := by decide
set_option maxRecDepth 100000 in
set_option maxHeartbeats 800000 in
theorem toInt_any (T : Nat) (hT : T = 1074) (a : Nat) (ha : a < 18446744073709551616) (w : World) : Calls Try.prog 21 #[.int .u64 (a : Int)] w fun e w' => e = .returned (.tuple #[.int .i64 (toN T a).1, .bool (toN T a).2]) ∧ w' = w := by
  have hA := hide (number_any a)
  cases n : isN a
  · have o1 : FloatKind.f64.format.order 14114281232179134464 a = some (compare (keyN 14114281232179134464) (keyN a)) := order_eq 14114281232179134464 a (by decide) ha (by decide) n
    have o2 : FloatKind.f64.format.order a 4890909195324358656 = some (compare (keyN a) (keyN 4890909195324358656)) := order_eq a 4890909195324358656 ha (by decide) n (by decide)
    rw [keyc1] at o1
    rw [keyc2] at o2
    by_cases h1 : -4890909195324358656 ≤ keyN a
    · by_cases h2 : keyN a < 4890909195324358656
      · obtain ⟨_, hv⟩ := to_in T a hT ha h1 h2
        rw [toN_yes T a n h1 h2]
        generalize (if sg a then -((up (rg a) / 2 ^ T : Nat) : Int) else ((up (rg a) / 2 ^ T : Nat) : Int)) = V at *
        have hcv : ∀ w, (convert 32 2 (.float .f64 a)).run Try.prog w = .ok (.int .i64 V) w := fun w => run_convert_float_int w 32 2 .f64 .i64 a V (by kernel_rfl) (by kernel_rfl) hv
        rw [cmp_lt h2] at o2
        clear hv ha n h2
        generalize keyN a = k at *
        by_cases h3 : k = -4890909195324358656
        · rw [cmp_eq h3.symm] at o1
          clear h1 h3
          go_enter Try.func21, Try.ntmps21
          go_wp2_with fail
          refine (unhide hA _).mono ?_
          rintro e w1 ⟨rfl, rfl⟩
          go_wp2
          go_ret2
          exact ⟨rfl, rfl⟩
        · rw [cmp_lt (by omega)] at o1
          clear h1 h3
          go_enter Try.func21, Try.ntmps21
          go_wp2_with fail
          refine (unhide hA _).mono ?_
          rintro e w1 ⟨rfl, rfl⟩
          go_wp2
          go_ret2
          exact ⟨rfl, rfl⟩
      · rw [toN_no T a (fun h => h2 h.2.2)]
        have g2 : compare (keyN a) 4890909195324358656 ≠ .lt := fun h => by
          by_cases h4 : keyN a = 4890909195324358656
          · rw [cmp_eq h4] at h; cases h
          · rw [cmp_gt (by omega)] at h; cases h
        rw [cmp_lt (by omega)] at o1
        by_cases h4 : keyN a = 4890909195324358656
        · rw [cmp_eq h4] at o2
          clear g2 h2 h1 n ha h4
          go_enter Try.func21, Try.ntmps21
          go_wp2_with fail
          refine (unhide hA _).mono ?_
          rintro e w1 ⟨rfl, rfl⟩
          go_wp2
          go_ret2
          exact ⟨rfl, rfl⟩
        · rw [cmp_gt (by omega)] at o2
          clear g2 h2 h1 n ha h4
          go_enter Try.func21, Try.ntmps21
          go_wp2_with fail
          refine (unhide hA _).mono ?_
          rintro e w1 ⟨rfl, rfl⟩
          go_wp2
          go_ret2
          exact ⟨rfl, rfl⟩
    · rw [toN_no T a (fun h => h1 h.2.1)]
      rw [cmp_gt (by omega)] at o1
      clear h1 n ha o2
      go_enter Try.func21, Try.ntmps21
      go_wp2_with fail
      refine (unhide hA _).mono ?_
      rintro e w1 ⟨rfl, rfl⟩
      go_wp2
      go_ret2
      exact ⟨rfl, rfl⟩
  · rw [toN_no T a (fun h => by rw [n] at h; exact absurd h.1 (by simp))]
    have o1 : FloatKind.f64.format.order 14114281232179134464 a = none := order_N _ a (.inr n)
    clear n ha
    go_enter Try.func21, Try.ntmps21
    go_wp2_with fail
    refine (unhide hA _).mono ?_
    rintro e w1 ⟨rfl, rfl⟩
    go_wp2
    go_ret2
    exact ⟨rfl, rfl⟩
end Go.Proofs.Ytnikbaibchgmnaa
