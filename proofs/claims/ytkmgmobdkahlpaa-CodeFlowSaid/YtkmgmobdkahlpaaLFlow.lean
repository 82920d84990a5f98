/-
  Flow.
-/
import Derived.Test.YtkmgmobdkahlpaaLKinds
namespace Go.Proofs.Ytkmgmobdkahlpaa
open Go.RowKit

theorem bool_eql (b c : Bool) (w : World) : (binOp .eql 4 (.bool b) (.bool c)).run Try.prog w = .ok (.bool (b == c)) w := by cases b <;> cases c <;> kernel_rfl
theorem bool_neq (b c : Bool) (w : World) : (binOp .neq 4 (.bool b) (.bool c)).run Try.prog w = .ok (.bool (b != c)) w := by cases b <;> cases c <;> kernel_rfl

/-- A right operand of a kind. -/
def someA (k : Nat) : Int := if k = 7 then 32 else if k = 8 then 64 else 0
theorem someA_right (k : Nat) (h : k < 9) : rightB k (someA k) = true := by
  have : ∀ k : Fin 9, rightB k.val (someA k.val) = true := by decide +kernel
  exact this ⟨k, h⟩
theorem ends_put (k : Nat) (h : k < 67) : enB k = true → pt k = 0 := by
  have : ∀ k : Fin 67, enB (k.val : Nat) = true → pt k.val = 0 := by decide +kernel
  exact this ⟨k, h⟩
theorem en_no {op : Int} (h : ¬ (0 ≤ op ∧ op < 67)) : enB op = false := by unfold enB; rw [decide_eq_false_iff_not]; omega

set_option maxRecDepth 100000 in
set_option maxHeartbeats 2000000 in
theorem flowLaw (op : Int) (w : World) : Calls Try.prog 8 #[.int .i64 op] w fun e w' => e = .returned (.bool true) ∧ Below w.heap.size w w' := by
  have e4 := bool_eql
  have e5 := bool_neq
  by_cases h : 0 ≤ op ∧ op < 67
  · obtain ⟨k, rfl⟩ : ∃ k : Nat, op = k := ⟨op.toNat, by omega⟩
    have hk : k < 67 := by omega
    have H1 := hide (fun w => operand_any w (k : Int))
    have H2 := hide (fun w => effect_any w (k : Int) (someA (kd k)))
    have H3 := hide (fun w => check_any w (k : Int) (someA (kd k)))
    have H4 := hide (fun w => jumps_any w (k : Int))
    have H5 := hide (fun w => ends_any w (k : Int))
    have hok : okB k (someA (kd k)) = true := by rw [okB_op hk]; exact someA_right _ (kd_lt k)
    have her : erN k (someA (kd k)) = 0 := by simp [erN, hok]
    have hpt : ptI k (someA (kd k)) = pt k := by simp [ptI, hok]
    have htk : tkI k (someA (kd k)) = tk k := by
      simp only [tkI, hok, Int.toNat_natCast, if_true]
      by_cases h6 : kd k = 6
      · simp [h6, someA]
      · simp [h6]
    rw [kdI_nat hk, isOp_nat hk] at H1
    rw [hok, hpt, htk] at H2
    rw [her] at H3
    rw [jm_kd k hk] at H4
    have t3 : tk k ≤ 3 := (SH_take k hk).1
    have p2 : pt k ≤ 2 := (SH_put k hk).2
    have hE := ends_put k hk
    clear hok her hpt htk
    generalize enB (k : Int) = eb at *
    generalize hd : kd k = d at *
    clear hd
    generalize tk k = t at *
    generalize pt k = p at *
    have hk0 : (0 : Int) ≤ (k : Int) := by omega
    have hk1 : (k : Int) < 67 := by omega
    clear h hk
    have hJ : ∀ b : Bool, (b != b) = false := fun b => by cases b <;> rfl
    have tl : decide ((t : Int) ≤ 3) = true := by simp; omega
    have pl : decide ((p : Int) ≤ 2) = true := by simp; omega
    obtain ⟨jb, hjb⟩ : ∃ jb, Hid (jb = decide ((d : Int) = 2)) := ⟨_, rfl⟩
    rw [← unhide hjb] at H4
    have hjd : ((d : Int) == 2) = jb := by rw [unhide hjb]; by_cases h : (d : Int) = 2 <;> simp [h]
    clear hjb
    have hp : (eb = true ∧ p = 0) ∨ eb = false := by cases eb <;> simp_all
    clear hE
    rcases hp with ⟨rfl, rfl⟩ | rfl
    all_goals
      by_cases h7 : d = 7
      · subst h7
        have e : someA 7 = 32 := rfl
        rw [e] at H2 H3
        obtain rfl : jb = false := hjd.symm.trans rfl
        clear e hjd
        go_enter Try.func8, Try.ntmps8
        go_wp2_with fail
        refine (unhide H1 _).mono ?_
        rintro e w1 ⟨rfl, hb1⟩
        have B1 := hide hb1
        clear hb1
        go_wp2_with fail
        refine (unhide H2 _).mono ?_
        rintro e w2 ⟨rfl, hb2⟩
        have B2 := hide hb2
        obtain ⟨c0, c1⟩ := par_cells hb2
        clear hb2
        go_wp2_with fail
        refine (unhide H3 _).mono ?_
        rintro e w3 ⟨rfl, hb3⟩
        have B3 := hide hb3
        clear hb3 c0 c1
        go_wp2_with fail
        refine (unhide H4 _).mono ?_
        rintro e w4 ⟨rfl, hb4⟩
        have B4 := hide hb4
        clear hb4
        go_wp2_with fail
        refine (unhide H5 _).mono ?_
        rintro e w5 ⟨rfl, rfl⟩
        go_wp2_with fail
        go_ret
        refine ⟨rfl, ?_⟩
        have s1 := (unhide B1).size
        have s2 := (unhide B2).size
        have s3 := (unhide B3).size
        simp at s2
        have b2 := Bl.par (unhide B2)
        exact Bl.go (Bl.go (Bl.go (unhide B1) (by omega) b2) (by omega) (unhide B3)) (by omega) (unhide B4)
      · by_cases h8 : d = 8
        · subst h8
          have e : someA 8 = 64 := rfl
          rw [e] at H2 H3
          obtain rfl : jb = false := hjd.symm.trans rfl
          clear e hjd h7
          go_enter Try.func8, Try.ntmps8
          go_wp2_with fail
          refine (unhide H1 _).mono ?_
          rintro e w1 ⟨rfl, hb1⟩
          have B1 := hide hb1
          clear hb1
          go_wp2_with fail
          refine (unhide H2 _).mono ?_
          rintro e w2 ⟨rfl, hb2⟩
          have B2 := hide hb2
          obtain ⟨c0, c1⟩ := par_cells hb2
          clear hb2
          go_wp2_with fail
          refine (unhide H3 _).mono ?_
          rintro e w3 ⟨rfl, hb3⟩
          have B3 := hide hb3
          clear hb3 c0 c1
          go_wp2_with fail
          refine (unhide H4 _).mono ?_
          rintro e w4 ⟨rfl, hb4⟩
          have B4 := hide hb4
          clear hb4
          go_wp2_with fail
          refine (unhide H5 _).mono ?_
          rintro e w5 ⟨rfl, rfl⟩
          go_wp2_with fail
          go_ret
          refine ⟨rfl, ?_⟩
          have s1 := (unhide B1).size
          have s2 := (unhide B2).size
          have s3 := (unhide B3).size
          simp at s2
          have b2 := Bl.par (unhide B2)
          exact Bl.go (Bl.go (Bl.go (unhide B1) (by omega) b2) (by omega) (unhide B3)) (by omega) (unhide B4)
        · have e : someA d = 0 := by simp [someA, h7, h8]
          rw [e] at H2 H3
          have n7 : ((d : Int) == 7) = false := by simp; omega
          have n8 : ((d : Int) == 8) = false := by simp; omega
          clear e h7 h8
          go_enter Try.func8, Try.ntmps8
          go_wp2_with fail
          refine (unhide H1 _).mono ?_
          rintro e w1 ⟨rfl, hb1⟩
          have B1 := hide hb1
          clear hb1
          go_wp2_with fail
          refine (unhide H2 _).mono ?_
          rintro e w2 ⟨rfl, hb2⟩
          have B2 := hide hb2
          obtain ⟨c0, c1⟩ := par_cells hb2
          clear hb2
          go_wp2_with fail
          refine (unhide H3 _).mono ?_
          rintro e w3 ⟨rfl, hb3⟩
          have B3 := hide hb3
          clear hb3 c0 c1
          go_wp2_with fail
          refine (unhide H4 _).mono ?_
          rintro e w4 ⟨rfl, hb4⟩
          have B4 := hide hb4
          clear hb4
          go_wp2_with fail
          refine (unhide H5 _).mono ?_
          rintro e w5 ⟨rfl, rfl⟩
          go_wp2_with fail
          go_ret
          refine ⟨rfl, ?_⟩
          have s1 := (unhide B1).size
          have s2 := (unhide B2).size
          have s3 := (unhide B3).size
          simp at s2
          have b2 := Bl.par (unhide B2)
          exact Bl.go (Bl.go (Bl.go (unhide B1) (by omega) b2) (by omega) (unhide B3)) (by omega) (unhide B4)
  · have H1 := hide (fun w => operand_any w op)
    have H2 := hide (fun w => effect_any w op 0)
    have H3 := hide (fun w => check_any w op 0)
    have H4 := hide (fun w => jumps_any w op)
    have H5 := hide (fun w => ends_any w op)
    have hok : okB op 0 = false := by simp [okB, isOp_no h]
    have her : erN op 0 = 7 := by simp [erN, hok]
    have hpt : ptI op 0 = 0 := by simp [ptI, hok]
    have htk : tkI op 0 = 0 := by simp [tkI, hok]
    rw [kdI_no h, isOp_no h] at H1
    rw [hok, hpt, htk] at H2
    rw [her] at H3
    rw [jm_no h] at H4
    rw [en_no h] at H5
    have hor : op < 0 ∨ (0 ≤ op ∧ 67 ≤ op) := by omega
    clear hok her hpt htk h
    rcases hor with h0 | ⟨h0, h1⟩
    all_goals
      go_enter Try.func8, Try.ntmps8
      go_wp2_with fail
      refine (unhide H1 _).mono ?_
      rintro e w1 ⟨rfl, hb1⟩
      have B1 := hide hb1
      clear hb1
      go_wp2_with fail
      refine (unhide H2 _).mono ?_
      rintro e w2 ⟨rfl, hb2⟩
      have B2 := hide hb2
      obtain ⟨c0, c1⟩ := par_cells hb2
      clear hb2
      go_wp2_with fail
      refine (unhide H3 _).mono ?_
      rintro e w3 ⟨rfl, hb3⟩
      have B3 := hide hb3
      clear hb3 c0 c1
      go_wp2_with fail
      refine (unhide H4 _).mono ?_
      rintro e w4 ⟨rfl, hb4⟩
      have B4 := hide hb4
      clear hb4
      go_wp2_with fail
      refine (unhide H5 _).mono ?_
      rintro e w5 ⟨rfl, rfl⟩
      go_wp2_with fail
      go_ret
      refine ⟨rfl, ?_⟩
      have s1 := (unhide B1).size
      have s2 := (unhide B2).size
      have s3 := (unhide B3).size
      simp at s2
      have b2 := Bl.par (unhide B2)
      exact Bl.go (Bl.go (Bl.go (unhide B1) (by omega) b2) (by omega) (unhide B3)) (by omega) (unhide B4)
end Go.Proofs.Ytkmgmobdkahlpaa
