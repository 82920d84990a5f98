/-
  The document's Operand, right and Check of one instruction.
-/
import Derived.Test.YtlogmdldjmkkjaaGreatDoorOps2
namespace Go.Proofs.YtlogmdldjmkkjaaGreatDoor
open Go.RowKit
set_option linter.unusedVariables false
set_option linter.unusedSimpArgs false
set_option maxRecDepth 100000 in
set_option maxHeartbeats 1000000 in
theorem dOperand_any (w : World) (op : Int) : Calls Tryz.prog 153 #[.int .i64 op] w fun e w' => e = .returned (.tuple #[.int .i64 (kdI op), .bool (isOp op)]) ∧ Below w.heap.size w w' := by
  by_cases h : 0 ≤ op ∧ op < 67
  · obtain ⟨k, rfl⟩ : ∃ k : Nat, op = k := ⟨op.toNat, by omega⟩
    have hk : k < 67 := by omega
    rw [kdI_nat hk, isOp_nat hk]
    have HT := hide (kd_tab k hk)
    generalize kd k = d at *
    clear h
    go_enter Tryz.func153, Tryz.ntmps153
    go_wp2
    all_goals
      go_ret2
      refine ⟨?_, Below.refl _ _⟩
      have HT := unhide HT

      simp only [beq_iff_eq, beq_eq_false_iff_ne, ne_eq] at *
      have : d = 0 ∨ d = 1 ∨ d = 2 ∨ d = 3 ∨ d = 4 ∨ d = 5 ∨ d = 6 ∨ d = 7 ∨ d = 8 := by omega
      rcases this with rfl | rfl | rfl | rfl | rfl | rfl | rfl | rfl | rfl <;> first | rfl | (exfalso; omega)
  · rw [kdI_no h, isOp_no h]
    go_enter Tryz.func153, Tryz.ntmps153
    by_cases h0 : op < 0
    · go_wp2
      go_ret2
      exact ⟨rfl, Below.refl _ _⟩
    · have h1 : 67 ≤ op := by omega
      clear h
      go_wp2
      go_ret2
      exact ⟨rfl, Below.refl _ _⟩

set_option maxRecDepth 100000 in
set_option maxHeartbeats 1000000 in
theorem dright_any (w : World) (k : Nat) (hk : k < 9) (a : Int) (ha : I64 a) : Calls Tryz.prog 154 #[.int .i64 k, .int .i64 a] w fun e w' => e = .returned (.bool (rightB k a)) ∧ Below w.heap.size w w' := by
  unfold I64 at ha
  have : k = 0 ∨ k = 1 ∨ k = 2 ∨ k = 3 ∨ k = 4 ∨ k = 5 ∨ k = 6 ∨ k = 7 ∨ k = 8 := by omega
  rcases this with rfl | rfl | rfl | rfl | rfl | rfl | rfl | rfl | rfl
  · clear hk
    have h : rightB 0 a = decide (a = 0) := by
      have e : rightB 0 a = decide (lo 0 ≤ a ∧ a ≤ hi 0) := rfl
      have e1 : lo 0 = 0 := rfl
      have e2 : hi 0 = 0 := rfl
      rw [e, e1, e2, decide_eq_decide]
      try omega
    rw [h]
    clear h
    by_cases c0 : a = 0
    all_goals first | (exfalso; omega) | skip
    all_goals
      go_enter Tryz.func154, Tryz.ntmps154
      go_wp2
      go_ret
      refine ⟨?_, Below.refl _ _⟩
      simp_all
  · clear hk
    have h : rightB 1 a = decide (True) := by
      have e : rightB 1 a = decide (lo 1 ≤ a ∧ a ≤ hi 1) := rfl
      have e1 : lo 1 = -9223372036854775808 := rfl
      have e2 : hi 1 = 9223372036854775807 := rfl
      rw [e, e1, e2, decide_eq_decide]
      exact ⟨fun _ => trivial, fun _ => ha⟩
    rw [h]
    go_enter Tryz.func154, Tryz.ntmps154
    go_wp2
    go_ret
    exact ⟨rfl, Below.refl _ _⟩
  · clear hk
    have h : rightB 2 a = decide (0 ≤ a ∧ a < 2000) := by
      have e : rightB 2 a = decide (lo 2 ≤ a ∧ a ≤ hi 2) := rfl
      have e1 : lo 2 = 0 := rfl
      have e2 : hi 2 = 1999 := rfl
      rw [e, e1, e2, decide_eq_decide]
      try omega
    rw [h]
    clear h
    by_cases c0 : 0 ≤ a <;> by_cases c1 : a < 2000
    all_goals first | (exfalso; omega) | skip
    all_goals
      go_enter Tryz.func154, Tryz.ntmps154
      go_wp2
      go_ret
      refine ⟨?_, Below.refl _ _⟩
      simp_all
  · clear hk
    have h : rightB 3 a = decide (0 ≤ a ∧ a < 64) := by
      have e : rightB 3 a = decide (lo 3 ≤ a ∧ a ≤ hi 3) := rfl
      have e1 : lo 3 = 0 := rfl
      have e2 : hi 3 = 63 := rfl
      rw [e, e1, e2, decide_eq_decide]
      try omega
    rw [h]
    clear h
    by_cases c0 : 0 ≤ a <;> by_cases c1 : a < 64
    all_goals first | (exfalso; omega) | skip
    all_goals
      go_enter Tryz.func154, Tryz.ntmps154
      go_wp2
      go_ret
      refine ⟨?_, Below.refl _ _⟩
      simp_all
  · clear hk
    have h : rightB 4 a = decide (0 ≤ a ∧ a < 512) := by
      have e : rightB 4 a = decide (lo 4 ≤ a ∧ a ≤ hi 4) := rfl
      have e1 : lo 4 = 0 := rfl
      have e2 : hi 4 = 511 := rfl
      rw [e, e1, e2, decide_eq_decide]
      try omega
    rw [h]
    clear h
    by_cases c0 : 0 ≤ a <;> by_cases c1 : a < 512
    all_goals first | (exfalso; omega) | skip
    all_goals
      go_enter Tryz.func154, Tryz.ntmps154
      go_wp2
      go_ret
      refine ⟨?_, Below.refl _ _⟩
      simp_all
  · clear hk
    have h : rightB 5 a = decide (0 ≤ a ∧ a < 128) := by
      have e : rightB 5 a = decide (lo 5 ≤ a ∧ a ≤ hi 5) := rfl
      have e1 : lo 5 = 0 := rfl
      have e2 : hi 5 = 127 := rfl
      rw [e, e1, e2, decide_eq_decide]
      try omega
    rw [h]
    clear h
    by_cases c0 : 0 ≤ a <;> by_cases c1 : a < 128
    all_goals first | (exfalso; omega) | skip
    all_goals
      go_enter Tryz.func154, Tryz.ntmps154
      go_wp2
      go_ret
      refine ⟨?_, Below.refl _ _⟩
      simp_all
  · clear hk
    have h : rightB 6 a = decide (0 ≤ a ∧ a < 64) := by
      have e : rightB 6 a = decide (lo 6 ≤ a ∧ a ≤ hi 6) := rfl
      have e1 : lo 6 = 0 := rfl
      have e2 : hi 6 = 63 := rfl
      rw [e, e1, e2, decide_eq_decide]
      try omega
    rw [h]
    clear h
    by_cases c0 : 0 ≤ a <;> by_cases c1 : a < 64
    all_goals first | (exfalso; omega) | skip
    all_goals
      go_enter Tryz.func154, Tryz.ntmps154
      go_wp2
      go_ret
      refine ⟨?_, Below.refl _ _⟩
      simp_all
  · clear hk
    have h : rightB 7 a = decide (a = 8 ∨ a = 16 ∨ a = 32) := by
      rfl
    rw [h]
    clear h
    by_cases c0 : a = 8 <;> by_cases c1 : a = 16 <;> by_cases c2 : a = 32
    all_goals first | (exfalso; omega) | skip
    all_goals
      go_enter Tryz.func154, Tryz.ntmps154
      go_wp2
      go_ret
      refine ⟨?_, Below.refl _ _⟩
      simp_all
  · clear hk
    have h : rightB 8 a = decide (1 ≤ a ∧ a ≤ 64) := by
      have e : rightB 8 a = decide (lo 8 ≤ a ∧ a ≤ hi 8) := rfl
      have e1 : lo 8 = 1 := rfl
      have e2 : hi 8 = 64 := rfl
      rw [e, e1, e2, decide_eq_decide]
      try omega
    rw [h]
    clear h
    by_cases c0 : 1 ≤ a <;> by_cases c1 : a ≤ 64
    all_goals first | (exfalso; omega) | skip
    all_goals
      go_enter Tryz.func154, Tryz.ntmps154
      go_wp2
      go_ret
      refine ⟨?_, Below.refl _ _⟩
      simp_all

set_option maxRecDepth 100000 in
set_option maxHeartbeats 1000000 in
theorem dCheck_any (w : World) (op a : Int) (ha : I64 a) : Calls Tryz.prog 110 #[.agg #[.int .i64 op, .int .i64 a]] w fun e w' => e = .returned (.int .i64 (erN op a)) ∧ Below w.heap.size w w' := by
  by_cases h : 0 ≤ op ∧ op < 67
  · obtain ⟨k, rfl⟩ : ∃ k : Nat, op = k := ⟨op.toNat, by omega⟩
    have hk : k < 67 := by omega
    have H1 := hide (fun w => dOperand_any w (k : Int))
    rw [kdI_nat hk, isOp_nat hk] at H1
    have H2 := hide (fun w => dright_any w (kd k) (kd_lt k) a ha)
    have hE := hide (erN_op hk a)
    generalize ((kd k : Nat) : Int) = d at *
    generalize rightB (kd k) a = b at *
    rw [unhide hE]
    clear h hE hk ha
    cases b
    all_goals
      go_enter Tryz.func110, Tryz.ntmps110
      go_wp2_with fail
      refine (unhide H1 _).mono ?_
      rintro e w1 ⟨rfl, hb⟩
      have HB := hide hb
      obtain ⟨c0, c1⟩ := par_cells hb
      clear hb
      go_wp2_with fail
      refine (unhide H2 _).mono ?_
      rintro e w2 ⟨rfl, hb2⟩
      have HB2 := hide hb2
      clear hb2
      go_wp2
      go_ret
      exact ⟨rfl, Bl.go (Bl.par (unhide HB)) (by have := (unhide HB).size; simp at this; omega) (unhide HB2)⟩
  · have H1 := hide (fun w => dOperand_any w op)
    rw [kdI_no h, isOp_no h] at H1
    rw [erN_no h]
    clear h
    go_enter Tryz.func110, Tryz.ntmps110
    go_wp2_with fail
    refine (unhide H1 _).mono ?_
    rintro e w1 ⟨rfl, hb⟩
    have HB := hide hb
    obtain ⟨c0, c1⟩ := par_cells hb
    clear hb
    go_wp2
    go_ret
    exact ⟨rfl, Bl.par (unhide HB)⟩

end Go.Proofs.YtlogmdldjmkkjaaGreatDoor
