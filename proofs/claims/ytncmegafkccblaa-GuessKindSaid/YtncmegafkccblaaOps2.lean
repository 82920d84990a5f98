/-
  Whether an instruction is right, what it takes and puts, where it goes.
-/
import Derived.Test.YtncmegafkccblaaOps
namespace Go.Proofs.Ytncmegafkccblaa
open Go.RowKit

/-- A number of 64 bits. -/
def I64 (a : Int) : Prop := -9223372036854775808 ≤ a ∧ a ≤ 9223372036854775807

set_option maxRecDepth 100000 in
set_option maxHeartbeats 1000000 in
theorem dright_any (w : World) (k : Nat) (hk : k < 9) (a : Int) (ha : I64 a) : Calls Try.prog 21 #[.int .i64 k, .int .i64 a] w fun e w' => e = .returned (.bool (rightB k a)) ∧ Below w.heap.size w w' := by
  unfold I64 at ha
  have : k = 0 ∨ k = 1 ∨ k = 2 ∨ k = 3 ∨ k = 4 ∨ k = 5 ∨ k = 6 ∨ k = 7 ∨ k = 8 := by omega
  rcases this with rfl | rfl | rfl | rfl | rfl | rfl | rfl | rfl | rfl
  · clear hk
    have h : rightB 0 a = decide (a = 0) := by
      have e : rightB 0 a = decide (lo 0 ≤ a ∧ a ≤ hi 0) := rfl
      have e1 : lo 0 = 0 := rfl
      have e2 : hi 0 = 0 := rfl
      rw [e, e1, e2, decide_eq_decide]
      try omega
    rw [h]
    clear h
    by_cases c0 : a = 0
    all_goals first | (exfalso; omega) | skip
    all_goals
      go_enter Try.func21, Try.ntmps21
      go_wp2
      go_ret
      refine ⟨?_, Below.refl _ _⟩
      simp_all
  · clear hk
    have h : rightB 1 a = decide (True) := by
      have e : rightB 1 a = decide (lo 1 ≤ a ∧ a ≤ hi 1) := rfl
      have e1 : lo 1 = -9223372036854775808 := rfl
      have e2 : hi 1 = 9223372036854775807 := rfl
      rw [e, e1, e2, decide_eq_decide]
      exact ⟨fun _ => trivial, fun _ => ha⟩
    rw [h]
    go_enter Try.func21, Try.ntmps21
    go_wp2
    go_ret
    exact ⟨rfl, Below.refl _ _⟩
  · clear hk
    have h : rightB 2 a = decide (0 ≤ a ∧ a < 2000) := by
      have e : rightB 2 a = decide (lo 2 ≤ a ∧ a ≤ hi 2) := rfl
      have e1 : lo 2 = 0 := rfl
      have e2 : hi 2 = 1999 := rfl
      rw [e, e1, e2, decide_eq_decide]
      try omega
    rw [h]
    clear h
    by_cases c0 : 0 ≤ a <;> by_cases c1 : a < 2000
    all_goals first | (exfalso; omega) | skip
    all_goals
      go_enter Try.func21, Try.ntmps21
      go_wp2
      go_ret
      refine ⟨?_, Below.refl _ _⟩
      simp_all
  · clear hk
    have h : rightB 3 a = decide (0 ≤ a ∧ a < 64) := by
      have e : rightB 3 a = decide (lo 3 ≤ a ∧ a ≤ hi 3) := rfl
      have e1 : lo 3 = 0 := rfl
      have e2 : hi 3 = 63 := rfl
      rw [e, e1, e2, decide_eq_decide]
      try omega
    rw [h]
    clear h
    by_cases c0 : 0 ≤ a <;> by_cases c1 : a < 64
    all_goals first | (exfalso; omega) | skip
    all_goals
      go_enter Try.func21, Try.ntmps21
      go_wp2
      go_ret
      refine ⟨?_, Below.refl _ _⟩
      simp_all
  · clear hk
    have h : rightB 4 a = decide (0 ≤ a ∧ a < 512) := by
      have e : rightB 4 a = decide (lo 4 ≤ a ∧ a ≤ hi 4) := rfl
      have e1 : lo 4 = 0 := rfl
      have e2 : hi 4 = 511 := rfl
      rw [e, e1, e2, decide_eq_decide]
      try omega
    rw [h]
    clear h
    by_cases c0 : 0 ≤ a <;> by_cases c1 : a < 512
    all_goals first | (exfalso; omega) | skip
    all_goals
      go_enter Try.func21, Try.ntmps21
      go_wp2
      go_ret
      refine ⟨?_, Below.refl _ _⟩
      simp_all
  · clear hk
    have h : rightB 5 a = decide (0 ≤ a ∧ a < 128) := by
      have e : rightB 5 a = decide (lo 5 ≤ a ∧ a ≤ hi 5) := rfl
      have e1 : lo 5 = 0 := rfl
      have e2 : hi 5 = 127 := rfl
      rw [e, e1, e2, decide_eq_decide]
      try omega
    rw [h]
    clear h
    by_cases c0 : 0 ≤ a <;> by_cases c1 : a < 128
    all_goals first | (exfalso; omega) | skip
    all_goals
      go_enter Try.func21, Try.ntmps21
      go_wp2
      go_ret
      refine ⟨?_, Below.refl _ _⟩
      simp_all
  · clear hk
    have h : rightB 6 a = decide (0 ≤ a ∧ a < 64) := by
      have e : rightB 6 a = decide (lo 6 ≤ a ∧ a ≤ hi 6) := rfl
      have e1 : lo 6 = 0 := rfl
      have e2 : hi 6 = 63 := rfl
      rw [e, e1, e2, decide_eq_decide]
      try omega
    rw [h]
    clear h
    by_cases c0 : 0 ≤ a <;> by_cases c1 : a < 64
    all_goals first | (exfalso; omega) | skip
    all_goals
      go_enter Try.func21, Try.ntmps21
      go_wp2
      go_ret
      refine ⟨?_, Below.refl _ _⟩
      simp_all
  · clear hk
    have h : rightB 7 a = decide (a = 8 ∨ a = 16 ∨ a = 32) := by
      rfl
    rw [h]
    clear h
    by_cases c0 : a = 8 <;> by_cases c1 : a = 16 <;> by_cases c2 : a = 32
    all_goals first | (exfalso; omega) | skip
    all_goals
      go_enter Try.func21, Try.ntmps21
      go_wp2
      go_ret
      refine ⟨?_, Below.refl _ _⟩
      simp_all
  · clear hk
    have h : rightB 8 a = decide (1 ≤ a ∧ a ≤ 64) := by
      have e : rightB 8 a = decide (lo 8 ≤ a ∧ a ≤ hi 8) := rfl
      have e1 : lo 8 = 1 := rfl
      have e2 : hi 8 = 64 := rfl
      rw [e, e1, e2, decide_eq_decide]
      try omega
    rw [h]
    clear h
    by_cases c0 : 1 ≤ a <;> by_cases c1 : a ≤ 64
    all_goals first | (exfalso; omega) | skip
    all_goals
      go_enter Try.func21, Try.ntmps21
      go_wp2
      go_ret
      refine ⟨?_, Below.refl _ _⟩
      simp_all

/-- Is an instruction right? -/
def okB (op a : Int) : Bool := isOp op && rightB (kd op.toNat) a
def erN (op a : Int) : Int := if okB op a then 0 else 7

/-- An instruction as a value. -/
def In (op a : Int) : Value := .agg #[.int .i64 op, .int .i64 a]

theorem Bl.go {B : Nat} {w w1 w2 : World} (h : Below B w w1) (hB : B ≤ w1.heap.size) (k : Below w1.heap.size w1 w2) : Below B w w2 := h.trans (k.mono hB)
theorem Bl.par {w w1 : World} {o : Obj} (h : Below (w.alloc o).heap.size (w.alloc o) w1) : Below w.heap.size w w1 :=
  Bl.go ((Below.refl _ w).alloc (Nat.le_refl _) o) (by simp) h
/-- A parameter's cells, behind a call. -/
theorem par_cells {w w1 : World} {x y : Value} {ty : TypeId} (hb : Below (w.alloc (Obj.cells #[x, y] ty)).heap.size (w.alloc (Obj.cells #[x, y] ty)) w1) :
    w1.cell? ⟨w.heap.size, 0, none⟩ = some x ∧ w1.cell? ⟨w.heap.size, 1, none⟩ = some y := by
  refine ⟨(hb.cell (p := ⟨w.heap.size, 0, none⟩) (by simp)).trans (by simp), (hb.cell (p := ⟨w.heap.size, 1, none⟩) (by simp)).trans (by simp)⟩

theorem erN_op {k : Nat} (h : k < 67) (a : Int) : erN k a = if rightB (kd k) a then 0 else 7 := by simp [erN, okB, isOp_nat h]
theorem erN_no {op : Int} (h : ¬ (0 ≤ op ∧ op < 67)) (a : Int) : erN op a = 7 := by simp [erN, okB, isOp_no h]

set_option maxRecDepth 100000 in
set_option maxHeartbeats 1000000 in
theorem check_any (w : World) (op a : Int) : Calls Try.prog 22 #[.agg #[.int .i64 op, .int .i64 a]] w fun e w' => e = .returned (.int .i64 (erN op a)) ∧ Below w.heap.size w w' := by
  by_cases h : 0 ≤ op ∧ op < 67
  · obtain ⟨k, rfl⟩ : ∃ k : Nat, op = k := ⟨op.toNat, by omega⟩
    have hk : k < 67 := by omega
    have H1 := hide (fun w => operand_any w (k : Int))
    rw [kdI_nat hk, isOp_nat hk] at H1
    have H2 := hide (fun w => right_any w (kd k) (kd_lt k) a)
    have hE := hide (erN_op hk a)
    generalize ((kd k : Nat) : Int) = d at *
    generalize rightB (kd k) a = b at *
    rw [unhide hE]
    clear h hE hk
    cases b
    all_goals
      go_enter Try.func22, Try.ntmps22
      go_wp2_with fail
      refine (unhide H1 _).mono ?_
      rintro e w1 ⟨rfl, hb⟩
      have HB := hide hb
      obtain ⟨c0, c1⟩ := par_cells hb
      clear hb
      go_wp2_with fail
      refine (unhide H2 _).mono ?_
      rintro e w2 ⟨rfl, hb2⟩
      have HB2 := hide hb2
      clear hb2
      go_wp2
      go_ret
      exact ⟨rfl, Bl.go (Bl.par (unhide HB)) (by have := (unhide HB).size; simp at this; omega) (unhide HB2)⟩
  · have H1 := hide (fun w => operand_any w op)
    rw [kdI_no h, isOp_no h] at H1
    rw [erN_no h]
    clear h
    go_enter Try.func22, Try.ntmps22
    go_wp2_with fail
    refine (unhide H1 _).mono ?_
    rintro e w1 ⟨rfl, hb⟩
    have HB := hide hb
    obtain ⟨c0, c1⟩ := par_cells hb
    clear hb
    go_wp2
    go_ret
    exact ⟨rfl, Bl.par (unhide HB)⟩

set_option maxRecDepth 100000 in
set_option maxHeartbeats 1000000 in
theorem dCheck_any (w : World) (op a : Int) (ha : I64 a) : Calls Try.prog 14 #[.agg #[.int .i64 op, .int .i64 a]] w fun e w' => e = .returned (.int .i64 (erN op a)) ∧ Below w.heap.size w w' := by
  by_cases h : 0 ≤ op ∧ op < 67
  · obtain ⟨k, rfl⟩ : ∃ k : Nat, op = k := ⟨op.toNat, by omega⟩
    have hk : k < 67 := by omega
    have H1 := hide (fun w => dOperand_any w (k : Int))
    rw [kdI_nat hk, isOp_nat hk] at H1
    have H2 := hide (fun w => dright_any w (kd k) (kd_lt k) a ha)
    have hE := hide (erN_op hk a)
    generalize ((kd k : Nat) : Int) = d at *
    generalize rightB (kd k) a = b at *
    rw [unhide hE]
    clear h hE hk ha
    cases b
    all_goals
      go_enter Try.func14, Try.ntmps14
      go_wp2_with fail
      refine (unhide H1 _).mono ?_
      rintro e w1 ⟨rfl, hb⟩
      have HB := hide hb
      obtain ⟨c0, c1⟩ := par_cells hb
      clear hb
      go_wp2_with fail
      refine (unhide H2 _).mono ?_
      rintro e w2 ⟨rfl, hb2⟩
      have HB2 := hide hb2
      clear hb2
      go_wp2
      go_ret
      exact ⟨rfl, Bl.go (Bl.par (unhide HB)) (by have := (unhide HB).size; simp at this; omega) (unhide HB2)⟩
  · have H1 := hide (fun w => dOperand_any w op)
    rw [kdI_no h, isOp_no h] at H1
    rw [erN_no h]
    clear h
    go_enter Try.func14, Try.ntmps14
    go_wp2_with fail
    refine (unhide H1 _).mono ?_
    rintro e w1 ⟨rfl, hb⟩
    have HB := hide hb
    obtain ⟨c0, c1⟩ := par_cells hb
    clear hb
    go_wp2
    go_ret
    exact ⟨rfl, Bl.par (unhide HB)⟩

/-- Does an operation jump? -/
def jmB (op : Int) : Bool := decide (op = 40 ∨ op = 41 ∨ op = 42)
def enB (op : Int) : Bool := decide (op = 40 ∨ op = 44 ∨ op = 45)
theorem jm_kd (k : Nat) (h : k < 67) : jmB (k : Int) = decide ((kd k : Int) = 2) := by
  have := kd_tab k h
  unfold jmB
  rw [decide_eq_decide]
  generalize kd k = d at *
  omega
theorem jm_no {op : Int} (h : ¬ (0 ≤ op ∧ op < 67)) : jmB op = false := by unfold jmB; rw [decide_eq_false_iff_not]; omega

end Go.Proofs.Ytncmegafkccblaa
