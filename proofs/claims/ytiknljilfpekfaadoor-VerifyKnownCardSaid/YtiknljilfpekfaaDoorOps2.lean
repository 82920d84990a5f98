/-
  Whether an instruction is right, what it takes and puts, where it goes.
-/
import Derived.Test.YtiknljilfpekfaaDoorOps
namespace Go.Proofs.YtiknljilfpekfaaDoor
open Go.RowKit

/-- A number of 64 bits. -/
def I64 (a : Int) : Prop := -9223372036854775808 ≤ a ∧ a ≤ 9223372036854775807

/-- Is an instruction right? -/
def okB (op a : Int) : Bool := isOp op && rightB (kd op.toNat) a
def erN (op a : Int) : Int := if okB op a then 0 else 7

/-- An instruction as a value. -/
def In (op a : Int) : Value := .agg #[.int .i64 op, .int .i64 a]

theorem Bl.go {B : Nat} {w w1 w2 : World} (h : Below B w w1) (hB : B ≤ w1.heap.size) (k : Below w1.heap.size w1 w2) : Below B w w2 := h.trans (k.mono hB)
theorem Bl.par {w w1 : World} {o : Obj} (h : Below (w.alloc o).heap.size (w.alloc o) w1) : Below w.heap.size w w1 :=
  Bl.go ((Below.refl _ w).alloc (Nat.le_refl _) o) (by simp) h
/-- A parameter's cells, behind a call. -/
theorem par_cells {w w1 : World} {x y : Value} {ty : TypeId} (hb : Below (w.alloc (Obj.cells #[x, y] ty)).heap.size (w.alloc (Obj.cells #[x, y] ty)) w1) :
    w1.cell? ⟨w.heap.size, 0, none⟩ = some x ∧ w1.cell? ⟨w.heap.size, 1, none⟩ = some y := by
  refine ⟨(hb.cell (p := ⟨w.heap.size, 0, none⟩) (by simp)).trans (by simp), (hb.cell (p := ⟨w.heap.size, 1, none⟩) (by simp)).trans (by simp)⟩

theorem erN_op {k : Nat} (h : k < 67) (a : Int) : erN k a = if rightB (kd k) a then 0 else 7 := by simp [erN, okB, isOp_nat h]
theorem erN_no {op : Int} (h : ¬ (0 ≤ op ∧ op < 67)) (a : Int) : erN op a = 7 := by simp [erN, okB, isOp_no h]

set_option maxRecDepth 100000 in
set_option maxHeartbeats 1000000 in
theorem check_any (w : World) (op a : Int) : Calls Tryd.prog 50 #[.agg #[.int .i64 op, .int .i64 a]] w fun e w' => e = .returned (.int .i64 (erN op a)) ∧ Below w.heap.size w w' := by
  by_cases h : 0 ≤ op ∧ op < 67
  · obtain ⟨k, rfl⟩ : ∃ k : Nat, op = k := ⟨op.toNat, by omega⟩
    have hk : k < 67 := by omega
    have H1 := hide (fun w => operand_any w (k : Int))
    rw [kdI_nat hk, isOp_nat hk] at H1
    have H2 := hide (fun w => right_any w (kd k) (kd_lt k) a)
    have hE := hide (erN_op hk a)
    generalize ((kd k : Nat) : Int) = d at *
    generalize rightB (kd k) a = b at *
    rw [unhide hE]
    clear h hE hk
    cases b
    all_goals
      go_enter Tryd.func50, Tryd.ntmps50
      go_wp2_with fail
      refine (unhide H1 _).mono ?_
      rintro e w1 ⟨rfl, hb⟩
      have HB := hide hb
      obtain ⟨c0, c1⟩ := par_cells hb
      clear hb
      go_wp2_with fail
      refine (unhide H2 _).mono ?_
      rintro e w2 ⟨rfl, hb2⟩
      have HB2 := hide hb2
      clear hb2
      go_wp2
      go_ret
      exact ⟨rfl, Bl.go (Bl.par (unhide HB)) (by have := (unhide HB).size; simp at this; omega) (unhide HB2)⟩
  · have H1 := hide (fun w => operand_any w op)
    rw [kdI_no h, isOp_no h] at H1
    rw [erN_no h]
    clear h
    go_enter Tryd.func50, Tryd.ntmps50
    go_wp2_with fail
    refine (unhide H1 _).mono ?_
    rintro e w1 ⟨rfl, hb⟩
    have HB := hide hb
    obtain ⟨c0, c1⟩ := par_cells hb
    clear hb
    go_wp2
    go_ret
    exact ⟨rfl, Bl.par (unhide HB)⟩

/-- Does an operation jump? -/
def jmB (op : Int) : Bool := decide (op = 40 ∨ op = 41 ∨ op = 42)
def enB (op : Int) : Bool := decide (op = 40 ∨ op = 44 ∨ op = 45)
theorem jm_kd (k : Nat) (h : k < 67) : jmB (k : Int) = decide ((kd k : Int) = 2) := by
  have := kd_tab k h
  unfold jmB
  rw [decide_eq_decide]
  generalize kd k = d at *
  omega
theorem jm_no {op : Int} (h : ¬ (0 ≤ op ∧ op < 67)) : jmB op = false := by unfold jmB; rw [decide_eq_false_iff_not]; omega

end Go.Proofs.YtiknljilfpekfaaDoor
