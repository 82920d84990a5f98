/-
  Of an instruction: what it takes and puts, and whether it jumps or ends.
-/
import Derived.Test.YtiknljilfpekfaaDoorVDel2
import Derived.Test.YtiknljilfpekfaaDoorOps2
import Derived.BigQuiet
import Derived.Deep.Draws
namespace Go.Proofs.YtiknljilfpekfaaDoor
open Go.RowKit
set_option linter.unusedVariables false
set_option linter.unusedSimpArgs false
theorem Below.drewN {B : Nat} {a w : World} (h : Below B a w) (n : Nat) : Below B a (w.drewN n) := ⟨h.os, h.tape, h.output, h.size, h.block⟩
/-- What is taken, what is put. -/
def tkI (op a : Int) : Int := if okB op a then (tk op.toNat : Int) + (if kd op.toNat = 6 then a else 0) else 0
def ptI (op a : Int) : Int := if okB op a then (pt op.toNat : Int) else 0
theorem tk_le (k : Nat) (h : k < 67) : tk k ≤ 3 := by
  have : ∀ k : Fin 67, tk k.val ≤ 3 := by decide +kernel
  exact this ⟨k, h⟩
theorem pt_le (k : Nat) (h : k < 67) : pt k ≤ 2 := by
  have : ∀ k : Fin 67, pt k.val ≤ 2 := by decide +kernel
  exact this ⟨k, h⟩
theorem okB_op {k : Nat} (h : k < 67) (a : Int) : okB k a = rightB (kd k) a := by simp [okB, isOp_nat h]
theorem right6 {a : Int} (h : rightB 6 a = true) : 0 ≤ a ∧ a < 64 := by
  have e1 : lo 6 = 0 := rfl
  have e2 : hi 6 = 63 := rfl
  simp only [rightB, e1, e2] at h
  simp at h
  omega

set_option maxRecDepth 100000 in
set_option maxHeartbeats 2000000 in
theorem effect_any (w : World) (op a : Int) : Calls Tryd.prog 43 #[.agg #[.int .i64 op, .int .i64 a]] w fun e w' => e = .returned (.tuple #[.int .i64 (tkI op a), .int .i64 (ptI op a), .bool (okB op a)]) ∧ Below w.heap.size w w' := by
  have H1 := hide (fun w => check_any w op a)
  cases hok : okB op a
  · have e1 : erN op a = 7 := by simp [erN, hok]
    have e2 : tkI op a = 0 := by simp [tkI, hok]
    have e3 : ptI op a = 0 := by simp [ptI, hok]
    rw [e2, e3]
    rw [e1] at H1
    clear e1 e2 e3 hok
    go_enter Tryd.func43, Tryd.ntmps43
    go_wp2_with fail
    refine (unhide H1 _).mono ?_
    rintro e w1 ⟨rfl, hb⟩
    have HB := hide hb
    clear hb
    go_wp2
    go_ret3
    exact ⟨rfl, Bl.par (unhide HB)⟩
  · have hop : isOp op = true := by simp [okB] at hok; exact hok.1
    have h : 0 ≤ op ∧ op < 67 := by simpa [isOp] using hop
    obtain ⟨k, rfl⟩ : ∃ k : Nat, op = k := ⟨op.toNat, by omega⟩
    have hk : k < 67 := by omega
    have e1 : erN k a = 0 := by simp [erN, hok]
    have e3 : ptI k a = pt k := by simp [ptI, hok]
    rw [e3]
    rw [e1] at H1
    have H2 := hide (fun w => shapeOf_any w k hk)
    have ht := tk_le k hk
    by_cases h6 : kd k = 6
    · have hr : rightB 6 a = true := by rw [okB_op hk, h6] at hok; exact hok
      have hr := right6 hr
      have e2 : tkI k a = tk k + a := by simp [tkI, hok, h6]
      rw [e2]
      rw [h6] at H2
      generalize tk k = t at *
      generalize ((pt k : Nat) : Int) = p at *
      have ew : IntKind.i64.wrap ((t : Int) + a) = (t : Int) + a := by rw [IntKind.wrap_i64]; omega
      clear e1 e2 e3 hok hop h h6 hk hr ht
      go_enter Tryd.func43, Tryd.ntmps43
      go_wp2_with fail
      refine (unhide H1 _).mono ?_
      rintro e w1 ⟨rfl, hb⟩
      have HB := hide hb
      obtain ⟨c0, c1⟩ := par_cells hb
      clear hb
      go_wp2_with fail
      refine (unhide H2 _).mono ?_
      rintro e w2 ⟨rfl, hb2⟩
      have HB2 := hide hb2
      have d1 := (hb2.cell (p := ⟨w.heap.size, 1, none⟩) (World.block_lt_of_cell? _ _ c1)).trans c1
      have lt := World.block_lt_of_cell? _ _ d1
      clear hb2 c0 c1
      go_wp2_with fail
      go_quiet (fail)
      go_wp2_with fail
      go_ret3
      refine ⟨rfl, Go.Proofs.YtiknljilfpekfaaDoor.Below.drewN ?_ _⟩
      exact (Bl.go (Bl.par (unhide HB)) (by have := (unhide HB).size; simp at this; omega) (unhide HB2)).alloc (by have := (unhide HB).size; have := (unhide HB2).size; simp at *; omega) _
    · have h6' : (((kd k : Nat) : Int) == 6) = false := by simp; omega
      have e2 : tkI k a = tk k := by simp [tkI, hok, h6]
      rw [e2]
      generalize tk k = t at *
      generalize ((pt k : Nat) : Int) = p at *
      generalize ((kd k : Nat) : Int) = d at *
      clear e1 e2 e3 hok hop h h6 hk ht
      go_enter Tryd.func43, Tryd.ntmps43
      go_wp2_with fail
      refine (unhide H1 _).mono ?_
      rintro e w1 ⟨rfl, hb⟩
      have HB := hide hb
      obtain ⟨c0, c1⟩ := par_cells hb
      clear hb
      go_wp2_with fail
      refine (unhide H2 _).mono ?_
      rintro e w2 ⟨rfl, hb2⟩
      have HB2 := hide hb2
      clear hb2 c0 c1
      go_wp2_with fail
      go_quiet (fail)
      go_wp2_with fail
      go_ret3
      refine ⟨rfl, Go.Proofs.YtiknljilfpekfaaDoor.Below.drewN ?_ _⟩
      exact (Bl.go (Bl.par (unhide HB)) (by have := (unhide HB).size; simp at this; omega) (unhide HB2)).alloc (by have := (unhide HB).size; have := (unhide HB2).size; simp at *; omega) _

set_option maxRecDepth 100000 in
set_option maxHeartbeats 1000000 in
theorem jumps_any (w : World) (op : Int) : Calls Tryd.prog 44 #[.int .i64 op] w fun e w' => e = .returned (.bool (jmB op)) ∧ Below w.heap.size w w' := by
  by_cases h : 0 ≤ op ∧ op < 67
  · obtain ⟨k, rfl⟩ : ∃ k : Nat, op = k := ⟨op.toNat, by omega⟩
    have hk : k < 67 := by omega
    have H1 := hide (operand_any w (k : Int))
    rw [kdI_nat hk, isOp_nat hk] at H1
    rw [jm_kd k hk]
    generalize ((kd k : Nat) : Int) = d at *
    clear h hk
    go_enter Tryd.func44, Tryd.ntmps44
    go_wp2_with fail
    refine (unhide H1).mono ?_
    rintro e w1 ⟨rfl, hb⟩
    have HB := hide hb
    clear hb
    by_cases hd : d = 2
    all_goals
      go_wp2
      go_ret
      exact ⟨by simp_all, unhide HB⟩
  · have H1 := hide (operand_any w op)
    rw [kdI_no h, isOp_no h] at H1
    rw [jm_no h]
    clear h
    go_enter Tryd.func44, Tryd.ntmps44
    go_wp2_with fail
    refine (unhide H1).mono ?_
    rintro e w1 ⟨rfl, hb⟩
    have HB := hide hb
    clear hb
    go_wp2
    go_ret
    exact ⟨rfl, unhide HB⟩

set_option maxRecDepth 100000 in
set_option maxHeartbeats 1000000 in
theorem ends_any (w : World) (op : Int) : Calls Tryd.prog 22 #[.int .i64 op] w fun e w' => e = .returned (.bool (enB op)) ∧ w' = w := by
  unfold enB
  by_cases h0 : op = 40 <;> by_cases h1 : op = 44 <;> by_cases h2 : op = 45
  all_goals first | (exfalso; omega) | skip
  all_goals
    go_enter Tryd.func22, Tryd.ntmps22
    go_wp2
    go_ret
    simp_all
end Go.Proofs.YtiknljilfpekfaaDoor
