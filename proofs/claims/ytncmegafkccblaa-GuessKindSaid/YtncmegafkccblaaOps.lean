/-
  What is told of an operation and of an instruction, by the program and by the document.
-/
import Derived.Test.YtncmegafkccblaaTab
namespace Go.Proofs.Ytncmegafkccblaa
open Go.RowKit


/-- Is it an operation's number? -/
def isOp (op : Int) : Bool := decide (0 ≤ op ∧ op < 67)
def kdI (op : Int) : Int := if isOp op then (kd op.toNat : Int) else 0
theorem isOp_nat {k : Nat} (h : k < 67) : isOp (k : Int) = true := by simp [isOp]; omega
theorem isOp_no {op : Int} (h : ¬ (0 ≤ op ∧ op < 67)) : isOp op = false := by simp only [isOp, decide_eq_false_iff_not]; exact h
theorem kdI_nat {k : Nat} (h : k < 67) : kdI (k : Int) = kd k := by rw [kdI, isOp_nat h]; simp
theorem kdI_no {op : Int} (h : ¬ (0 ≤ op ∧ op < 67)) : kdI op = 0 := by rw [kdI, isOp_no h]; simp
theorem kd_lt (k : Nat) : kd k < 9 := by
  by_cases h : k < 67
  · have : ∀ k : Fin 67, kd k.val < 9 := by decide +kernel
    exact this ⟨k, h⟩
  · have : shL.length = 67 := by decide +kernel
    simp [kd, List.getD_eq_getElem?_getD, List.getElem?_eq_none (by omega : shL.length ≤ k)]
theorem kd_tab1 : ∀ k : Fin 67, (k.val = 4 → kd k.val = 1) ∧ ((k.val = 40 ∨ k.val = 41 ∨ k.val = 42) → kd k.val = 2) ∧ ((k.val = 10 ∨ k.val = 11) → kd k.val = 3) := by decide +kernel
theorem kd_tab2 : ∀ k : Fin 67, ((k.val = 5 ∨ k.val = 53 ∨ k.val = 54 ∨ k.val = 55 ∨ k.val = 56) → kd k.val = 4) ∧ (k.val = 6 → kd k.val = 5) := by decide +kernel
theorem kd_tab3 : ∀ k : Fin 67, ((k.val = 43 ∨ k.val = 46 ∨ k.val = 47 ∨ k.val = 60) → kd k.val = 6) ∧ (k.val = 24 → kd k.val = 7) ∧ (k.val = 62 → kd k.val = 8) := by decide +kernel
theorem kd_tab4 : ∀ k : Fin 67, kd k.val = 0 ∨ k.val ∈ [4, 40, 41, 42, 10, 11, 5, 53, 54, 55, 56, 6, 43, 46, 47, 60, 24, 62] := by decide +kernel
theorem kd_tab (k : Nat) (h : k < 67) : ((k = 4 → kd k = 1) ∧ ((k = 40 ∨ k = 41 ∨ k = 42) → kd k = 2) ∧ ((k = 10 ∨ k = 11) → kd k = 3)) ∧
    (((k = 5 ∨ k = 53 ∨ k = 54 ∨ k = 55 ∨ k = 56) → kd k = 4) ∧ (k = 6 → kd k = 5)) ∧ (((k = 43 ∨ k = 46 ∨ k = 47 ∨ k = 60) → kd k = 6) ∧ (k = 24 → kd k = 7) ∧ (k = 62 → kd k = 8)) ∧
    (kd k = 0 ∨ (k = 4 ∨ k = 40 ∨ k = 41 ∨ k = 42 ∨ k = 10 ∨ k = 11 ∨ k = 5 ∨ k = 53 ∨ k = 54 ∨ k = 55 ∨ k = 56 ∨ k = 6 ∨ k = 43 ∨ k = 46 ∨ k = 47 ∨ k = 60 ∨ k = 24 ∨ k = 62)) := by
  have h4 := kd_tab4 ⟨k, h⟩
  simp only [List.mem_cons, List.not_mem_nil, or_false] at h4
  exact ⟨kd_tab1 ⟨k, h⟩, kd_tab2 ⟨k, h⟩, kd_tab3 ⟨k, h⟩, h4⟩

theorem fld3_0 (a b c : Value) (w : World) : (Instr.field 56 (.agg #[a, b, c]) 0).run Try.prog w = .ok a w := by kernel_rfl
theorem fld3_1 (a b c : Value) (w : World) : (Instr.field 56 (.agg #[a, b, c]) 1).run Try.prog w = .ok b w := by kernel_rfl
theorem fld3_2 (a b c : Value) (w : World) : (Instr.field 56 (.agg #[a, b, c]) 2).run Try.prog w = .ok c w := by kernel_rfl

set_option maxRecDepth 100000 in
set_option maxHeartbeats 1000000 in
theorem operand_any (w : World) (op : Int) : Calls Try.prog 30 #[.int .i64 op] w fun e w' => e = .returned (.tuple #[.int .i64 (kdI op), .bool (isOp op)]) ∧ Below w.heap.size w w' := by
  by_cases h : 0 ≤ op ∧ op < 67
  · obtain ⟨k, rfl⟩ : ∃ k : Nat, op = k := ⟨op.toNat, by omega⟩
    have hk : k < 67 := by omega
    rw [kdI_nat hk, isOp_nat hk]
    have H1 := hide (known_any w (k : Int))
    have hd : decide (0 ≤ (k : Int) ∧ (k : Int) < 67) = true := by simpa using h
    rw [hd] at H1
    have H2 := hide (fun w => shapeOf_any w k hk)
    clear h hd hk
    go_enter Try.func30, Try.ntmps30
    go_wp2_with fail
    refine (unhide H1).mono ?_
    rintro e w' ⟨rfl, rfl⟩
    go_wp2_with fail
    refine (unhide H2 _).mono ?_
    rintro e w1 ⟨rfl, hb⟩
    have HB := hide hb
    clear hb
    have hf := fld3_0
    go_wp2
    go_ret2
    exact ⟨rfl, unhide HB⟩
  · rw [kdI_no h, isOp_no h]
    have H1 := hide (known_any w op)
    have hd : decide (0 ≤ op ∧ op < 67) = false := by simpa using h
    rw [hd] at H1
    clear h hd
    go_enter Try.func30, Try.ntmps30
    go_wp2_with fail
    refine (unhide H1).mono ?_
    rintro e w' ⟨rfl, rfl⟩
    go_wp2
    go_ret2
    exact ⟨rfl, Below.refl _ _⟩

set_option maxRecDepth 100000 in
set_option maxHeartbeats 1000000 in
theorem dOperand_any (w : World) (op : Int) : Calls Try.prog 20 #[.int .i64 op] w fun e w' => e = .returned (.tuple #[.int .i64 (kdI op), .bool (isOp op)]) ∧ Below w.heap.size w w' := by
  by_cases h : 0 ≤ op ∧ op < 67
  · obtain ⟨k, rfl⟩ : ∃ k : Nat, op = k := ⟨op.toNat, by omega⟩
    have hk : k < 67 := by omega
    rw [kdI_nat hk, isOp_nat hk]
    have HT := hide (kd_tab k hk)
    generalize kd k = d at *
    clear h
    go_enter Try.func20, Try.ntmps20
    go_wp2
    all_goals
      go_ret2
      refine ⟨?_, Below.refl _ _⟩
      have HT := unhide HT

      simp only [beq_iff_eq, beq_eq_false_iff_ne, ne_eq] at *
      have : d = 0 ∨ d = 1 ∨ d = 2 ∨ d = 3 ∨ d = 4 ∨ d = 5 ∨ d = 6 ∨ d = 7 ∨ d = 8 := by omega
      rcases this with rfl | rfl | rfl | rfl | rfl | rfl | rfl | rfl | rfl <;> first | rfl | (exfalso; omega)
  · rw [kdI_no h, isOp_no h]
    go_enter Try.func20, Try.ntmps20
    by_cases h0 : op < 0
    · go_wp2
      go_ret2
      exact ⟨rfl, Below.refl _ _⟩
    · have h1 : 67 ≤ op := by omega
      clear h
      go_wp2
      go_ret2
      exact ⟨rfl, Below.refl _ _⟩

/-- Is an operand of a kind right? -/
def rightB (k : Nat) (a : Int) : Bool :=
  if k = 7 then decide (a = 8 ∨ a = 16 ∨ a = 32) else decide (lo k ≤ a ∧ a ≤ hi k)

set_option maxRecDepth 100000 in
set_option maxHeartbeats 1000000 in
theorem right_any (w : World) (k : Nat) (hk : k < 9) (a : Int) : Calls Try.prog 31 #[.int .i64 k, .int .i64 a] w fun e w' => e = .returned (.bool (rightB k a)) ∧ Below w.heap.size w w' := by
  by_cases h7 : k = 7
  · subst h7
    clear hk
    go_enter Try.func31, Try.ntmps31
    have h : rightB 7 a = decide (a = 8 ∨ a = 16 ∨ a = 32) := rfl
    rw [h]
    clear h
    by_cases h8 : a = 8 <;> by_cases h16 : a = 16 <;> by_cases h32 : a = 32
    all_goals try omega
    all_goals
      go_wp2
      go_ret
      refine ⟨?_, Below.refl _ _⟩
      simp_all
  · have h : rightB k a = decide (lo k ≤ a ∧ a ≤ hi k) := by rw [rightB, if_neg h7]
    rw [h]
    clear h
    have H1 := hide (spanOf_any w k hk)
    generalize lo k = l at *
    generalize hi k = m at *
    have h7' : ¬ (k : Int) = 7 := by omega
    clear hk h7
    by_cases h0 : l ≤ a <;> by_cases h1 : a ≤ m
    all_goals
      go_enter Try.func31, Try.ntmps31
      go_wp2_with fail
      refine (unhide H1).mono ?_
      rintro e w1 ⟨rfl, hb⟩
      have HB := hide hb
      clear hb
      go_wp2
      go_ret
      refine ⟨?_, ?_⟩
      · simp_all
      · exact (unhide HB).alloc (unhide HB).size _
end Go.Proofs.Ytncmegafkccblaa
