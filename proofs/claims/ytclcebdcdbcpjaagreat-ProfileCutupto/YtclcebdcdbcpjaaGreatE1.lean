/-
  A spot's numbers: do they fit?
-/
import Derived.Test.YtclcebdcdbcpjaaGreatPAt
import Derived.Test.YtclcebdcdbcpjaaGreatWPut
import Derived.Test.YtclcebdcdbcpjaaGreatText
namespace Go.Proofs.YtclcebdcdbcpjaaGreat
open Go.RowKit
set_option linter.unusedVariables false
set_option linter.unusedSimpArgs false
/-- Does Encode take these numbers? -/
def tkB (s : Sp) : Bool := decide (0 ≤ s.c ∧ s.a ≤ 1023 ∧ s.b ≤ 1023 ∧ -1 ≤ s.k ∧ s.k ≤ 128)
theorem ix0 (a b c d : Value) (W : World) : (Instr.index 75 (.agg #[a, b, c, d]) (.int .i64 0)).run Tryz.prog W = .ok a W := by kernel_rfl
theorem ix1 (a b c d : Value) (W : World) : (Instr.index 75 (.agg #[a, b, c, d]) (.int .i64 1)).run Tryz.prog W = .ok b W := by kernel_rfl
theorem ix2 (a b c d : Value) (W : World) : (Instr.index 75 (.agg #[a, b, c, d]) (.int .i64 2)).run Tryz.prog W = .ok c W := by kernel_rfl
theorem ix3 (a b c d : Value) (W : World) : (Instr.index 75 (.agg #[a, b, c, d]) (.int .i64 3)).run Tryz.prog W = .ok d W := by kernel_rfl
def nmV (s : Sp) : Value := .agg #[.int .i64 s.c, .int .i64 s.a, .int .i64 s.b, .int .i64 s.k]
set_option maxRecDepth 100000 in
set_option maxHeartbeats 400000 in
theorem fits0 (w : World) (x : Int) : Calls Tryz.prog 74 #[.int .i64 0, .int .i64 x] w fun e w' => e = .returned (.bool (decide (0 ≤ x ∧ x ≤ 9223372036854775807))) ∧ w' = w := by
  by_cases h1 : 0 ≤ x
  · have d1 : decide (0 ≤ x) = true := decide_eq_true h1
    by_cases h2 : x ≤ 9223372036854775807
    · have d2 : decide (x ≤ 9223372036854775807) = true := decide_eq_true h2
      rw [decide_eq_true (And.intro h1 h2)]
      clear h1 h2
      go_enter Tryz.func74, Tryz.ntmps74
      go_wp2_with fail
      go_ret
      exact ⟨rfl, rfl⟩
    · have d2 : decide (x ≤ 9223372036854775807) = false := decide_eq_false h2
      rw [decide_eq_false (fun h : 0 ≤ x ∧ x ≤ 9223372036854775807 => h2 h.2)]
      clear h1 h2
      go_enter Tryz.func74, Tryz.ntmps74
      go_wp2_with fail
      go_ret
      exact ⟨rfl, rfl⟩
  · have d1 : decide (0 ≤ x) = false := decide_eq_false h1
    rw [decide_eq_false (fun h : 0 ≤ x ∧ x ≤ 9223372036854775807 => h1 h.1)]
    clear h1
    go_enter Tryz.func74, Tryz.ntmps74
    go_wp2_with fail
    go_ret
    exact ⟨rfl, rfl⟩
set_option maxRecDepth 100000 in
set_option maxHeartbeats 400000 in
theorem fits1 (w : World) (x : Int) : Calls Tryz.prog 74 #[.int .i64 1, .int .i64 x] w fun e w' => e = .returned (.bool (decide (0 ≤ x ∧ x ≤ 1023))) ∧ w' = w := by
  by_cases h1 : 0 ≤ x
  · have d1 : decide (0 ≤ x) = true := decide_eq_true h1
    by_cases h2 : x ≤ 1023
    · have d2 : decide (x ≤ 1023) = true := decide_eq_true h2
      rw [decide_eq_true (And.intro h1 h2)]
      clear h1 h2
      go_enter Tryz.func74, Tryz.ntmps74
      go_wp2_with fail
      go_ret
      exact ⟨rfl, rfl⟩
    · have d2 : decide (x ≤ 1023) = false := decide_eq_false h2
      rw [decide_eq_false (fun h : 0 ≤ x ∧ x ≤ 1023 => h2 h.2)]
      clear h1 h2
      go_enter Tryz.func74, Tryz.ntmps74
      go_wp2_with fail
      go_ret
      exact ⟨rfl, rfl⟩
  · have d1 : decide (0 ≤ x) = false := decide_eq_false h1
    rw [decide_eq_false (fun h : 0 ≤ x ∧ x ≤ 1023 => h1 h.1)]
    clear h1
    go_enter Tryz.func74, Tryz.ntmps74
    go_wp2_with fail
    go_ret
    exact ⟨rfl, rfl⟩
set_option maxRecDepth 100000 in
set_option maxHeartbeats 400000 in
theorem fits2 (w : World) (x : Int) : Calls Tryz.prog 74 #[.int .i64 2, .int .i64 x] w fun e w' => e = .returned (.bool (decide (0 ≤ x ∧ x ≤ 1023))) ∧ w' = w := by
  by_cases h1 : 0 ≤ x
  · have d1 : decide (0 ≤ x) = true := decide_eq_true h1
    by_cases h2 : x ≤ 1023
    · have d2 : decide (x ≤ 1023) = true := decide_eq_true h2
      rw [decide_eq_true (And.intro h1 h2)]
      clear h1 h2
      go_enter Tryz.func74, Tryz.ntmps74
      go_wp2_with fail
      go_ret
      exact ⟨rfl, rfl⟩
    · have d2 : decide (x ≤ 1023) = false := decide_eq_false h2
      rw [decide_eq_false (fun h : 0 ≤ x ∧ x ≤ 1023 => h2 h.2)]
      clear h1 h2
      go_enter Tryz.func74, Tryz.ntmps74
      go_wp2_with fail
      go_ret
      exact ⟨rfl, rfl⟩
  · have d1 : decide (0 ≤ x) = false := decide_eq_false h1
    rw [decide_eq_false (fun h : 0 ≤ x ∧ x ≤ 1023 => h1 h.1)]
    clear h1
    go_enter Tryz.func74, Tryz.ntmps74
    go_wp2_with fail
    go_ret
    exact ⟨rfl, rfl⟩
set_option maxRecDepth 100000 in
set_option maxHeartbeats 400000 in
theorem fits3 (w : World) (x : Int) : Calls Tryz.prog 74 #[.int .i64 3, .int .i64 x] w fun e w' => e = .returned (.bool (decide (-1 ≤ x ∧ x ≤ 128))) ∧ w' = w := by
  by_cases h1 : -1 ≤ x
  · have d1 : decide (-1 ≤ x) = true := decide_eq_true h1
    by_cases h2 : x ≤ 128
    · have d2 : decide (x ≤ 128) = true := decide_eq_true h2
      rw [decide_eq_true (And.intro h1 h2)]
      clear h1 h2
      go_enter Tryz.func74, Tryz.ntmps74
      go_wp2_with fail
      go_ret
      exact ⟨rfl, rfl⟩
    · have d2 : decide (x ≤ 128) = false := decide_eq_false h2
      rw [decide_eq_false (fun h : -1 ≤ x ∧ x ≤ 128 => h2 h.2)]
      clear h1 h2
      go_enter Tryz.func74, Tryz.ntmps74
      go_wp2_with fail
      go_ret
      exact ⟨rfl, rfl⟩
  · have d1 : decide (-1 ≤ x) = false := decide_eq_false h1
    rw [decide_eq_false (fun h : -1 ≤ x ∧ x ≤ 128 => h1 h.1)]
    clear h1
    go_enter Tryz.func74, Tryz.ntmps74
    go_wp2_with fail
    go_ret
    exact ⟨rfl, rfl⟩

set_option maxRecDepth 100000 in
set_option maxHeartbeats 400000 in
theorem numbersOf_any (w : World) (s : Sp) (h : okS s) : Calls Tryz.prog 29 #[spV s] w fun e w' => e = .returned (nmV s) ∧ Below w.heap.size w w' := by
  obtain ⟨x0, x1, x2, x3⟩ := s
  unfold okS at h
  unfold spV nmV
  simp only at h ⊢
  have e1 : IntKind.i64.wrap x1 = x1 := by rw [IntKind.wrap_i64]; omega
  have e2 : IntKind.i64.wrap x2 = x2 := by rw [IntKind.wrap_i64]; omega
  have HB2 := hide (bl_two w)
  clear h
  go_enter Tryz.func29, Tryz.ntmps29
  go_wp2_with fail
  refine bodyPost_ret (v := .agg #[.int .i64 x0, .int .i64 x1, .int .i64 x2, .int .i64 x3]) ?_ rfl ?_
  · rw [results_cell_one rfl]
    go_simp
  · refine ⟨rfl, ?_⟩
    repeat (first | refine Below.setCell ?_ (by first | (simp; done) | (simp; omega)) _ | (with_reducible exact unhide HB2 _ _))
def FtN (x0 x1 x2 x3 : Int) (i : Nat) : Prop := (0 < i → 0 ≤ x0) ∧ (1 < i → x1 ≤ 1023) ∧ (2 < i → x2 ≤ 1023) ∧ (3 < i → -1 ≤ x3 ∧ x3 ≤ 128)
set_option maxRecDepth 100000 in
set_option maxHeartbeats 1600000 in
theorem allFit_any (w : World) (s : Sp) (h : okS s) : Calls Tryz.prog 50 #[nmV s] w fun e w' => e = .returned (.bool (tkB s)) ∧ Below w.heap.size w w' := by
  obtain ⟨x0, x1, x2, x3⟩ := s
  have h0 : (-9223372036854775808 ≤ x0 ∧ x0 < 9223372036854775808) ∧ (0 ≤ x1 ∧ x1 < 65536) ∧ (0 ≤ x2 ∧ x2 < 65536) ∧ -9223372036854775808 ≤ x3 ∧ x3 < 9223372036854775808 := h
  clear h
  unfold nmV
  simp only
  have HS : Hid (Below w.heap.size w (w.alloc (.cells #[.int .i64 x0, .int .i64 x1, .int .i64 x2, .int .i64 x3] 75)) ∧ FtN x0 x1 x2 x3 0) := ⟨(Below.refl _ w).alloc (Nat.le_refl _) _, by unfold FtN; omega⟩
  go_enter Tryz.func50, Tryz.ntmps50
  go_wp2_with fail
  go_loopg [6] 4 (fun gg t6 wr => ∃ (i : Nat), Hid (i + gg = 4) ∧ t6 = .int .i64 (i : Int) ∧ Hid (Below w.heap.size w wr ∧ FtN x0 x1 x2 x3 i))
  case atStart => exact ⟨0, by unfold Hid; omega, rfl, HS⟩
  case round =>
    clear HS
    obtain ⟨i, hi, rfl, hB⟩ := hrel
    by_cases hlt : i < 4
    · have h4 : i = 0 ∨ i = 1 ∨ i = 2 ∨ i = 3 := by omega
      rcases h4 with rfl | rfl | rfl | rfl
      · have HF := hide (fits0 wr x0)
        have hix := ix0 (.int .i64 x0) (.int .i64 x1) (.int .i64 x2) (.int .i64 x3)
        by_cases hf : 0 ≤ x0 ∧ x0 ≤ 9223372036854775807
        · rw [decide_eq_true hf] at HF
          have HN : Hid (Below w.heap.size w wr ∧ FtN x0 x1 x2 x3 1) := ⟨(unhide hB).1, by have := (unhide hB).2; unfold FtN at this ⊢; omega⟩
          clear hf hB
          go_wp2_with fail
          refine (unhide HF).mono ?_
          rintro e w1 ⟨rfl, rfl⟩
          go_wp2_with fail
          go_roundg (gk - 1)
          case measure => have := unhide hi; omega
          case rel => exact ⟨1, by have := unhide hi; unfold Hid; omega, rfl, HN⟩
        · rw [decide_eq_false hf] at HF
          have HB := hide (unhide hB).1
          have HN : Hid (¬ (0 ≤ x0 ∧ x1 ≤ 1023 ∧ x2 ≤ 1023 ∧ -1 ≤ x3 ∧ x3 ≤ 128)) := by have := h0; unfold Hid; omega
          clear hf hB
          go_wp2_with fail
          refine (unhide HF).mono ?_
          rintro e w1 ⟨rfl, rfl⟩
          go_wp2_with fail
          go_ret
          exact ⟨by unfold tkB; rw [decide_eq_false (unhide HN)]; rfl, unhide HB⟩
      · have HF := hide (fits1 wr x1)
        have hix := ix1 (.int .i64 x0) (.int .i64 x1) (.int .i64 x2) (.int .i64 x3)
        by_cases hf : 0 ≤ x1 ∧ x1 ≤ 1023
        · rw [decide_eq_true hf] at HF
          have HN : Hid (Below w.heap.size w wr ∧ FtN x0 x1 x2 x3 2) := ⟨(unhide hB).1, by have := (unhide hB).2; unfold FtN at this ⊢; omega⟩
          clear hf hB
          go_wp2_with fail
          refine (unhide HF).mono ?_
          rintro e w1 ⟨rfl, rfl⟩
          go_wp2_with fail
          go_roundg (gk - 1)
          case measure => have := unhide hi; omega
          case rel => exact ⟨2, by have := unhide hi; unfold Hid; omega, rfl, HN⟩
        · rw [decide_eq_false hf] at HF
          have HB := hide (unhide hB).1
          have HN : Hid (¬ (0 ≤ x0 ∧ x1 ≤ 1023 ∧ x2 ≤ 1023 ∧ -1 ≤ x3 ∧ x3 ≤ 128)) := by have := h0; unfold Hid; omega
          clear hf hB
          go_wp2_with fail
          refine (unhide HF).mono ?_
          rintro e w1 ⟨rfl, rfl⟩
          go_wp2_with fail
          go_ret
          exact ⟨by unfold tkB; rw [decide_eq_false (unhide HN)]; rfl, unhide HB⟩
      · have HF := hide (fits2 wr x2)
        have hix := ix2 (.int .i64 x0) (.int .i64 x1) (.int .i64 x2) (.int .i64 x3)
        by_cases hf : 0 ≤ x2 ∧ x2 ≤ 1023
        · rw [decide_eq_true hf] at HF
          have HN : Hid (Below w.heap.size w wr ∧ FtN x0 x1 x2 x3 3) := ⟨(unhide hB).1, by have := (unhide hB).2; unfold FtN at this ⊢; omega⟩
          clear hf hB
          go_wp2_with fail
          refine (unhide HF).mono ?_
          rintro e w1 ⟨rfl, rfl⟩
          go_wp2_with fail
          go_roundg (gk - 1)
          case measure => have := unhide hi; omega
          case rel => exact ⟨3, by have := unhide hi; unfold Hid; omega, rfl, HN⟩
        · rw [decide_eq_false hf] at HF
          have HB := hide (unhide hB).1
          have HN : Hid (¬ (0 ≤ x0 ∧ x1 ≤ 1023 ∧ x2 ≤ 1023 ∧ -1 ≤ x3 ∧ x3 ≤ 128)) := by have := h0; unfold Hid; omega
          clear hf hB
          go_wp2_with fail
          refine (unhide HF).mono ?_
          rintro e w1 ⟨rfl, rfl⟩
          go_wp2_with fail
          go_ret
          exact ⟨by unfold tkB; rw [decide_eq_false (unhide HN)]; rfl, unhide HB⟩
      · have HF := hide (fits3 wr x3)
        have hix := ix3 (.int .i64 x0) (.int .i64 x1) (.int .i64 x2) (.int .i64 x3)
        by_cases hf : -1 ≤ x3 ∧ x3 ≤ 128
        · rw [decide_eq_true hf] at HF
          have HN : Hid (Below w.heap.size w wr ∧ FtN x0 x1 x2 x3 4) := ⟨(unhide hB).1, by have := (unhide hB).2; unfold FtN at this ⊢; omega⟩
          clear hf hB
          go_wp2_with fail
          refine (unhide HF).mono ?_
          rintro e w1 ⟨rfl, rfl⟩
          go_wp2_with fail
          go_roundg (gk - 1)
          case measure => have := unhide hi; omega
          case rel => exact ⟨4, by have := unhide hi; unfold Hid; omega, rfl, HN⟩
        · rw [decide_eq_false hf] at HF
          have HB := hide (unhide hB).1
          have HN : Hid (¬ (0 ≤ x0 ∧ x1 ≤ 1023 ∧ x2 ≤ 1023 ∧ -1 ≤ x3 ∧ x3 ≤ 128)) := by have := h0; unfold Hid; omega
          clear hf hB
          go_wp2_with fail
          refine (unhide HF).mono ?_
          rintro e w1 ⟨rfl, rfl⟩
          go_wp2_with fail
          go_ret
          exact ⟨by unfold tkB; rw [decide_eq_false (unhide HN)]; rfl, unhide HB⟩
    · have hiL : i = 4 := by have := unhide hi; omega
      subst hiL
      have HN : Hid (0 ≤ x0 ∧ x1 ≤ 1023 ∧ x2 ≤ 1023 ∧ -1 ≤ x3 ∧ x3 ≤ 128) := by have := (unhide hB).2; unfold FtN at this; unfold Hid; omega
      have HB := hide (unhide hB).1
      clear hB
      go_wp2_with fail
      go_ret
      exact ⟨by unfold tkB; rw [decide_eq_true (unhide HN)]; rfl, unhide HB⟩
end Go.Proofs.YtclcebdcdbcpjaaGreat
