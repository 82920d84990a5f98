/-
  Two spots together.
-/
import Derived.Test.YtjjfpokmpcpicaaPAt
import Derived.Deep.RegionHeld3
namespace Go.Proofs.Ytjjfpokmpcpicaa
open Go.RowKit
set_option linter.unusedVariables false
set_option linter.unusedSimpArgs false
/-- Two counts together. -/
def cnt (a b : Int) : Int := if 9223372036854775807 < a + b then 9223372036854775807 else if a + b < -9223372036854775808 then -9223372036854775808 else a + b
/-- Two callees together. -/
def cal (a b : Int) : Int := if a = 0 ∨ a = b then b else if b = 0 then a else -1
def I64 (a : Int) : Prop := -9223372036854775808 ≤ a ∧ a < 9223372036854775808
set_option maxRecDepth 100000 in
set_option maxHeartbeats 1600000 in
theorem sum_any (w : World) (a b : Int) (ha : I64 a) (hb : I64 b) : Calls Try.prog 39 #[.int .i64 a, .int .i64 b] w fun e w' => e = .returned (.int .i64 (cnt a b)) ∧ w' = w := by
  obtain ⟨a1, a2⟩ := ha
  obtain ⟨b1, b2⟩ := hb
  unfold cnt
  by_cases h1 : 0 < b
  · have d1 : decide (0 < b) = true := decide_eq_true h1
    have e1 : IntKind.i64.wrap (9223372036854775807 - b) = 9223372036854775807 - b := by rw [IntKind.wrap_i64]; omega
    by_cases h2 : 9223372036854775807 - b < a
    · rw [if_pos (by omega)]
      have d2 : decide (9223372036854775807 - b < a) = true := decide_eq_true h2
      go_enter Try.func39, Try.ntmps39
      go_wp2_with fail
      go_ret
      exact ⟨rfl, rfl⟩
    · rw [if_neg (by omega), if_neg (by omega)]
      have d2 : decide (9223372036854775807 - b < a) = false := decide_eq_false h2
      have d3 : decide (b < 0) = false := decide_eq_false (by omega)
      have e2 : IntKind.i64.wrap (a + b) = a + b := by rw [IntKind.wrap_i64]; omega
      go_enter Try.func39, Try.ntmps39
      go_wp2_with fail
      go_ret
      exact ⟨rfl, rfl⟩
  · have d1 : decide (0 < b) = false := decide_eq_false h1
    by_cases h3 : b < 0
    · have d3 : decide (b < 0) = true := decide_eq_true h3
      have e1 : IntKind.i64.wrap (-9223372036854775808 - b) = -9223372036854775808 - b := by rw [IntKind.wrap_i64]; omega
      by_cases h2 : a < -9223372036854775808 - b
      · rw [if_neg (by omega), if_pos (by omega)]
        have d2 : decide (a < -9223372036854775808 - b) = true := decide_eq_true h2
        go_enter Try.func39, Try.ntmps39
        go_wp2_with fail
        go_ret
        exact ⟨rfl, rfl⟩
      · rw [if_neg (by omega), if_neg (by omega)]
        have d2 : decide (a < -9223372036854775808 - b) = false := decide_eq_false h2
        have e2 : IntKind.i64.wrap (a + b) = a + b := by rw [IntKind.wrap_i64]; omega
        go_enter Try.func39, Try.ntmps39
        go_wp2_with fail
        go_ret
        exact ⟨rfl, rfl⟩
    · have d3 : decide (b < 0) = false := decide_eq_false h3
      rw [if_neg (by omega), if_neg (by omega)]
      have e2 : IntKind.i64.wrap (a + b) = a + b := by rw [IntKind.wrap_i64]; omega
      go_enter Try.func39, Try.ntmps39
      go_wp2_with fail
      go_ret
      exact ⟨rfl, rfl⟩
set_option maxRecDepth 100000 in
set_option maxHeartbeats 3200000 in
theorem counts_any (w : World) (a b : Int) (ha : I64 a) (hb : I64 b) : Calls Try.prog 42 #[.int .i64 a, .int .i64 b] w fun e w' => e = .returned (.int .i64 (cnt a b)) ∧ w' = w := by
  obtain ⟨a1, a2⟩ := ha
  obtain ⟨b1, b2⟩ := hb
  obtain ⟨s, hs⟩ : ∃ s, Hid (IntKind.i64.wrap (a + b) = s) := ⟨_, hide rfl⟩
  have e2 := unhide hs
  have hcn : Hid (cnt a b = if 0 ≤ a ∧ 0 ≤ b ∧ s < 0 then 9223372036854775807 else if a < 0 ∧ b < 0 ∧ 0 ≤ s then -9223372036854775808 else s) := by
    have h := e2
    rw [IntKind.wrap_i64] at h
    unfold Hid cnt
    repeat' split
    all_goals omega
  rw [unhide hcn]
  clear hcn
  by_cases h1 : 0 ≤ a
  · have d1 : decide (0 ≤ a) = true := decide_eq_true h1
    have d1' : decide (a < 0) = false := decide_eq_false (by omega)
    by_cases h2 : 0 ≤ b
    · have d2 : decide (0 ≤ b) = true := decide_eq_true h2
      by_cases h3 : s < 0
      · have d3 : decide (s < 0) = true := decide_eq_true h3
        rw [if_pos ⟨h1, h2, h3⟩]
        clear h1 h2 h3
        go_enter Try.func42, Try.ntmps42
        go_wp2_with fail
        go_ret
        exact ⟨rfl, rfl⟩
      · have d3 : decide (s < 0) = false := decide_eq_false h3
        rw [if_neg (by omega), if_neg (by omega)]
        clear h1 h2 h3
        go_enter Try.func42, Try.ntmps42
        go_wp2_with fail
        go_ret
        exact ⟨rfl, rfl⟩
    · have d2 : decide (0 ≤ b) = false := decide_eq_false h2
      rw [if_neg (by omega), if_neg (by omega)]
      clear h1 h2
      go_enter Try.func42, Try.ntmps42
      go_wp2_with fail
      go_ret
      exact ⟨rfl, rfl⟩
  · have d1 : decide (0 ≤ a) = false := decide_eq_false h1
    have d1' : decide (a < 0) = true := decide_eq_true (by omega)
    by_cases h2 : b < 0
    · have d2 : decide (b < 0) = true := decide_eq_true h2
      by_cases h3 : 0 ≤ s
      · have d3 : decide (0 ≤ s) = true := decide_eq_true h3
        rw [if_neg (by omega), if_pos (by omega)]
        clear h1 h2 h3
        go_enter Try.func42, Try.ntmps42
        go_wp2_with fail
        go_ret
        exact ⟨rfl, rfl⟩
      · have d3 : decide (0 ≤ s) = false := decide_eq_false h3
        rw [if_neg (by omega), if_neg (by omega)]
        clear h1 h2 h3
        go_enter Try.func42, Try.ntmps42
        go_wp2_with fail
        go_ret
        exact ⟨rfl, rfl⟩
    · have d2 : decide (b < 0) = false := decide_eq_false h2
      rw [if_neg (by omega), if_neg (by omega)]
      clear h1 h2
      go_enter Try.func42, Try.ntmps42
      go_wp2_with fail
      go_ret
      exact ⟨rfl, rfl⟩
set_option maxRecDepth 100000 in
set_option maxHeartbeats 1600000 in
theorem oneCallee_any (w : World) (a b : Int) : Calls Try.prog 41 #[.int .i64 a, .int .i64 b] w fun e w' => e = .returned (.int .i64 (cal a b)) ∧ w' = w := by
  unfold cal
  by_cases h1 : a = 0
  · have d1 : (a == 0) = true := by simpa using h1
    rw [if_pos (.inl h1)]
    clear h1
    go_enter Try.func41, Try.ntmps41
    go_wp2_with fail
    go_ret
    exact ⟨rfl, rfl⟩
  · have d1 : (a == 0) = false := by simpa using h1
    by_cases h2 : a = b
    · have d2 : (a == b) = true := by simpa using h2
      rw [if_pos (.inr h2)]
      clear h1 h2
      go_enter Try.func41, Try.ntmps41
      go_wp2_with fail
      go_ret
      exact ⟨rfl, rfl⟩
    · have d2 : (a == b) = false := by simpa using h2
      rw [if_neg (by omega)]
      by_cases h3 : b = 0
      · have d3 : (b == 0) = true := by simpa using h3
        rw [if_pos h3]
        clear h1 h2 h3
        go_enter Try.func41, Try.ntmps41
        go_wp2_with fail
        go_ret
        exact ⟨rfl, rfl⟩
      · have d3 : (b == 0) = false := by simpa using h3
        rw [if_neg h3]
        clear h1 h2 h3
        go_enter Try.func41, Try.ntmps41
        go_wp2_with fail
        go_ret
        exact ⟨rfl, rfl⟩
set_option maxRecDepth 100000 in
set_option maxHeartbeats 1600000 in
theorem callees_any (w : World) (a b : Int) : Calls Try.prog 43 #[.int .i64 a, .int .i64 b] w fun e w' => e = .returned (.int .i64 (cal a b)) ∧ w' = w := by
  unfold cal
  by_cases h1 : a = 0
  · have d1 : (a == 0) = true := by simpa using h1
    rw [if_pos (.inl h1)]
    clear h1
    go_enter Try.func43, Try.ntmps43
    go_wp2_with fail
    go_ret
    exact ⟨rfl, rfl⟩
  · have d1 : (a == 0) = false := by simpa using h1
    by_cases h2 : a = b
    · have d2 : (a == b) = true := by simpa using h2
      rw [if_pos (.inr h2)]
      clear h1 h2
      go_enter Try.func43, Try.ntmps43
      go_wp2_with fail
      go_ret
      exact ⟨rfl, rfl⟩
    · have d2 : (a == b) = false := by simpa using h2
      rw [if_neg (by omega)]
      by_cases h3 : b = 0
      · have d3 : (b == 0) = true := by simpa using h3
        rw [if_pos h3]
        clear h1 h2 h3
        go_enter Try.func43, Try.ntmps43
        go_wp2_with fail
        go_ret
        exact ⟨rfl, rfl⟩
      · have d3 : (b == 0) = false := by simpa using h3
        rw [if_neg h3]
        clear h1 h2 h3
        go_enter Try.func43, Try.ntmps43
        go_wp2_with fail
        go_ret
        exact ⟨rfl, rfl⟩
end Go.Proofs.Ytjjfpokmpcpicaa
