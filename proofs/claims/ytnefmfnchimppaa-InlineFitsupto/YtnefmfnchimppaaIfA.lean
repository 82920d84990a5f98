/-
  Which operations are done one behind the other.
-/
import Derived.Test.YtnefmfnchimppaaPRow
namespace Go.Proofs.Ytnefmfnchimppaa
open Go.RowKit
set_option linter.unusedVariables false
/-- Is it done by Apply? -/
def apB (n : Int) : Bool := decide ((12 ≤ n ∧ n ≤ 39) ∨ (46 ≤ n ∧ n ≤ 57) ∨ n = 62 ∨ n = 65 ∨ n = 66)
set_option maxRecDepth 100000 in
set_option maxHeartbeats 1000000 in
theorem rap_any (w : World) (n : Int) : Calls Try.prog 11 #[.int .i64 n] w fun e w' => e = .returned (.bool (apB n)) ∧ w' = w := by
  obtain ⟨b, hb⟩ : ∃ b, Hid (b = apB n) := ⟨_, rfl⟩
  rw [← unhide hb]
  by_cases h46 : n = 46
  · subst h46
    have HB : Hid (b = true) := hb
    clear hb
    go_enter Try.func11, Try.ntmps11
    go_wp2
    go_ret
    refine ⟨?_, rfl⟩; rw [unhide HB]; first | rfl | (simp; done) | (simp; omega) | (simp_all; done)
  by_cases h47 : n = 47
  · subst h47
    have HB : Hid (b = true) := hb
    clear hb
    go_enter Try.func11, Try.ntmps11
    go_wp2
    go_ret
    refine ⟨?_, rfl⟩; rw [unhide HB]; first | rfl | (simp; done) | (simp; omega) | (simp_all; done)
  by_cases h48 : n = 48
  · subst h48
    have HB : Hid (b = true) := hb
    clear hb
    go_enter Try.func11, Try.ntmps11
    go_wp2
    go_ret
    refine ⟨?_, rfl⟩; rw [unhide HB]; first | rfl | (simp; done) | (simp; omega) | (simp_all; done)
  by_cases h49 : n = 49
  · subst h49
    have HB : Hid (b = true) := hb
    clear hb
    go_enter Try.func11, Try.ntmps11
    go_wp2
    go_ret
    refine ⟨?_, rfl⟩; rw [unhide HB]; first | rfl | (simp; done) | (simp; omega) | (simp_all; done)
  by_cases h50 : n = 50
  · subst h50
    have HB : Hid (b = true) := hb
    clear hb
    go_enter Try.func11, Try.ntmps11
    go_wp2
    go_ret
    refine ⟨?_, rfl⟩; rw [unhide HB]; first | rfl | (simp; done) | (simp; omega) | (simp_all; done)
  by_cases h51 : n = 51
  · subst h51
    have HB : Hid (b = true) := hb
    clear hb
    go_enter Try.func11, Try.ntmps11
    go_wp2
    go_ret
    refine ⟨?_, rfl⟩; rw [unhide HB]; first | rfl | (simp; done) | (simp; omega) | (simp_all; done)
  by_cases h52 : n = 52
  · subst h52
    have HB : Hid (b = true) := hb
    clear hb
    go_enter Try.func11, Try.ntmps11
    go_wp2
    go_ret
    refine ⟨?_, rfl⟩; rw [unhide HB]; first | rfl | (simp; done) | (simp; omega) | (simp_all; done)
  by_cases h53 : n = 53
  · subst h53
    have HB : Hid (b = true) := hb
    clear hb
    go_enter Try.func11, Try.ntmps11
    go_wp2
    go_ret
    refine ⟨?_, rfl⟩; rw [unhide HB]; first | rfl | (simp; done) | (simp; omega) | (simp_all; done)
  by_cases h54 : n = 54
  · subst h54
    have HB : Hid (b = true) := hb
    clear hb
    go_enter Try.func11, Try.ntmps11
    go_wp2
    go_ret
    refine ⟨?_, rfl⟩; rw [unhide HB]; first | rfl | (simp; done) | (simp; omega) | (simp_all; done)
  by_cases h55 : n = 55
  · subst h55
    have HB : Hid (b = true) := hb
    clear hb
    go_enter Try.func11, Try.ntmps11
    go_wp2
    go_ret
    refine ⟨?_, rfl⟩; rw [unhide HB]; first | rfl | (simp; done) | (simp; omega) | (simp_all; done)
  by_cases h56 : n = 56
  · subst h56
    have HB : Hid (b = true) := hb
    clear hb
    go_enter Try.func11, Try.ntmps11
    go_wp2
    go_ret
    refine ⟨?_, rfl⟩; rw [unhide HB]; first | rfl | (simp; done) | (simp; omega) | (simp_all; done)
  by_cases h57 : n = 57
  · subst h57
    have HB : Hid (b = true) := hb
    clear hb
    go_enter Try.func11, Try.ntmps11
    go_wp2
    go_ret
    refine ⟨?_, rfl⟩; rw [unhide HB]; first | rfl | (simp; done) | (simp; omega) | (simp_all; done)
  by_cases h62 : n = 62
  · subst h62
    have HB : Hid (b = true) := hb
    clear hb
    go_enter Try.func11, Try.ntmps11
    go_wp2
    go_ret
    refine ⟨?_, rfl⟩; rw [unhide HB]; first | rfl | (simp; done) | (simp; omega) | (simp_all; done)
  by_cases h65 : n = 65
  · subst h65
    have HB : Hid (b = true) := hb
    clear hb
    go_enter Try.func11, Try.ntmps11
    go_wp2
    go_ret
    refine ⟨?_, rfl⟩; rw [unhide HB]; first | rfl | (simp; done) | (simp; omega) | (simp_all; done)
  by_cases h66 : n = 66
  · subst h66
    have HB : Hid (b = true) := hb
    clear hb
    go_enter Try.func11, Try.ntmps11
    go_wp2
    go_ret
    refine ⟨?_, rfl⟩; rw [unhide HB]; first | rfl | (simp; done) | (simp; omega) | (simp_all; done)
  by_cases l12 : n < 12
  · have HB : Hid (b = false) := by unfold Hid; rw [unhide hb]; unfold apB; simp; omega
    clear hb
    go_enter Try.func11, Try.ntmps11
    go_wp2
    go_ret
    refine ⟨?_, rfl⟩; rw [unhide HB]; first | rfl | (simp; done) | (simp; omega) | (simp_all; done)
  have g12 : 12 ≤ n := by omega
  clear l12
  by_cases l39 : n ≤ 39
  · have HB : Hid (b = true) := by unfold Hid; rw [unhide hb]; unfold apB; simp; omega
    clear hb
    go_enter Try.func11, Try.ntmps11
    go_wp2
    go_ret
    refine ⟨?_, rfl⟩; rw [unhide HB]; first | rfl | (simp; done) | (simp; omega) | (simp_all; done)
  have g39 : 39 < n := by omega
  clear l39 g12
  have HB : Hid (b = false) := by unfold Hid; rw [unhide hb]; unfold apB; simp; omega
  clear hb
  go_enter Try.func11, Try.ntmps11
  go_wp2
  go_ret
  refine ⟨?_, rfl⟩; rw [unhide HB]; first | rfl | (simp; done) | (simp; omega) | (simp_all; done)

set_option maxRecDepth 100000 in
set_option maxHeartbeats 1000000 in
theorem ap_any (w : World) (n : Int) : Calls Try.prog 16 #[.int .i64 n] w fun e w' => e = .returned (.bool (apB n)) ∧ w' = w := by
  obtain ⟨b, hb⟩ : ∃ b, Hid (b = apB n) := ⟨_, rfl⟩
  rw [← unhide hb]
  by_cases h62 : n = 62
  · subst h62
    have HB : Hid (b = true) := hb
    clear hb
    go_enter Try.func16, Try.ntmps16
    go_wp2
    go_ret
    refine ⟨?_, rfl⟩; rw [unhide HB]; first | rfl | (simp; done) | (simp; omega) | (simp_all; done)
  by_cases h65 : n = 65
  · subst h65
    have HB : Hid (b = true) := hb
    clear hb
    go_enter Try.func16, Try.ntmps16
    go_wp2
    go_ret
    refine ⟨?_, rfl⟩; rw [unhide HB]; first | rfl | (simp; done) | (simp; omega) | (simp_all; done)
  by_cases h66 : n = 66
  · subst h66
    have HB : Hid (b = true) := hb
    clear hb
    go_enter Try.func16, Try.ntmps16
    go_wp2
    go_ret
    refine ⟨?_, rfl⟩; rw [unhide HB]; first | rfl | (simp; done) | (simp; omega) | (simp_all; done)
  by_cases l12 : n < 12
  · have HB : Hid (b = false) := by unfold Hid; rw [unhide hb]; unfold apB; simp; omega
    clear hb
    go_enter Try.func16, Try.ntmps16
    go_wp2
    go_ret
    refine ⟨?_, rfl⟩; rw [unhide HB]; first | rfl | (simp; done) | (simp; omega) | (simp_all; done)
  have g12 : 12 ≤ n := by omega
  clear l12
  by_cases l39 : n ≤ 39
  · have HB : Hid (b = true) := by unfold Hid; rw [unhide hb]; unfold apB; simp; omega
    clear hb
    go_enter Try.func16, Try.ntmps16
    go_wp2
    go_ret
    refine ⟨?_, rfl⟩; rw [unhide HB]; first | rfl | (simp; done) | (simp; omega) | (simp_all; done)
  have g39 : 39 < n := by omega
  clear l39 g12
  by_cases l46 : n < 46
  · have HB : Hid (b = false) := by unfold Hid; rw [unhide hb]; unfold apB; simp; omega
    clear hb
    go_enter Try.func16, Try.ntmps16
    go_wp2
    go_ret
    refine ⟨?_, rfl⟩; rw [unhide HB]; first | rfl | (simp; done) | (simp; omega) | (simp_all; done)
  have g46 : 46 ≤ n := by omega
  clear l46
  by_cases l57 : n ≤ 57
  · have HB : Hid (b = true) := by unfold Hid; rw [unhide hb]; unfold apB; simp; omega
    clear hb
    go_enter Try.func16, Try.ntmps16
    go_wp2
    go_ret
    refine ⟨?_, rfl⟩; rw [unhide HB]; first | rfl | (simp; done) | (simp; omega) | (simp_all; done)
  have g57 : 57 < n := by omega
  clear l57 g46
  have HB : Hid (b = false) := by unfold Hid; rw [unhide hb]; unfold apB; simp; omega
  clear hb
  go_enter Try.func16, Try.ntmps16
  go_wp2
  go_ret
  refine ⟨?_, rfl⟩; rw [unhide HB]; first | rfl | (simp; done) | (simp; omega) | (simp_all; done)

/-- Does it go on behind itself? -/
def stB (n : Int) : Bool := decide (0 ≤ n ∧ n ≤ 11) || decide (n = 58) || decide (n = 59) || apB n
set_option maxRecDepth 100000 in
set_option maxHeartbeats 1000000 in
theorem straight_any (w : World) (n : Int) : Calls Try.prog 10 #[.int .i64 n] w fun e w' => e = .returned (.bool (stB n)) ∧ w' = w := by
  obtain ⟨b, hb⟩ : ∃ b, Hid (b = stB n) := ⟨_, rfl⟩
  rw [← unhide hb]
  by_cases h0 : n = 0
  · subst h0
    have HB : Hid (b = true) := hb
    clear hb
    go_enter Try.func10, Try.ntmps10
    go_wp2_with fail
    go_ret
    refine ⟨?_, rfl⟩; rw [unhide HB]; first | rfl | (simp; done) | (simp; omega) | (simp_all; done)
  by_cases h7 : n = 7
  · subst h7
    have HB : Hid (b = true) := hb
    clear hb
    go_enter Try.func10, Try.ntmps10
    go_wp2_with fail
    go_ret
    refine ⟨?_, rfl⟩; rw [unhide HB]; first | rfl | (simp; done) | (simp; omega) | (simp_all; done)
  by_cases h1 : n = 1
  · subst h1
    have HB : Hid (b = true) := hb
    clear hb
    go_enter Try.func10, Try.ntmps10
    go_wp2_with fail
    go_ret
    refine ⟨?_, rfl⟩; rw [unhide HB]; first | rfl | (simp; done) | (simp; omega) | (simp_all; done)
  by_cases h2 : n = 2
  · subst h2
    have HB : Hid (b = true) := hb
    clear hb
    go_enter Try.func10, Try.ntmps10
    go_wp2_with fail
    go_ret
    refine ⟨?_, rfl⟩; rw [unhide HB]; first | rfl | (simp; done) | (simp; omega) | (simp_all; done)
  by_cases h3 : n = 3
  · subst h3
    have HB : Hid (b = true) := hb
    clear hb
    go_enter Try.func10, Try.ntmps10
    go_wp2_with fail
    go_ret
    refine ⟨?_, rfl⟩; rw [unhide HB]; first | rfl | (simp; done) | (simp; omega) | (simp_all; done)
  by_cases h4 : n = 4
  · subst h4
    have HB : Hid (b = true) := hb
    clear hb
    go_enter Try.func10, Try.ntmps10
    go_wp2_with fail
    go_ret
    refine ⟨?_, rfl⟩; rw [unhide HB]; first | rfl | (simp; done) | (simp; omega) | (simp_all; done)
  by_cases h5 : n = 5
  · subst h5
    have HB : Hid (b = true) := hb
    clear hb
    go_enter Try.func10, Try.ntmps10
    go_wp2_with fail
    go_ret
    refine ⟨?_, rfl⟩; rw [unhide HB]; first | rfl | (simp; done) | (simp; omega) | (simp_all; done)
  by_cases h6 : n = 6
  · subst h6
    have HB : Hid (b = true) := hb
    clear hb
    go_enter Try.func10, Try.ntmps10
    go_wp2_with fail
    go_ret
    refine ⟨?_, rfl⟩; rw [unhide HB]; first | rfl | (simp; done) | (simp; omega) | (simp_all; done)
  by_cases h10 : n = 10
  · subst h10
    have HB : Hid (b = true) := hb
    clear hb
    go_enter Try.func10, Try.ntmps10
    go_wp2_with fail
    go_ret
    refine ⟨?_, rfl⟩; rw [unhide HB]; first | rfl | (simp; done) | (simp; omega) | (simp_all; done)
  by_cases h8 : n = 8
  · subst h8
    have HB : Hid (b = true) := hb
    clear hb
    go_enter Try.func10, Try.ntmps10
    go_wp2_with fail
    go_ret
    refine ⟨?_, rfl⟩; rw [unhide HB]; first | rfl | (simp; done) | (simp; omega) | (simp_all; done)
  by_cases h11 : n = 11
  · subst h11
    have HB : Hid (b = true) := hb
    clear hb
    go_enter Try.func10, Try.ntmps10
    go_wp2_with fail
    go_ret
    refine ⟨?_, rfl⟩; rw [unhide HB]; first | rfl | (simp; done) | (simp; omega) | (simp_all; done)
  by_cases h9 : n = 9
  · subst h9
    have HB : Hid (b = true) := hb
    clear hb
    go_enter Try.func10, Try.ntmps10
    go_wp2_with fail
    go_ret
    refine ⟨?_, rfl⟩; rw [unhide HB]; first | rfl | (simp; done) | (simp; omega) | (simp_all; done)
  by_cases h58 : n = 58
  · subst h58
    have HB : Hid (b = true) := hb
    clear hb
    go_enter Try.func10, Try.ntmps10
    go_wp2_with fail
    go_ret
    refine ⟨?_, rfl⟩; rw [unhide HB]; first | rfl | (simp; done) | (simp; omega) | (simp_all; done)
  by_cases h59 : n = 59
  · subst h59
    have HB : Hid (b = true) := hb
    clear hb
    go_enter Try.func10, Try.ntmps10
    go_wp2_with fail
    go_ret
    refine ⟨?_, rfl⟩; rw [unhide HB]; first | rfl | (simp; done) | (simp; omega) | (simp_all; done)
  have HB : Hid (b = apB n) := by
    unfold Hid; rw [unhide hb]; unfold stB
    rw [decide_eq_false (by omega : ¬ (0 ≤ n ∧ n ≤ 11)), decide_eq_false h58, decide_eq_false h59]; rfl
  have HC := hide (ap_any w n)
  clear hb
  go_enter Try.func10, Try.ntmps10
  go_wp2_with fail
  refine (unhide HC).mono ?_
  rintro e w1 ⟨rfl, rfl⟩
  go_wp2_with fail
  go_ret
  rw [unhide HB]
  exact ⟨rfl, rfl⟩
end Go.Proofs.Ytnefmfnchimppaa
