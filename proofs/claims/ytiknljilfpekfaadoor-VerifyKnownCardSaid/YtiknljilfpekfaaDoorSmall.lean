/-
  Small parts of Check.
-/
import Derived.Test.YtiknljilfpekfaaDoorPRow
namespace Go.Proofs.YtiknljilfpekfaaDoor
open Go.RowKit
set_option linter.unusedVariables false
set_option linter.unusedSimpArgs false
/-- A handler that fits a function of n instructions. -/
def fitB (h : Hd) (n : Int) : Bool := decide (0 ≤ h.frm ∧ h.frm < h.to ∧ h.to ≤ n ∧ 0 ≤ h.target ∧ h.target < n ∧ 0 ≤ h.height ∧ h.height < 64)
theorem fit_yes {h : Hd} {n : Int} (k : 0 ≤ h.frm ∧ h.frm < h.to ∧ h.to ≤ n ∧ 0 ≤ h.target ∧ h.target < n ∧ 0 ≤ h.height ∧ h.height < 64) : fitB h n = true := decide_eq_true k
theorem fit_no {h : Hd} {n : Int} (k : ¬ (0 ≤ h.frm ∧ h.frm < h.to ∧ h.to ≤ n ∧ 0 ≤ h.target ∧ h.target < n ∧ 0 ≤ h.height ∧ h.height < 64)) : fitB h n = false := decide_eq_false k
set_option maxRecDepth 100000 in
set_option maxHeartbeats 3200000 in
theorem fits_any (h : Hd) (n : Int) (w : World) : Calls Tryd.prog 52 #[.agg #[.int .i64 h.frm, .int .i64 h.to, .int .i64 h.target, .int .i64 h.height], .int .i64 n] w fun e w' => e = .returned (.bool (fitB h n)) ∧ Below w.heap.size w w' := by
  have hB : Below w.heap.size w (w.alloc (.cells #[.int .i64 h.frm, .int .i64 h.to, .int .i64 h.target, .int .i64 h.height] 53)) := (Below.refl _ w).alloc (Nat.le_refl _) _
  obtain ⟨a, b, c, d⟩ := h
  simp only at hB ⊢
  obtain ⟨r, hr⟩ : ∃ r, Hid (fitB ⟨a, b, c, d⟩ n = r) := ⟨_, rfl⟩
  rw [unhide hr]
  have HB := hide hB
  clear hB
  have fin : ∀ (q : Bool), fitB ⟨a, b, c, d⟩ n = q → q = r := fun q hq => hq.symm.trans (unhide hr)
  have no : ¬ (0 ≤ a ∧ a < b ∧ b ≤ n ∧ 0 ≤ c ∧ c < n ∧ 0 ≤ d ∧ d < 64) → r = false := fun k => (fin _ (fit_no k)).symm
  have yes : (0 ≤ a ∧ a < b ∧ b ≤ n ∧ 0 ≤ c ∧ c < n ∧ 0 ≤ d ∧ d < 64) → r = true := fun k => (fin _ (fit_yes k)).symm
  have NO := hide no
  have YES := hide yes
  clear fin no yes hr
  by_cases h1 : 0 ≤ a
  · by_cases h2 : a < b
    · by_cases h3 : b ≤ n
      · by_cases h4 : 0 ≤ c
        · by_cases h5 : c < n
          · by_cases h6 : 0 ≤ d
            · by_cases h7 : d < 64
              · obtain rfl := unhide YES ⟨h1, h2, h3, h4, h5, h6, h7⟩
                go_enter Tryd.func52, Tryd.ntmps52
                go_wp2
                go_ret
                exact ⟨rfl, unhide HB⟩
              · (obtain rfl := unhide NO (by omega); go_enter Tryd.func52, Tryd.ntmps52; go_wp2; go_ret; exact ⟨rfl, unhide HB⟩)
            · (obtain rfl := unhide NO (by omega); go_enter Tryd.func52, Tryd.ntmps52; go_wp2; go_ret; exact ⟨rfl, unhide HB⟩)
          · (obtain rfl := unhide NO (by omega); go_enter Tryd.func52, Tryd.ntmps52; go_wp2; go_ret; exact ⟨rfl, unhide HB⟩)
        · (obtain rfl := unhide NO (by omega); go_enter Tryd.func52, Tryd.ntmps52; go_wp2; go_ret; exact ⟨rfl, unhide HB⟩)
      · (obtain rfl := unhide NO (by omega); go_enter Tryd.func52, Tryd.ntmps52; go_wp2; go_ret; exact ⟨rfl, unhide HB⟩)
    · (obtain rfl := unhide NO (by omega); go_enter Tryd.func52, Tryd.ntmps52; go_wp2; go_ret; exact ⟨rfl, unhide HB⟩)
  · (obtain rfl := unhide NO (by omega); go_enter Tryd.func52, Tryd.ntmps52; go_wp2; go_ret; exact ⟨rfl, unhide HB⟩)
end Go.Proofs.YtiknljilfpekfaaDoor
