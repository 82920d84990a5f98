/-
  The document's function and Enter.
-/
import Derived.Test.YtfoanikkngmeiaaFu2
namespace Go.Proofs.Ytfoanikkngmeiaa
open Go.RowKit
set_option linter.unusedVariables false
set_option linter.unusedSimpArgs false
set_option maxRecDepth 100000 in
set_option maxHeartbeats 3200000 in
theorem rfun_any {w : World} {v : Value} {p : Pg} (h : PgV w v p) (k : Int) (hN : p.funcs.length ≤ 1048576) :
    Calls Try.prog 26 #[v, .int .i64 k] w fun e w' => e = .returned (.bool (fnAt p k).isSome) ∧ Below w.heap.size w w' := by
  obtain ⟨cv, fv, rfl, hc, hf⟩ := h
  obtain ⟨ca, cc, rfl⟩ : ∃ a c, cv = .slice a p.consts.length c := by obtain ⟨_, a, c, e, _⟩ := hc; exact ⟨a, c, e⟩
  obtain ⟨a, cap, rfl, hlc, hcm, hat⟩ := hf.at
  obtain ⟨NF, hNF⟩ : ∃ n, Hid (p.funcs.length = n) := ⟨_, hide rfl⟩
  have e1 : (fnAt p k).isSome = (decide (0 ≤ k) && decide (k < (NF : Int))) := by
    rw [← unhide hNF]
    cases hq : fnAt p k with
    | none =>
      rcases fnAt_none hq with q | q
      · rw [decide_eq_false (by omega : ¬ 0 ≤ k)]; rfl
      · rw [decide_eq_false (by omega : ¬ k < (p.funcs.length : Int)), Bool.and_false]; rfl
    | some f =>
      obtain ⟨q1, q2, _⟩ := fnAt_some hq
      rw [decide_eq_true q1, decide_eq_true q2]; rfl
  rw [unhide hNF] at hN hlc ⊢
  rw [e1]
  unfold maxLen at hcm
  have HBE : Hid (∀ o1, Below w.heap.size w (w.alloc o1)) := fun o1 => (Below.refl _ w).alloc (Nat.le_refl _) o1
  clear hat hf hc e1
  by_cases kz : 0 ≤ k
  · have kz' : decide (0 ≤ k) = true := decide_eq_true kz
    rw [kz']
    obtain ⟨b, hb⟩ : ∃ b, Hid (decide (k < (NF : Int)) = b) := ⟨_, hide rfl⟩
    have hb' := unhide hb
    rw [hb']
    go_enter Try.func26, Try.ntmps26
    go_wp2_with fail
    go_ret
    exact ⟨by simp, unhide HBE _⟩
  · have kz' : decide (0 ≤ k) = false := decide_eq_false kz
    rw [kz']
    go_enter Try.func26, Try.ntmps26
    go_wp2_with fail
    go_ret
    exact ⟨rfl, unhide HBE _⟩
end Go.Proofs.Ytfoanikkngmeiaa
