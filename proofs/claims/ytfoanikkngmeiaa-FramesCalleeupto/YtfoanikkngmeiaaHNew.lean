/-
  New, Spend, Spent, Len; what each kind is and costs.
-/
import Derived.Test.YtfoanikkngmeiaaHState
import Derived.WalkSpells
import Derived.WalkLawsBesides
import Derived.StillTactics
import Derived.OwnWalk
import Derived.Laws.Pointers
import Derived.Laws.NewBlocks
import Derived.Deep.LoopGhost
import Derived.Deep.QuietTactic
import Derived.BigQuiet
import Derived.Handy
namespace Go.Proofs.Ytfoanikkngmeiaa.hp
open Go.RowKit
set_option linter.unusedVariables false

theorem hp_new (w : World) (b s : Int) (t : TypeId) : Hp (w.alloc (.cells #[.int .i64 b, .int .i64 s, .slice none 0 0] t)) w.heap.size b s (.slice none 0 0) [] := by
  have hg := heap_alloc_new w (.cells #[.int .i64 b, .int .i64 s, .slice none 0 0] t)
  refine ⟨?_, ?_, ?_, fun j => ?_, Ro.nil _ _, fun i o ho => by simp at ho, ?_⟩
  · simp only [World.cell?, hg]; rfl
  · simp only [World.cell?, hg]; rfl
  · simp only [World.cell?, hg]; rfl
  · show (match (w.alloc (.cells #[.int .i64 b, .int .i64 s, .slice none 0 0] t)).heap[w.heap.size]? with | some (.cells c elem (lo, hi)) => decide (lo ≤ j) && decide (j < hi) | _ => false) = false
    rw [hg]
    simp
  · intro a b k ha hb
    have f : ∀ s k, feet w.heap.size (.slice none 0 0) [] s = some k → s = .hp := fun s k hs => by
      rcases s with _ | _ | i | i | i <;> simp [feet, Value.ownBlock] at hs ⊢
    rw [f a k ha, f b k hb]
set_option maxRecDepth 100000 in
set_option maxHeartbeats 800000 in
theorem new_any (w : World) (b s : Int) : Calls Try.prog 7 #[.int .i64 b, .int .i64 s] w fun e w' => e = .returned (.pointer (some ⟨w.heap.size, 0, none⟩)) ∧ Hp w' w.heap.size (max b 0) (max s 0) (.slice none 0 0) [] ∧ Below w.heap.size w w' := by
  go_enter Try.func7, Try.ntmps7
  go_wp2
  all_goals go_ret
  all_goals refine ⟨by simp, ?_, (Below.refl _ _).alloc (Nat.le_refl _) _⟩
  all_goals first | rw [show max b 0 = b by omega] | rw [show max b 0 = 0 by omega]
  all_goals first | rw [show max s 0 = s by omega] | rw [show max s 0 = 0 by omega]
  all_goals exact hp_new _ _ _ _
set_option maxRecDepth 100000 in
set_option maxHeartbeats 800000 in
theorem len_any {w : World} {h : Nat} {bud sp : Int} {ov : Value} {os : List OD} (H : Hp w h bud sp ov os) : Calls Try.prog 14 #[.pointer (some ⟨h, 0, none⟩)] w fun e w' => e = .returned (.int .i64 (os.length : Int)) ∧ w' = w := by
  obtain ⟨a, cap, e, _⟩ := H.row.shape
  have hc := H.c2
  have hl := H.hlt
  rw [e] at hc
  clear H e
  go_enter Try.func14, Try.ntmps14
  go_wp2
  go_ret
  exact ⟨rfl, rfl⟩
end Go.Proofs.Ytfoanikkngmeiaa.hp
