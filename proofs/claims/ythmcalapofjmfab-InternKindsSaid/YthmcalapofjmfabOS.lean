/-
  New, Len, Find (kind S).
-/
import Derived.Test.YthmcalapofjmfabKS
import Derived.WalkKit
import Derived.WalkSpells
import Derived.WalkLawsBesides
import Derived.StillTactics
import Derived.OwnWalk
import Derived.Laws.Pointers
import Derived.Laws.NewBlocks
import Derived.Deep.LoopGhost
import Derived.Maps.AppendAt
import Derived.Deep.QuietTactic
import Derived.BigQuiet
namespace Go.Proofs.Ythmcalapofjmfab
open Go.RowKit Go.Maps
set_option linter.unusedVariables false

theorem valS_form (k : Nat) : ∃ s, valS k = .string s ∧ clS k = [.string s] := by
  unfold clS valS
  split <;> exact ⟨_, rfl, rfl⟩
theorem new_ixS (w : World) (ty : TypeId) : IxS ((w.alloc (.map #[] 0)).alloc (.cells #[.slice none 0 0, .map (some w.heap.size)] ty)) (w.heap.size + 1) w.heap.size (.slice none 0 0) [] := by
  have hs : (w.alloc (.map #[] 0)).heap.size = w.heap.size + 1 := by simp
  have hb := heap_alloc_new (w.alloc (.map #[] 0)) (.cells #[.slice none 0 0, .map (some w.heap.size)] ty)
  rw [hs] at hb
  refine ⟨?_, ?_, ?_, World.ownsRow_nil _ _ _ _, ((MfS.made w).keep (Below.heap_alloc _ _ _ (by simp))).congr (fun s => rfl), by omega, by simp [Value.ownBlock], by simp [Value.ownBlock], List.nodup_nil, by simp⟩
  · simp only [World.cell?, hb]; rfl
  · simp only [World.cell?, hb]; rfl
  · simp only [World.frozen?, hb]; rfl
set_option maxRecDepth 100000 in
set_option maxHeartbeats 800000 in
theorem newS_any (w : World) : Calls Try.prog 4 #[] w fun e w' => e = .returned (.pointer (some ⟨w.heap.size + 1, 0, none⟩)) ∧ IxS w' (w.heap.size + 1) w.heap.size (.slice none 0 0) [] ∧ Below w.heap.size w w' := by
  have hmm := @run_makeMap Try.prog
  go_enter Try.func4, Try.ntmps4
  go_wp2
  go_ret
  exact ⟨by simp, new_ixS w _, ((Below.refl _ _).alloc (Nat.le_refl _) _).alloc (by simp) _⟩
set_option maxRecDepth 100000 in
set_option maxHeartbeats 800000 in
theorem lenS_any {w : World} {p b : Nat} {v : Value} {ks : List Nat} (h : IxS w p b v ks) : Calls Try.prog 24 #[.pointer (some ⟨p, 0, none⟩)] w fun e w' => e = .returned (.int .i64 (ks.length : Int)) ∧ w' = w := by
  obtain ⟨a, cap, e, _⟩ := h.shape
  have hc := h.c0
  have hp := h.lt
  rw [e] at hc
  clear h e
  go_enter Try.func24, Try.ntmps24
  go_wp2
  go_ret
  exact ⟨rfl, rfl⟩
set_option maxRecDepth 100000 in
set_option maxHeartbeats 800000 in
theorem findS_any {w : World} {p b : Nat} {v : Value} {ks : List Nat} (h : IxS w p b v ks) (k : Nat) (hk : k < 7) : Calls Try.prog 15 #[.pointer (some ⟨p, 0, none⟩), valS k] w fun e w' =>
    e = .returned (.tuple #[.int .i64 (((idx ks k).getD 0 : Nat) : Int), .bool (idx ks k).isSome]) ∧ Below w.heap.size w w' := by
  have hc := h.c1
  have hp := h.lt
  have hl := h.mp.look k hk
  obtain ⟨s, ev, _⟩ := valS_form k
  rw [ev] at hl ⊢
  clear h ev
  go_enter Try.func15, Try.ntmps15
  go_wp2
  go_ret2
  exact ⟨rfl, Below.refl _ _⟩
end Go.Proofs.Ythmcalapofjmfab
