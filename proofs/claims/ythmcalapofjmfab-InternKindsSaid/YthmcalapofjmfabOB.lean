/-
  New, Len, Find (kind B).
-/
import Derived.Test.YthmcalapofjmfabKB
import Derived.WalkKit
import Derived.WalkSpells
import Derived.WalkLawsBesides
import Derived.StillTactics
import Derived.OwnWalk
import Derived.Laws.Pointers
import Derived.Laws.NewBlocks
import Derived.Deep.LoopGhost
import Derived.Maps.AppendAt
import Derived.Deep.QuietTactic
import Derived.BigQuiet
namespace Go.Proofs.Ythmcalapofjmfab
open Go.RowKit Go.Maps
set_option linter.unusedVariables false

theorem valB_form (k : Nat) : ∃ x y, valB k = .agg #[.bool x, .bool y] ∧ clB k = [.bool x, .bool y] := by
  unfold clB valB
  split <;> exact ⟨_, _, rfl, rfl⟩
theorem new_ixB (w : World) (ty : TypeId) : IxB ((w.alloc (.map #[] 0)).alloc (.cells #[.slice none 0 0, .map (some w.heap.size)] ty)) (w.heap.size + 1) w.heap.size (.slice none 0 0) [] := by
  have hs : (w.alloc (.map #[] 0)).heap.size = w.heap.size + 1 := by simp
  have hb := heap_alloc_new (w.alloc (.map #[] 0)) (.cells #[.slice none 0 0, .map (some w.heap.size)] ty)
  rw [hs] at hb
  refine ⟨?_, ?_, ?_, World.ownsRow_nil _ _ _ _, ((MfB.made w).keep (Below.heap_alloc _ _ _ (by simp))).congr (fun s => rfl), by omega, by simp [Value.ownBlock], by simp [Value.ownBlock], List.nodup_nil, by simp⟩
  · simp only [World.cell?, hb]; rfl
  · simp only [World.cell?, hb]; rfl
  · simp only [World.frozen?, hb]; rfl
set_option maxRecDepth 100000 in
set_option maxHeartbeats 800000 in
theorem newB_any (w : World) : Calls Try.prog 7 #[] w fun e w' => e = .returned (.pointer (some ⟨w.heap.size + 1, 0, none⟩)) ∧ IxB w' (w.heap.size + 1) w.heap.size (.slice none 0 0) [] ∧ Below w.heap.size w w' := by
  have hmm := @run_makeMap Try.prog
  go_enter Try.func7, Try.ntmps7
  go_wp2
  go_ret
  exact ⟨by simp, new_ixB w _, ((Below.refl _ _).alloc (Nat.le_refl _) _).alloc (by simp) _⟩
set_option maxRecDepth 100000 in
set_option maxHeartbeats 800000 in
theorem lenB_any {w : World} {p b : Nat} {v : Value} {ks : List Nat} (h : IxB w p b v ks) : Calls Try.prog 27 #[.pointer (some ⟨p, 0, none⟩)] w fun e w' => e = .returned (.int .i64 (ks.length : Int)) ∧ w' = w := by
  obtain ⟨a, cap, e, _⟩ := h.shape
  have hc := h.c0
  have hp := h.lt
  rw [e] at hc
  clear h e
  go_enter Try.func27, Try.ntmps27
  go_wp2
  go_ret
  exact ⟨rfl, rfl⟩
set_option maxRecDepth 100000 in
set_option maxHeartbeats 800000 in
theorem findB_any {w : World} {p b : Nat} {v : Value} {ks : List Nat} (h : IxB w p b v ks) (k : Nat) (hk : k < 4) : Calls Try.prog 18 #[.pointer (some ⟨p, 0, none⟩), valB k] w fun e w' =>
    e = .returned (.tuple #[.int .i64 (((idx ks k).getD 0 : Nat) : Int), .bool (idx ks k).isSome]) ∧ Below w.heap.size w w' := by
  obtain ⟨x, y, ev, ec⟩ := valB_form k
  have h1 := h.below (w' := w.alloc (.cells #[.bool x, .bool y] 34)) ((Below.refl _ _).alloc (Nat.le_refl _) _)
  have hp := h.lt
  have hc := h1.c1
  have hl : ∀ n, (Instr.lookup 64 (.map (some b)) (.agg #[.bool x, .bool y]) true).run Try.prog ((w.alloc (.cells #[.bool x, .bool y] 34)).drewN n) = .ok (.tuple #[.int .i64 (((idx ks k).getD 0 : Nat) : Int), .bool (idx ks k).isSome]) ((w.alloc (.cells #[.bool x, .bool y] 34)).drewN n) := fun n => by
    rw [← ev]
    exact (h1.mp.keep (w' := (w.alloc (.cells #[.bool x, .bool y] 34)).drewN n) rfl).look k hk
  rw [ev]
  clear h h1 ev ec
  go_enter Try.func18, Try.ntmps18
  go_wp2
  go_quiet (fail)
  go_wp2
  go_ret2
  exact ⟨rfl, ((Below.refl _ _).alloc (Nat.le_refl _) _).trans ((Fr.drewN (S := fun _ => False) nq).below (by simp) (fun _ _ e => e))⟩
end Go.Proofs.Ythmcalapofjmfab
