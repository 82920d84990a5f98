/-
  New, Len, Find (kind I).
-/
import Derived.Test.YthmcalapofjmfabKI
import Derived.WalkKit
import Derived.WalkSpells
import Derived.WalkLawsBesides
import Derived.StillTactics
import Derived.OwnWalk
import Derived.Laws.Pointers
import Derived.Laws.NewBlocks
import Derived.Deep.LoopGhost
import Derived.Maps.AppendAt
import Derived.Deep.QuietTactic
import Derived.BigQuiet
namespace Go.Proofs.Ythmcalapofjmfab
open Go.RowKit Go.Maps
set_option linter.unusedVariables false

theorem valI_form (k : Nat) : ∃ z, valI k = .int .i8 z ∧ clI k = [.int .i8 z] := by
  unfold clI valI
  split <;> exact ⟨_, rfl, rfl⟩
theorem new_ixI (w : World) (ty : TypeId) : IxI ((w.alloc (.map #[] 0)).alloc (.cells #[.slice none 0 0, .map (some w.heap.size)] ty)) (w.heap.size + 1) w.heap.size (.slice none 0 0) [] := by
  have hs : (w.alloc (.map #[] 0)).heap.size = w.heap.size + 1 := by simp
  have hb := heap_alloc_new (w.alloc (.map #[] 0)) (.cells #[.slice none 0 0, .map (some w.heap.size)] ty)
  rw [hs] at hb
  refine ⟨?_, ?_, ?_, World.ownsRow_nil _ _ _ _, ((MfI.made w).keep (Below.heap_alloc _ _ _ (by simp))).congr (fun s => rfl), by omega, by simp [Value.ownBlock], by simp [Value.ownBlock], List.nodup_nil, by simp⟩
  · simp only [World.cell?, hb]; rfl
  · simp only [World.cell?, hb]; rfl
  · simp only [World.frozen?, hb]; rfl
set_option maxRecDepth 100000 in
set_option maxHeartbeats 800000 in
theorem newI_any (w : World) : Calls Try.prog 6 #[] w fun e w' => e = .returned (.pointer (some ⟨w.heap.size + 1, 0, none⟩)) ∧ IxI w' (w.heap.size + 1) w.heap.size (.slice none 0 0) [] ∧ Below w.heap.size w w' := by
  have hmm := @run_makeMap Try.prog
  go_enter Try.func6, Try.ntmps6
  go_wp2
  go_ret
  exact ⟨by simp, new_ixI w _, ((Below.refl _ _).alloc (Nat.le_refl _) _).alloc (by simp) _⟩
set_option maxRecDepth 100000 in
set_option maxHeartbeats 800000 in
theorem lenI_any {w : World} {p b : Nat} {v : Value} {ks : List Nat} (h : IxI w p b v ks) : Calls Try.prog 26 #[.pointer (some ⟨p, 0, none⟩)] w fun e w' => e = .returned (.int .i64 (ks.length : Int)) ∧ w' = w := by
  obtain ⟨a, cap, e, _⟩ := h.shape
  have hc := h.c0
  have hp := h.lt
  rw [e] at hc
  clear h e
  go_enter Try.func26, Try.ntmps26
  go_wp2
  go_ret
  exact ⟨rfl, rfl⟩
set_option maxRecDepth 100000 in
set_option maxHeartbeats 800000 in
theorem findI_any {w : World} {p b : Nat} {v : Value} {ks : List Nat} (h : IxI w p b v ks) (k : Nat) (hk : k < 4) : Calls Try.prog 17 #[.pointer (some ⟨p, 0, none⟩), valI k] w fun e w' =>
    e = .returned (.tuple #[.int .i64 (((idx ks k).getD 0 : Nat) : Int), .bool (idx ks k).isSome]) ∧ Below w.heap.size w w' := by
  have hc := h.c1
  have hp := h.lt
  have hl := h.mp.look k hk
  obtain ⟨z, ev, _⟩ := valI_form k
  rw [ev] at hl ⊢
  clear h ev
  go_enter Try.func17, Try.ntmps17
  go_wp2
  go_ret2
  exact ⟨rfl, Below.refl _ _⟩
end Go.Proofs.Ythmcalapofjmfab
