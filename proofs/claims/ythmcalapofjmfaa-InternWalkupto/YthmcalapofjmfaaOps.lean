/-
  New, Len, Find, At.
-/
import Derived.Test.YthmcalapofjmfaaBase
import Derived.WalkKit
import Derived.WalkSpells
import Derived.WalkLawsBesides
import Derived.StillTactics
import Derived.OwnWalk
import Derived.Laws.Pointers
import Derived.Laws.NewBlocks
import Derived.Deep.AppendLies
import Derived.Deep.LoopGhost
import Derived.Maps.AppendAt
import Derived.KernelRfl
namespace Go.Proofs.Ythmcalapofjmfaa
open Go.RowKit Go.Maps
set_option linter.unusedVariables false

theorem new_ix (w : World) (t : TypeId) : Ix ((w.alloc (.map #[] 0)).alloc (.cells #[.slice none 0 0, .map (some w.heap.size)] t)) (w.heap.size + 1) w.heap.size (.slice none 0 0) [] := by
  have hs : (w.alloc (.map #[] 0)).heap.size = w.heap.size + 1 := by simp
  have hb := heap_alloc_new (w.alloc (.map #[] 0)) (.cells #[.slice none 0 0, .map (some w.heap.size)] t)
  rw [hs] at hb
  refine ⟨?_, ?_, ?_, World.ownsRow_nil _ _ _ _, ((Mf.made w).keep (Below.heap_alloc _ _ _ (by simp))).congr (fun s => rfl), by omega, by simp [Value.ownBlock], by simp [Value.ownBlock], List.nodup_nil, by simp⟩
  · simp only [World.cell?, hb]; rfl
  · simp only [World.cell?, hb]; rfl
  · simp only [World.frozen?, hb]; rfl

set_option maxRecDepth 100000 in
set_option maxHeartbeats 800000 in
theorem new_any (w : World) : Calls Try.prog 9 #[] w fun e w' => e = .returned (.pointer (some ⟨w.heap.size + 1, 0, none⟩)) ∧ Ix w' (w.heap.size + 1) w.heap.size (.slice none 0 0) [] ∧ Below w.heap.size w w' := by
  have hmm := @run_makeMap Try.prog
  go_enter Try.func9, Try.ntmps9
  go_wp2
  go_ret
  exact ⟨by simp, new_ix w _, ((Below.refl _ _).alloc (Nat.le_refl _) _).alloc (by simp) _⟩

set_option maxRecDepth 100000 in
set_option maxHeartbeats 800000 in
theorem len_any {w : World} {p b : Nat} {v : Value} {rs : List ByteArray} (h : Ix w p b v rs) : Calls Try.prog 23 #[.pointer (some ⟨p, 0, none⟩)] w fun e w' => e = .returned (.int .i64 (rs.length : Int)) ∧ w' = w := by
  obtain ⟨a, cap, e⟩ := h.shape
  have hc := h.c0
  have hp := h.lt
  rw [e] at hc
  clear h e
  go_enter Try.func23, Try.ntmps23
  go_wp2
  go_ret
  exact ⟨rfl, rfl⟩

set_option maxRecDepth 100000 in
set_option maxHeartbeats 800000 in
theorem find_any {w : World} {p b : Nat} {v : Value} {rs : List ByteArray} (h : Ix w p b v rs) (s : ByteArray) (hs : s.size ≤ maxLen) : Calls Try.prog 29 #[.pointer (some ⟨p, 0, none⟩), .string s] w fun e w' =>
    e = .returned (.tuple #[.int .i64 (((idx rs s).getD 0 : Nat) : Int), .bool (idx rs s).isSome]) ∧ w' = w := by
  have hc := h.c1
  have hp := h.lt
  have hl := h.mp.look s hs
  clear h
  go_enter Try.func29, Try.ntmps29
  go_wp2
  go_ret2
  exact ⟨rfl, rfl⟩

set_option maxRecDepth 100000 in
set_option maxHeartbeats 800000 in
theorem at_in {w : World} {p b : Nat} {v : Value} {rs : List ByteArray} (h : Ix w p b v rs) (i : Nat) (hi : i < rs.length) (hm : rs.length ≤ 140737488355328) : Calls Try.prog 31 #[.pointer (some ⟨p, 0, none⟩), .int .i64 (i : Int)] w fun e w' =>
    e = .returned (.tuple #[.string (tx rs i), .bool true]) ∧ w' = w := by
  obtain ⟨g, cap, e, hg⟩ := h.at hi
  have hc := h.c0
  have hp := h.lt
  rw [e] at hc
  obtain ⟨s, hs⟩ : ∃ s, s = tx rs i := ⟨_, rfl⟩
  rw [← hs] at hg ⊢
  obtain ⟨n, hn⟩ : ∃ n, n = rs.length := ⟨_, rfl⟩
  rw [← hn] at hc hi hm
  clear h e hn hs
  go_enter Try.func31, Try.ntmps31
  go_wp2
  go_ret2
  exact ⟨rfl, rfl⟩

set_option maxRecDepth 100000 in
set_option maxHeartbeats 800000 in
theorem at_out {w : World} {p b : Nat} {v : Value} {rs : List ByteArray} (h : Ix w p b v rs) (i : Int) (hi : i < 0 ∨ (rs.length : Int) ≤ i) : Calls Try.prog 31 #[.pointer (some ⟨p, 0, none⟩), .int .i64 i] w fun e w' =>
    e = .returned (.tuple #[.string ByteArray.empty, .bool false]) ∧ w' = w := by
  obtain ⟨a, cap, e⟩ := h.shape
  have hc := h.c0
  have hp := h.lt
  rw [e] at hc
  obtain ⟨n, hn⟩ : ∃ n, n = rs.length := ⟨_, rfl⟩
  rw [← hn] at hc hi
  clear h e hn
  rcases Int.lt_or_le i 0 with q | q
  · go_enter Try.func31, Try.ntmps31
    go_wp2
    go_ret2
    exact ⟨rfl, rfl⟩
  · have q2 := hi.resolve_left (by omega)
    clear hi
    go_enter Try.func31, Try.ntmps31
    go_wp2
    go_ret2
    exact ⟨rfl, rfl⟩
end Go.Proofs.Ythmcalapofjmfaa
