/-
  HeapLoad: the law.
-/
import Derived.Test.YtbnjfofkpagblaaSIn
namespace Go.Proofs.Ytbnjfofkpagblaa
open Go.RowKit
set_option linter.unusedVariables false
set_option linter.unusedSimpArgs false
set_option maxRecDepth 100000 in
set_option maxHeartbeats 800000 in
theorem heapLoadLaw {w : World} {v : Value} (h : into.StaV w v) : Calls Try.prog 3 #[v] w fun e w' => e = .returned (.bool true) ∧ Below w.heap.size w w' := by
  obtain ⟨bud, sp, lv, os, rfl, ho, hN, hS⟩ := h
  have HB : Hid (∀ O, Calls Try.prog 5 #[.agg #[.int .i64 bud, .int .i64 sp, lv]] (w.alloc O) (BoP (w.alloc O) bud sp os)) := fun O => both_any (ho.below (bl_box w O) (Nat.le_refl _)) hN hS bud sp
  have HBX := hide (bl_box w)
  obtain ⟨a, cap, rfl, hlc, hcm⟩ := ho.shape
  clear ho hS
  go_enter Try.func3, Try.ntmps3
  go_wp2_with fail
  refine (unhide HB _).mono ?_
  intro e w1 hbo
  have HB1 := hide (bl_past (unhide HBX _) hbo.1)
  obtain ⟨pa, pb, rfl⟩ : ∃ pa pb, e = .returned (.tuple #[.pointer pa, .pointer pb, .bool true]) := by
    rcases hbo.2 with ⟨_, e⟩ | ⟨_, h, ov, ds, r, rv, xs, C, e, _⟩
    · exact ⟨_, _, e⟩
    · exact ⟨_, _, e⟩
  clear hbo HB
  go_wp2_with fail
  go_ret
  exact ⟨rfl, unhide HB1⟩
end Go.Proofs.Ytbnjfofkpagblaa
