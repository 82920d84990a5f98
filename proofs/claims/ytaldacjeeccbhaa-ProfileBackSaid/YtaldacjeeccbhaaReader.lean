/-
  A reader in memory: what is left, and its error.
-/
import Derived.Test.YtaldacjeeccbhaaPB
import Derived.WalkKit
import Derived.WalkSpells
import Derived.WalkLawsBesides
import Derived.Defers
import Derived.Recover
import Derived.Laws.Pointers
import Derived.Below
namespace Go.Proofs.Ytaldacjeeccbhaa
open Go.RowKit

theorem ta_nil (w : World) : (Instr.typeAssert .nilIface 20 36 true).run Try.prog w = .ok (.tuple #[.int .i64 0, .bool false]) w := by kernel_rfl
theorem ta_err (k : Int) (w : World) : (Instr.typeAssert (.iface 36 (.int .i64 k)) 20 36 true).run Try.prog w = .ok (.tuple #[.int .i64 k, .bool true]) w := by kernel_rfl

theorem catch_idle (p q : Addr) (w : World) :
    CallsD Try.prog 109 #[.pointer (some p), .pointer (some q)] .returning w fun e u' w' => e = .returned (.tuple #[]) ∧ u' = .returning ∧ w' = w := by
  refine callsD_of_wpS Try.func109 rfl fun c₀ cs hu => ?_
  apply wpS_seq
  apply wpS_region
  simp [wpOpsS, go_sem, recoverD, hu, Try.ntmps109, Exit.thenS, ta_nil]
  apply wpS_seq
  apply wpS_region
  simp [wpOpsS, go_sem, Exit.thenS]
  refine wpS_cond (t := false) (by simp [Act.eval, Array.replicate]) ?_
  simp only [Bool.false_eq_true, if_false]
  refine wpS_of_wp (wp_skip ?_)
  cases c₀
  simp_all [bodyPostS, results, Try.results109]

set_option maxHeartbeats 400000 in
set_option maxRecDepth 100000 in
theorem catch_panicking (r : Nat) (p q : Addr) (u0 : Value) (a0 : Option Addr) (l0 c0 : Nat) (x0 k : Int) (w : World) (hp : w.cell? p = some (.slice a0 l0 c0)) (hq : w.cell? q = some (.pointer (some ⟨r, 0, none⟩)))
    (h0 : w.cell? ⟨r, 0, none⟩ = some u0) (h1 : w.cell? ⟨r, 1, none⟩ = some (.int .i64 x0)) (f0 : w.frozen? ⟨r, 0, none⟩ = false) (f1 : w.frozen? ⟨r, 1, none⟩ = false) :
    CallsD Try.prog 109 #[.pointer (some p), .pointer (some q)] (.panicking [{ v := .iface 36 (.int .i64 k), recovered := false }]) w fun e u' w' =>
      e = .returned (.tuple #[]) ∧ u' = .panicking [{ v := .iface 36 (.int .i64 k), recovered := true }] ∧ w' = (w.setCell ⟨r, 0, none⟩ (.slice a0 l0 c0)).setCell ⟨r, 1, none⟩ (.int .i64 k) := by
  refine callsD_of_wpS Try.func109 rfl fun c₀ cs hu => ?_
  apply wpS_seq
  apply wpS_region
  simp [wpOpsS, go_sem, recoverD, hu, Try.ntmps109, Exit.thenS, ta_err]
  apply wpS_seq
  apply wpS_region
  simp [wpOpsS, go_sem, Exit.thenS]
  refine wpS_cond (t := true) (by simp [Act.eval, Array.replicate]) ?_
  simp only [if_true]
  simp [Array.replicate]
  refine wpS_of_wp ?_
  go_wp2
  exact ⟨rfl, _, rfl, _, by simp [results, Try.results109], rfl, rfl, rfl⟩
end Go.Proofs.Ytaldacjeeccbhaa
