/-
  At (kind P).
-/
import Derived.Test.YthmcalapofjmfabMP
namespace Go.Proofs.Ythmcalapofjmfab
open Go.RowKit Go.Maps
set_option linter.unusedVariables false

set_option maxRecDepth 100000 in
set_option maxHeartbeats 1600000 in
theorem at_in {w : World} {p b : Nat} {v : Value} {ks : List Nat} (h : IxP w p b v ks) (i : Nat) (hi : i < ks.length) : Calls Try.prog 20 #[.pointer (some ⟨p, 0, none⟩), .int .i64 (i : Int)] w fun e w' =>
    e = .returned (.tuple #[valP (tx ks i), .bool true]) ∧ Below w.heap.size w w' := by
  have hsm := h.small
  obtain ⟨g, cap, ev, c0⟩ := IxP.cell (p := p) (b := b) h.own hi 0 (by omega)
  obtain ⟨g2, cap2, ev2, c1⟩ := IxP.cell (p := p) (b := b) h.own hi 1 (by omega)
  rw [ev] at ev2
  simp only [Value.slice.injEq, Option.some.injEq, Addr.mk.injEq] at ev2
  have eg := ev2.1.1
  subst eg
  clear ev2
  have hp := h.lt
  have hv := h.c0
  rw [ev] at hv
  obtain ⟨x, y, ef, ec⟩ := valP_form (tx ks i)
  rw [ec] at c0 c1
  simp only [List.getElem?_cons_zero, List.getElem?_cons_succ, Nat.add_zero] at c0 c1
  rw [ef]
  have hg : g < w.heap.size := World.block_lt_of_cell? _ _ c0
  obtain ⟨n, hn⟩ : ∃ n, ks.length = n := ⟨_, rfl⟩
  rw [hn] at hv hi hsm
  clear h ev ef ec hn
  have i0 : (0 : Int) ≤ (i : Int) := by omega
  have i1 : (i : Int) < (n : Int) := by omega
  go_enter Try.func20, Try.ntmps20
  go_wp2
  refine bodyPost_ret (v := .tuple #[.agg #[.int .i64 x, .int .i64 y], .bool true]) (by simp [results, Try.results20, go_sem]) rfl ⟨rfl, ?_⟩
  exact (Below.refl _ _).alloc (Nat.le_refl _) _

set_option maxRecDepth 100000 in
set_option maxHeartbeats 1600000 in
theorem at_out {w : World} {p b : Nat} {v : Value} {ks : List Nat} (h : IxP w p b v ks) (i : Nat) (hi : ks.length ≤ i) (hm : i < 1000) : Calls Try.prog 20 #[.pointer (some ⟨p, 0, none⟩), .int .i64 (i : Int)] w fun e w' =>
    e = .returned (.tuple #[.agg #[.int .i64 0, .int .i64 0], .bool false]) ∧ Below w.heap.size w w' := by
  have hsm := h.small
  obtain ⟨a, cap, ev, _⟩ := h.shape
  have hp := h.lt
  have hv := h.c0
  rw [ev] at hv
  obtain ⟨n, hn⟩ : ∃ n, ks.length = n := ⟨_, rfl⟩
  rw [hn] at hv hi hsm
  clear h ev hn
  have i0 : (0 : Int) ≤ (i : Int) := by omega
  have i1 : (n : Int) ≤ (i : Int) := by omega
  go_enter Try.func20, Try.ntmps20
  go_wp2
  refine bodyPost_ret (v := .tuple #[.agg #[.int .i64 0, .int .i64 0], .bool false]) (by simp [results, Try.results20, go_sem]) rfl ⟨rfl, ?_⟩
  exact ((Below.refl _ _).alloc (Nat.le_refl _) _).alloc (by simp) _
end Go.Proofs.Ythmcalapofjmfab
