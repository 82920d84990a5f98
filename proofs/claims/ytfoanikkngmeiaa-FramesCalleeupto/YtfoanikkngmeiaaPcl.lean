/-
  Rows that were made; slices.Clone.
-/
import Derived.Test.YtfoanikkngmeiaaCpo
import Derived.Laws.MakeOwn
namespace Go.Proofs.Ytfoanikkngmeiaa
open Go.RowKit
set_option linter.unusedVariables false
set_option linter.unusedSimpArgs false
theorem made_at (z : Array Value) (m j : Nat) (hj : j < m) : (madeCells z m)[j]? = some (z[j % z.size]!) := by
  simp [madeCells, hj]
/-- A row of zeros. -/
theorem made_ro {T : Type} (en : T → List Value) (z0 : T) (z : Array Value) (sz : Nat) (hz : ∀ x, (en x).length = sz) (h0 : 0 < sz) (he : z.toList = en z0) (w : World) (e : TypeId) (N : Nat) (hN : N ≤ maxLen) :
    Ro (w.alloc (.cells (madeCells z (N * sz)) e)) sz (.slice (some ⟨w.heap.size, 0, none⟩) N N) N (flt en (List.replicate N z0)) := by
  have hzs : z.size = sz := by rw [← Array.length_toList, he, hz]
  refine ⟨by rw [flt_length hz, List.length_replicate], .inr ⟨w.heap.size, 0, N, _, e, rfl, heap_alloc_new w _, Nat.le_refl _, hN, by rw [size_madeCells]; omega, fun j hj => ?_⟩⟩
  rw [Nat.zero_add, made_at _ _ _ hj, hzs]
  have hq : j / sz < N := Nat.div_lt_of_lt_mul (by rw [Nat.mul_comm]; exact hj)
  have hr : j % sz < sz := Nat.mod_lt _ h0
  have ej : j = j / sz * sz + j % sz := by rw [Nat.mul_comm]; exact (Nat.div_add_mod j sz).symm
  conv => rhs; rw [ej]
  rw [flt_at hz (p := z0) (by simp [hq]) (j % sz) hr, ← he]
  rw [Array.getElem?_toList, getElem!_pos z _ (by omega), Array.getElem?_eq_getElem]
theorem infCL : (Try.prog.info? 2).map (fun i => (i.zero, i.size, i.bytes)) = some (some (.int .i64 0), 1, 8) := by kernel_rfl
theorem nil_eqL (c : Nat) (W : World) : (binOp .eql 49 (.slice none 0 c) (.slice none 0 0)).run Try.prog W = .ok (.bool true) W := by kernel_rfl
theorem nil_neL (a : Addr) (n c : Nat) (W : World) : (binOp .eql 49 (.slice (some a) n c) (.slice none 0 0)).run Try.prog W = .ok (.bool false) W := by kernel_rfl
set_option maxRecDepth 100000 in
set_option maxHeartbeats 1600000 in
theorem cloneL_any {w : World} {lv : Value} {l : List Int} (h : Rx w 1 lv l.length (flt enL l)) (hN : l.length ≤ 1048576) (h1 : ∀ u ∈ flt enL l, u.oneCell' = true) :
    Calls Try.prog 38 #[lv] w fun e w' => ∃ v', e = .returned v' ∧ Gx w 1 enL l v' w' := by
  have hh := h
  obtain ⟨_, ha, hc, rfl, hlc, hcm, hcell⟩ := hh
  cases ha with
  | none =>
    have h0 : l.length = 0 := by
      by_cases q : 0 < l.length
      · obtain ⟨_, _, e, _⟩ := hcell q; cases e
      · omega
    obtain rfl : l = [] := List.eq_nil_of_length_eq_zero h0
    have hq := nil_eqL hc w
    simp only [List.length_nil] at hq ⊢
    clear hlc hcm hcell h0 h h1
    go_enter Try.func38, Try.ntmps38
    go_wp2_with fail
    go_ret
    exact ⟨_, rfl, by simpa [flt] using Ro.nil w 1, Below.refl _ _, by simp [Value.ownBlock]⟩
  | some a =>
    have hq := nil_neL a l.length hc w
    have hB : Below w.heap.size w (w.alloc (.cells #[] 2)) := (Below.refl _ _).alloc (Nat.le_refl _) _
    have hr : Ro (w.alloc (.cells #[] 2)) 1 (.slice (some ⟨w.heap.size, 0, none⟩) 0 0) 0 [] := ⟨by simp, .inr ⟨w.heap.size, 0, 0, #[], 2, rfl, heap_alloc_new w _, Nat.le_refl _, Nat.zero_le _, by simp, fun j hj => by omega⟩⟩
    obtain ⟨v', w', hrun, k1, k2, k3⟩ := Ro.appX (P := Try.prog) 49 49 2 _ Try.underlying49 infCL rfl (by decide) hr (h.below hB (Nat.le_refl _)) h1 (by unfold maxLen; omega) (by omega)
    rw [Nat.zero_add, List.nil_append] at k1
    have HG : Hid (Gx w 1 enL l v' w') := by
      refine ⟨k1, hB.trans ⟨k2.os, k2.tape, k2.output, k2.size, fun k hk => k2.block k (by simp; omega) (by simp [Value.ownBlock]; omega)⟩, fun k hk => ?_⟩
      rcases k3 with q | q
      · rw [q] at hk; simp [Value.ownBlock] at hk; omega
      · rw [q] at hk; simp at hk; omega
    have HRUN := hide hrun
    clear hcell hrun k1 k2 k3 hr hB h h1
    go_enter Try.func38, Try.ntmps38
    go_wp2_with (first | (at_builtin; refine wpList_appRun rfl _ _ rfl rfl rfl (unhide HRUN) ?_))
    go_ret
    exact ⟨v', rfl, unhide HG⟩
theorem oneL (l : List Int) : ∀ u ∈ flt enL l, u.oneCell' = true := fun u hu => by
  obtain ⟨x, _, h2⟩ := List.mem_flatMap.1 hu
  simp only [enL, List.mem_cons, List.not_mem_nil, or_false] at h2
  rw [h2]; rfl
end Go.Proofs.Ytfoanikkngmeiaa
