/-
  slices.Clone of handlers.
-/
import Derived.Test.YtbkfnmkfbdoadaaGreatDoorVFlo
namespace Go.Proofs.YtbkfnmkfbdoadaaGreatDoor
open Go.RowKit
set_option linter.unusedVariables false
set_option linter.unusedSimpArgs false
theorem Tryz.info78 : (Tryz.prog.info? 78).map (fun i => (i.zero, i.size, i.bytes)) = some (some (.agg #[.int .i64 0, .int .i64 0, .int .i64 0, .int .i64 0]), 4, 32) := by kernel_rfl
theorem nil_eq38 (c : Nat) (W : World) : (binOp .eql 43 (.slice none 0 c) (.slice none 0 0)).run Tryz.prog W = .ok (.bool true) W := by kernel_rfl
theorem nil_ne38 (a : Addr) (n c : Nat) (W : World) : (binOp .eql 43 (.slice (some a) n c) (.slice none 0 0)).run Tryz.prog W = .ok (.bool false) W := by kernel_rfl
theorem clone_app {w : World} {b off hc : Nat} {hs : List Hd} (hN : hs.length ≤ 1048576) (h0 : 0 < hs.length) (hb : b < w.heap.size) (hcell : ∀ j, j < hs.length * 4 → w.cell? ⟨b, off + j, none⟩ = (flt enH hs)[j]?) :
    ∃ v' w', (Builtin.append_ #[43, 43] 43 #[.slice (some ⟨w.heap.size, 0, none⟩) 0 0, .slice (some ⟨b, off, none⟩) hs.length hc]).run Tryz.prog (w.alloc (.cells #[] 78)) = .ok v' w' ∧ Hid (Ro w' 4 v' hs.length (flt enH hs) ∧ Below w.heap.size w w' ∧ ∀ k, v'.ownBlock = some k → w.heap.size ≤ k) := by
  obtain ⟨i0, hi0, hz0, hz1, hz2⟩ := info_parts Tryz.info78
  have hr : Ro (w.alloc (.cells #[] 78)) 4 (.slice (some ⟨w.heap.size, 0, none⟩) 0 0) 0 [] := ⟨by simp, .inr ⟨w.heap.size, 0, 0, #[], 78, rfl, heap_alloc_new w _, Nat.le_refl _, Nat.zero_le _, by simp, fun j hj => by omega⟩⟩
  have hB : Below w.heap.size w (w.alloc (.cells #[] 78)) := (Below.refl _ _).alloc (Nat.le_refl _) _
  have hl := flt_length zH hs
  obtain ⟨v', w', hrun, k1, k2, k3⟩ := Ro.app (P := Tryz.prog) 43 43 78 i0 _ 4 32 Tryz.underlying43 hi0 hz0 hz1 hz2 rfl (by decide) hr ⟨b, off, none⟩ hs.length hc (flt enH hs) hl (fun j u hu => by
    have hj : j < hs.length * 4 := by have := (List.getElem?_eq_some_iff.1 hu).1; omega
    rw [Go.WideShapes.add_plain]
    exact (hB.cell (p := ⟨b, off + j, none⟩) hb).trans ((hcell j hj).trans hu)) (fun u hu => by
    obtain ⟨h, hh, hu2⟩ := List.mem_flatMap.1 hu
    simp only [enH, List.mem_cons, List.not_mem_nil, or_false] at hu2
    rcases hu2 with rfl | rfl | rfl | rfl <;> rfl) h0 (by unfold maxLen; omega) (by omega)
  rw [Nat.zero_add, List.nil_append] at k1
  refine ⟨v', w', hrun, k1, hB.trans ⟨k2.os, k2.tape, k2.output, k2.size, fun k hk => k2.block k (by simp; omega) (by simp [Value.ownBlock]; omega)⟩, fun k hk => ?_⟩
  rcases k3 with q | q
  · rw [q] at hk; simp [Value.ownBlock] at hk; omega
  · rw [q] at hk; simp at hk; omega
theorem clone_app0 (w : World) (a : Addr) (c : Nat) : (Builtin.append_ #[43, 43] 43 #[.slice (some ⟨w.heap.size, 0, none⟩) 0 0, .slice (some a) 0 c]).run Tryz.prog (w.alloc (.cells #[] 78)) = .ok (.slice (some ⟨w.heap.size, 0, none⟩) 0 0) (w.alloc (.cells #[] 78)) := by
  kernel_rfl
theorem wpList_appRun {w w' : World} {ops : Array Oper} {rest : List Oper} {o : Oper} {a : Act} {Q : Exit → Act → World → Prop} {v u v' : Value} {t : TypeId}
    (hg : o.guard = none) (s x : Operand) (hop : o.op = Op.call { callee := Callee.builtin Builtin.append, args := #[s, x], argTypes := #[t, t] }) (hs : a.eval s = v) (hx : a.eval x = u)
    (hrun : (Builtin.append_ #[t, t] o.type #[v, u]).run Tryz.prog w = .ok v' w') (hK : wpList Tryz.prog ops Q rest (a.put o.dst v') w') : wpList Tryz.prog ops Q (o :: rest) a w := by
  refine wpList_plain hg fun K hK' => ?_
  unfold Oper.wp
  simp [execOp, hop, resolve, invoke, builtin, hs, hx, hrun, Result.andThen]
  exact hK' _ _ hK
set_option maxRecDepth 100000 in
set_option maxHeartbeats 1600000 in
theorem clone_any {w : World} {hv : Value} {hs : List Hd} (hN : hs.length ≤ 1048576) (hh : Rx w 4 hv hs.length (flt enH hs)) :
    Calls Tryz.prog 40 #[hv] w fun e w' => ∃ v', e = .returned v' ∧ Ro w' 4 v' hs.length (flt enH hs) ∧ Below w.heap.size w w' ∧ ∀ k, v'.ownBlock = some k → w.heap.size ≤ k := by
  obtain ⟨_, ha, hc, rfl, hlc, hcm, hcell⟩ := hh
  cases ha with
  | none =>
    have h0 : hs.length = 0 := by
      by_cases q : 0 < hs.length
      · obtain ⟨_, _, e, _⟩ := hcell q; cases e
      · omega
    have hnil : hs = [] := List.eq_nil_of_length_eq_zero h0
    subst hnil
    have hq := nil_eq38 hc w
    simp only [List.length_nil] at hq ⊢
    clear hlc hcm hcell h0
    go_enter Tryz.func40, Tryz.ntmps40
    go_wp2_with fail
    go_ret
    exact ⟨_, rfl, by simpa [flt] using Ro.nil w 4, Below.refl _ _, by simp [Value.ownBlock]⟩
  | some a =>
    have hq := nil_ne38 a hs.length hc w
    by_cases h0 : 0 < hs.length
    · obtain ⟨b, off, e, hb, hc2⟩ := hcell h0
      cases e
      obtain ⟨v', w', hrun, HV⟩ := clone_app (hc := hc) hN h0 hb hc2
      have HRUN := hide hrun
      clear hcell hc2 h0 hrun
      go_enter Tryz.func40, Tryz.ntmps40
      go_wp2_with (first | (at_builtin; refine wpList_appRun rfl _ _ rfl rfl rfl (unhide HRUN) ?_))
      go_ret
      exact ⟨v', rfl, unhide HV⟩
    · have hnil : hs = [] := List.eq_nil_of_length_eq_zero (by omega)
      subst hnil
      have HRUN := hide (clone_app0 w a hc)
      simp only [List.length_nil] at hq ⊢
      clear hlc hcm hcell h0
      go_enter Tryz.func40, Tryz.ntmps40
      go_wp2_with (first | (at_builtin; refine wpList_appRun rfl _ _ rfl rfl rfl (unhide HRUN) ?_))
      go_ret
      exact ⟨_, rfl, ⟨by simp [flt], .inr ⟨w.heap.size, 0, 0, #[], 78, rfl, heap_alloc_new w _, Nat.le_refl _, Nat.zero_le _, by simp, fun j hj => by simp at hj⟩⟩, (Below.refl _ _).alloc (Nat.le_refl _) _, by simp [Value.ownBlock]⟩
end Go.Proofs.YtbkfnmkfbdoadaaGreatDoor
