/-
  slices.Clone of operands, shapes, numbers, blocks.
-/
import Derived.Test.YtpbdmbmafjkinaaDoorRgT
namespace Go.Proofs.YtpbdmbmafjkinaaDoor
open Go.RowKit
set_option linter.unusedVariables false
set_option linter.unusedSimpArgs false
theorem wpList_appRunC {w w' : World} {ops : Array Oper} {rest : List Oper} {o : Oper} {a : Act} {Q : Exit → Act → World → Prop} {v u v' : Value} {t : TypeId}
    (hg : o.guard = none) (s x : Operand) (hop : o.op = Op.call { callee := Callee.builtin Builtin.append, args := #[s, x], argTypes := #[t, t] }) (hs : a.eval s = v) (hx : a.eval x = u)
    (hrun : (Builtin.append_ #[t, t] o.type #[v, u]).run Tryd.prog w = .ok v' w') (hK : wpList Tryd.prog ops Q rest (a.put o.dst v') w') : wpList Tryd.prog ops Q (o :: rest) a w := by
  refine wpList_plain hg fun K hK' => ?_
  unfold Oper.wp
  simp [execOp, hop, resolve, invoke, builtin, hs, hx, hrun, Result.andThen]
  exact hK' _ _ hK
theorem infOC : (Tryd.prog.info? 70).map (fun i => (i.zero, i.size, i.bytes)) = some (some (.agg #[.int .i64 0, .int .i64 0]), 2, 16) := by kernel_rfl
theorem nilEqO (c : Nat) (W : World) : (binOp .eql 48 (.slice none 0 c) (.slice none 0 0)).run Tryd.prog W = .ok (.bool true) W := by kernel_rfl
theorem nilNeO (a : Addr) (n c : Nat) (W : World) : (binOp .eql 48 (.slice (some a) n c) (.slice none 0 0)).run Tryd.prog W = .ok (.bool false) W := by kernel_rfl
set_option maxRecDepth 100000 in
set_option maxHeartbeats 1600000 in
theorem cloneO_any {w : World} {v : Value} {l : List Op} (h : Rx w 2 v l.length (flt enO l)) (h1 : ∀ u ∈ flt enO l, u.oneCell' = true) (hN : l.length ≤ 1048576) :
    Calls Tryd.prog 53 #[v] w fun e w' => ∃ v', e = .returned v' ∧ Gx w 2 enO l v' w' := by
  have hB : Below w.heap.size w (w.alloc (.cells #[] 70)) := (Below.refl _ _).alloc (Nat.le_refl _) _
  have hr : Ro (w.alloc (.cells #[] 70)) 2 (.slice (some ⟨w.heap.size, 0, none⟩) 0 0) 0 [] := ⟨by simp, .inr ⟨w.heap.size, 0, 0, #[], 70, rfl, heap_alloc_new w _, Nat.le_refl _, Nat.zero_le _, by simp, fun j hj => by omega⟩⟩
  obtain ⟨v', w', hrun, k1, k2, k3⟩ := Ro.appX (P := Tryd.prog) 48 48 70 _ Tryd.underlying48 infOC rfl (by decide) hr (h.below hB (Nat.le_refl _)) h1 (by unfold maxLen; omega) (by omega)
  rw [Nat.zero_add, List.nil_append] at k1
  have hG : Gx w 2 enO l v' w' := by
    refine ⟨k1, hB.trans ⟨k2.os, k2.tape, k2.output, k2.size, fun k hk => k2.block k (by simp; omega) (by simp [Value.ownBlock]; omega)⟩, fun k hk => ?_⟩
    rcases k3 with q | q
    · rw [q] at hk; simp [Value.ownBlock] at hk; omega
    · rw [q] at hk; simp at hk; omega
  have HG := hide hG
  have HRUN := hide hrun
  obtain ⟨a, c, rfl, h2, h3⟩ := h.shape
  cases a with
  | none =>
    have h0 : l.length = 0 := by
      obtain ⟨_, _, _, e, _, _, hc⟩ := h
      cases e
      by_cases q : 0 < l.length
      · obtain ⟨_, _, e, _⟩ := hc q; cases e
      · omega
    have hnil : l = [] := List.eq_nil_of_length_eq_zero h0
    subst hnil
    have hq := nilEqO c w
    simp only [List.length_nil] at hq ⊢
    clear h2 h3 h h1 hN hB hr hrun k1 k2 k3 hG HG HRUN h0
    go_enter Tryd.func53, Tryd.ntmps53
    go_wp2_with fail
    go_ret
    exact ⟨_, rfl, by simpa [flt] using Ro.nil w 2, Below.refl _ _, by simp [Value.ownBlock]⟩
  | some a =>
    have hq := nilNeO a l.length c w
    obtain ⟨L, hL⟩ : ∃ L, Hid (l.length = L) := ⟨_, hide rfl⟩
    rw [unhide hL] at hq HRUN ⊢
    clear h2 h3 h h1 hN hB hr hrun k1 k2 k3 hG
    go_enter Tryd.func53, Tryd.ntmps53
    go_wp2_with (first | (at_builtin; refine wpList_appRunC rfl _ _ rfl rfl rfl (unhide HRUN) ?_))
    go_ret
    exact ⟨_, rfl, unhide HG⟩
theorem infSC : (Tryd.prog.info? 73).map (fun i => (i.zero, i.size, i.bytes)) = some (some (.agg #[.int .i64 0, .int .i64 0, .slice none 0 0]), 3, 40) := by kernel_rfl
theorem nilEqS (c : Nat) (W : World) : (binOp .eql 49 (.slice none 0 c) (.slice none 0 0)).run Tryd.prog W = .ok (.bool true) W := by kernel_rfl
theorem nilNeS (a : Addr) (n c : Nat) (W : World) : (binOp .eql 49 (.slice (some a) n c) (.slice none 0 0)).run Tryd.prog W = .ok (.bool false) W := by kernel_rfl
set_option maxRecDepth 100000 in
set_option maxHeartbeats 1600000 in
theorem cloneS_any {w : World} {v : Value} {l : List ShR} (h : Rx w 3 v l.length (flt enSh l)) (h1 : ∀ u ∈ flt enSh l, u.oneCell' = true) (hN : l.length ≤ 1048576) :
    Calls Tryd.prog 73 #[v] w fun e w' => ∃ v', e = .returned v' ∧ Gx w 3 enSh l v' w' := by
  have hB : Below w.heap.size w (w.alloc (.cells #[] 73)) := (Below.refl _ _).alloc (Nat.le_refl _) _
  have hr : Ro (w.alloc (.cells #[] 73)) 3 (.slice (some ⟨w.heap.size, 0, none⟩) 0 0) 0 [] := ⟨by simp, .inr ⟨w.heap.size, 0, 0, #[], 73, rfl, heap_alloc_new w _, Nat.le_refl _, Nat.zero_le _, by simp, fun j hj => by omega⟩⟩
  obtain ⟨v', w', hrun, k1, k2, k3⟩ := Ro.appX (P := Tryd.prog) 49 49 73 _ Tryd.underlying49 infSC rfl (by decide) hr (h.below hB (Nat.le_refl _)) h1 (by unfold maxLen; omega) (by omega)
  rw [Nat.zero_add, List.nil_append] at k1
  have hG : Gx w 3 enSh l v' w' := by
    refine ⟨k1, hB.trans ⟨k2.os, k2.tape, k2.output, k2.size, fun k hk => k2.block k (by simp; omega) (by simp [Value.ownBlock]; omega)⟩, fun k hk => ?_⟩
    rcases k3 with q | q
    · rw [q] at hk; simp [Value.ownBlock] at hk; omega
    · rw [q] at hk; simp at hk; omega
  have HG := hide hG
  have HRUN := hide hrun
  obtain ⟨a, c, rfl, h2, h3⟩ := h.shape
  cases a with
  | none =>
    have h0 : l.length = 0 := by
      obtain ⟨_, _, _, e, _, _, hc⟩ := h
      cases e
      by_cases q : 0 < l.length
      · obtain ⟨_, _, e, _⟩ := hc q; cases e
      · omega
    have hnil : l = [] := List.eq_nil_of_length_eq_zero h0
    subst hnil
    have hq := nilEqS c w
    simp only [List.length_nil] at hq ⊢
    clear h2 h3 h h1 hN hB hr hrun k1 k2 k3 hG HG HRUN h0
    go_enter Tryd.func73, Tryd.ntmps73
    go_wp2_with fail
    go_ret
    exact ⟨_, rfl, by simpa [flt] using Ro.nil w 3, Below.refl _ _, by simp [Value.ownBlock]⟩
  | some a =>
    have hq := nilNeS a l.length c w
    obtain ⟨L, hL⟩ : ∃ L, Hid (l.length = L) := ⟨_, hide rfl⟩
    rw [unhide hL] at hq HRUN ⊢
    clear h2 h3 h h1 hN hB hr hrun k1 k2 k3 hG
    go_enter Tryd.func73, Tryd.ntmps73
    go_wp2_with (first | (at_builtin; refine wpList_appRunC rfl _ _ rfl rfl rfl (unhide HRUN) ?_))
    go_ret
    exact ⟨_, rfl, unhide HG⟩
theorem infNC : (Tryd.prog.info? 3).map (fun i => (i.zero, i.size, i.bytes)) = some (some (.int .i64 0), 1, 8) := by kernel_rfl
theorem nilEqN (c : Nat) (W : World) : (binOp .eql 25 (.slice none 0 c) (.slice none 0 0)).run Tryd.prog W = .ok (.bool true) W := by kernel_rfl
theorem nilNeN (a : Addr) (n c : Nat) (W : World) : (binOp .eql 25 (.slice (some a) n c) (.slice none 0 0)).run Tryd.prog W = .ok (.bool false) W := by kernel_rfl
set_option maxRecDepth 100000 in
set_option maxHeartbeats 1600000 in
theorem cloneN_any {w : World} {v : Value} {l : List Int} (h : Rx w 1 v l.length (flt enI l)) (h1 : ∀ u ∈ flt enI l, u.oneCell' = true) (hN : l.length ≤ 1048576) :
    Calls Tryd.prog 33 #[v] w fun e w' => ∃ v', e = .returned v' ∧ Gx w 1 enI l v' w' := by
  have hB : Below w.heap.size w (w.alloc (.cells #[] 3)) := (Below.refl _ _).alloc (Nat.le_refl _) _
  have hr : Ro (w.alloc (.cells #[] 3)) 1 (.slice (some ⟨w.heap.size, 0, none⟩) 0 0) 0 [] := ⟨by simp, .inr ⟨w.heap.size, 0, 0, #[], 3, rfl, heap_alloc_new w _, Nat.le_refl _, Nat.zero_le _, by simp, fun j hj => by omega⟩⟩
  obtain ⟨v', w', hrun, k1, k2, k3⟩ := Ro.appX (P := Tryd.prog) 25 25 3 _ Tryd.underlying25 infNC rfl (by decide) hr (h.below hB (Nat.le_refl _)) h1 (by unfold maxLen; omega) (by omega)
  rw [Nat.zero_add, List.nil_append] at k1
  have hG : Gx w 1 enI l v' w' := by
    refine ⟨k1, hB.trans ⟨k2.os, k2.tape, k2.output, k2.size, fun k hk => k2.block k (by simp; omega) (by simp [Value.ownBlock]; omega)⟩, fun k hk => ?_⟩
    rcases k3 with q | q
    · rw [q] at hk; simp [Value.ownBlock] at hk; omega
    · rw [q] at hk; simp at hk; omega
  have HG := hide hG
  have HRUN := hide hrun
  obtain ⟨a, c, rfl, h2, h3⟩ := h.shape
  cases a with
  | none =>
    have h0 : l.length = 0 := by
      obtain ⟨_, _, _, e, _, _, hc⟩ := h
      cases e
      by_cases q : 0 < l.length
      · obtain ⟨_, _, e, _⟩ := hc q; cases e
      · omega
    have hnil : l = [] := List.eq_nil_of_length_eq_zero h0
    subst hnil
    have hq := nilEqN c w
    simp only [List.length_nil] at hq ⊢
    clear h2 h3 h h1 hN hB hr hrun k1 k2 k3 hG HG HRUN h0
    go_enter Tryd.func33, Tryd.ntmps33
    go_wp2_with fail
    go_ret
    exact ⟨_, rfl, by simpa [flt] using Ro.nil w 1, Below.refl _ _, by simp [Value.ownBlock]⟩
  | some a =>
    have hq := nilNeN a l.length c w
    obtain ⟨L, hL⟩ : ∃ L, Hid (l.length = L) := ⟨_, hide rfl⟩
    rw [unhide hL] at hq HRUN ⊢
    clear h2 h3 h h1 hN hB hr hrun k1 k2 k3 hG
    go_enter Tryd.func33, Tryd.ntmps33
    go_wp2_with (first | (at_builtin; refine wpList_appRunC rfl _ _ rfl rfl rfl (unhide HRUN) ?_))
    go_ret
    exact ⟨_, rfl, unhide HG⟩
theorem infBC : (Tryd.prog.info? 47).map (fun i => (i.zero, i.size, i.bytes)) = some (some (.agg #[.int .i64 0, .slice none 0 0, .slice none 0 0]), 3, 56) := by kernel_rfl
theorem nilEqB (c : Nat) (W : World) : (binOp .eql 22 (.slice none 0 c) (.slice none 0 0)).run Tryd.prog W = .ok (.bool true) W := by kernel_rfl
theorem nilNeB (a : Addr) (n c : Nat) (W : World) : (binOp .eql 22 (.slice (some a) n c) (.slice none 0 0)).run Tryd.prog W = .ok (.bool false) W := by kernel_rfl
set_option maxRecDepth 100000 in
set_option maxHeartbeats 1600000 in
theorem cloneB_any {w : World} {v : Value} {l : List BkR} (h : Rx w 3 v l.length (flt enBk l)) (h1 : ∀ u ∈ flt enBk l, u.oneCell' = true) (hN : l.length ≤ 1048576) :
    Calls Tryd.prog 31 #[v] w fun e w' => ∃ v', e = .returned v' ∧ Gx w 3 enBk l v' w' := by
  have hB : Below w.heap.size w (w.alloc (.cells #[] 47)) := (Below.refl _ _).alloc (Nat.le_refl _) _
  have hr : Ro (w.alloc (.cells #[] 47)) 3 (.slice (some ⟨w.heap.size, 0, none⟩) 0 0) 0 [] := ⟨by simp, .inr ⟨w.heap.size, 0, 0, #[], 47, rfl, heap_alloc_new w _, Nat.le_refl _, Nat.zero_le _, by simp, fun j hj => by omega⟩⟩
  obtain ⟨v', w', hrun, k1, k2, k3⟩ := Ro.appX (P := Tryd.prog) 22 22 47 _ Tryd.underlying22 infBC rfl (by decide) hr (h.below hB (Nat.le_refl _)) h1 (by unfold maxLen; omega) (by omega)
  rw [Nat.zero_add, List.nil_append] at k1
  have hG : Gx w 3 enBk l v' w' := by
    refine ⟨k1, hB.trans ⟨k2.os, k2.tape, k2.output, k2.size, fun k hk => k2.block k (by simp; omega) (by simp [Value.ownBlock]; omega)⟩, fun k hk => ?_⟩
    rcases k3 with q | q
    · rw [q] at hk; simp [Value.ownBlock] at hk; omega
    · rw [q] at hk; simp at hk; omega
  have HG := hide hG
  have HRUN := hide hrun
  obtain ⟨a, c, rfl, h2, h3⟩ := h.shape
  cases a with
  | none =>
    have h0 : l.length = 0 := by
      obtain ⟨_, _, _, e, _, _, hc⟩ := h
      cases e
      by_cases q : 0 < l.length
      · obtain ⟨_, _, e, _⟩ := hc q; cases e
      · omega
    have hnil : l = [] := List.eq_nil_of_length_eq_zero h0
    subst hnil
    have hq := nilEqB c w
    simp only [List.length_nil] at hq ⊢
    clear h2 h3 h h1 hN hB hr hrun k1 k2 k3 hG HG HRUN h0
    go_enter Tryd.func31, Tryd.ntmps31
    go_wp2_with fail
    go_ret
    exact ⟨_, rfl, by simpa [flt] using Ro.nil w 3, Below.refl _ _, by simp [Value.ownBlock]⟩
  | some a =>
    have hq := nilNeB a l.length c w
    obtain ⟨L, hL⟩ : ∃ L, Hid (l.length = L) := ⟨_, hide rfl⟩
    rw [unhide hL] at hq HRUN ⊢
    clear h2 h3 h h1 hN hB hr hrun k1 k2 k3 hG
    go_enter Tryd.func31, Tryd.ntmps31
    go_wp2_with (first | (at_builtin; refine wpList_appRunC rfl _ _ rfl rfl rfl (unhide HRUN) ?_))
    go_ret
    exact ⟨_, rfl, unhide HG⟩
end Go.Proofs.YtpbdmbmafjkinaaDoor
