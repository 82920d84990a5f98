/-
  Rows that were made; slices.Clone.
-/
import Derived.Test.YtadgiccfjppnfaaPma
import Derived.Laws.MakeOwn
namespace Go.Proofs.Ytadgiccfjppnfaa
open Go.RowKit
set_option linter.unusedVariables false
set_option linter.unusedSimpArgs false
theorem made_at (z : Array Value) (m j : Nat) (hj : j < m) : (madeCells z m)[j]? = some (z[j % z.size]!) := by
  simp [madeCells, hj]
/-- A row of zeros. -/
theorem made_ro {T : Type} (en : T → List Value) (z0 : T) (z : Array Value) (sz : Nat) (hz : ∀ x, (en x).length = sz) (h0 : 0 < sz) (he : z.toList = en z0) (w : World) (e : TypeId) (N : Nat) (hN : N ≤ maxLen) :
    Ro (w.alloc (.cells (madeCells z (N * sz)) e)) sz (.slice (some ⟨w.heap.size, 0, none⟩) N N) N (flt en (List.replicate N z0)) := by
  have hzs : z.size = sz := by rw [← Array.length_toList, he, hz]
  refine ⟨by rw [flt_length hz, List.length_replicate], .inr ⟨w.heap.size, 0, N, _, e, rfl, heap_alloc_new w _, Nat.le_refl _, hN, by rw [size_madeCells]; omega, fun j hj => ?_⟩⟩
  rw [Nat.zero_add, made_at _ _ _ hj, hzs]
  have hq : j / sz < N := Nat.div_lt_of_lt_mul (by rw [Nat.mul_comm]; exact hj)
  have hr : j % sz < sz := Nat.mod_lt _ h0
  have ej : j = j / sz * sz + j % sz := by rw [Nat.mul_comm]; exact (Nat.div_add_mod j sz).symm
  conv => rhs; rw [ej]
  rw [flt_at hz (p := z0) (by simp [hq]) (j % sz) hr, ← he]
  rw [Array.getElem?_toList, getElem!_pos z _ (by omega), Array.getElem?_eq_getElem]
theorem infCM : (Try.prog.info? 38).map (fun i => (i.zero, i.size, i.bytes)) = some (some (.agg #[.int .i64 0, .int .i64 0, .slice none 0 0]), 3, 40) := by kernel_rfl
theorem nil_eqM (c : Nat) (W : World) : (binOp .eql 33 (.slice none 0 c) (.slice none 0 0)).run Try.prog W = .ok (.bool true) W := by kernel_rfl
theorem nil_neM (a : Addr) (n c : Nat) (W : World) : (binOp .eql 33 (.slice (some a) n c) (.slice none 0 0)).run Try.prog W = .ok (.bool false) W := by kernel_rfl
set_option maxRecDepth 100000 in
set_option maxHeartbeats 1600000 in
theorem cloneM_any {w : World} {lv : Value} {l : List Fmv} (h : Rx w 3 lv l.length (flt enM l)) (hN : l.length ≤ 1048576) (h1 : ∀ u ∈ flt enM l, u.oneCell' = true) :
    Calls Try.prog 80 #[lv] w fun e w' => ∃ v', e = .returned v' ∧ Gx w 3 enM l v' w' := by
  have hh := h
  obtain ⟨_, ha, hc, rfl, hlc, hcm, hcell⟩ := hh
  cases ha with
  | none =>
    have h0 : l.length = 0 := by
      by_cases q : 0 < l.length
      · obtain ⟨_, _, e, _⟩ := hcell q; cases e
      · omega
    obtain rfl : l = [] := List.eq_nil_of_length_eq_zero h0
    have hq := nil_eqM hc w
    simp only [List.length_nil] at hq ⊢
    clear hlc hcm hcell h0 h h1
    go_enter Try.func80, Try.ntmps80
    go_wp2_with fail
    go_ret
    exact ⟨_, rfl, by simpa [flt] using Ro.nil w 3, Below.refl _ _, by simp [Value.ownBlock]⟩
  | some a =>
    have hq := nil_neM a l.length hc w
    have hB : Below w.heap.size w (w.alloc (.cells #[] 38)) := (Below.refl _ _).alloc (Nat.le_refl _) _
    have hr : Ro (w.alloc (.cells #[] 38)) 3 (.slice (some ⟨w.heap.size, 0, none⟩) 0 0) 0 [] := ⟨by simp, .inr ⟨w.heap.size, 0, 0, #[], 38, rfl, heap_alloc_new w _, Nat.le_refl _, Nat.zero_le _, by simp, fun j hj => by omega⟩⟩
    obtain ⟨v', w', hrun, k1, k2, k3⟩ := Ro.appX (P := Try.prog) 33 33 38 _ Try.underlying33 infCM rfl (by decide) hr (h.below hB (Nat.le_refl _)) h1 (by unfold maxLen; omega) (by omega)
    rw [Nat.zero_add, List.nil_append] at k1
    have HG : Hid (Gx w 3 enM l v' w') := by
      refine ⟨k1, hB.trans ⟨k2.os, k2.tape, k2.output, k2.size, fun k hk => k2.block k (by simp; omega) (by simp [Value.ownBlock]; omega)⟩, fun k hk => ?_⟩
      rcases k3 with q | q
      · rw [q] at hk; simp [Value.ownBlock] at hk; omega
      · rw [q] at hk; simp at hk; omega
    have HRUN := hide hrun
    clear hcell hrun k1 k2 k3 hr hB h h1
    go_enter Try.func80, Try.ntmps80
    go_wp2_with (first | (at_builtin; refine wpList_appRun rfl _ _ rfl rfl rfl (unhide HRUN) ?_))
    go_ret
    exact ⟨v', rfl, unhide HG⟩
theorem infCO : (Try.prog.info? 43).map (fun i => (i.zero, i.size, i.bytes)) = some (some (.agg #[.int .i64 0, .slice none 0 0, .slice none 0 0, .int .i64 0, .int .i64 0, .bool false]), 6, 80) := by kernel_rfl
theorem nil_eqO (c : Nat) (W : World) : (binOp .eql 23 (.slice none 0 c) (.slice none 0 0)).run Try.prog W = .ok (.bool true) W := by kernel_rfl
theorem nil_neO (a : Addr) (n c : Nat) (W : World) : (binOp .eql 23 (.slice (some a) n c) (.slice none 0 0)).run Try.prog W = .ok (.bool false) W := by kernel_rfl
set_option maxRecDepth 100000 in
set_option maxHeartbeats 1600000 in
theorem cloneO_any {w : World} {lv : Value} {l : List Obv} (h : Rx w 6 lv l.length (flt enO l)) (hN : l.length ≤ 1048576) (h1 : ∀ u ∈ flt enO l, u.oneCell' = true) :
    Calls Try.prog 65 #[lv] w fun e w' => ∃ v', e = .returned v' ∧ Gx w 6 enO l v' w' := by
  have hh := h
  obtain ⟨_, ha, hc, rfl, hlc, hcm, hcell⟩ := hh
  cases ha with
  | none =>
    have h0 : l.length = 0 := by
      by_cases q : 0 < l.length
      · obtain ⟨_, _, e, _⟩ := hcell q; cases e
      · omega
    obtain rfl : l = [] := List.eq_nil_of_length_eq_zero h0
    have hq := nil_eqO hc w
    simp only [List.length_nil] at hq ⊢
    clear hlc hcm hcell h0 h h1
    go_enter Try.func65, Try.ntmps65
    go_wp2_with fail
    go_ret
    exact ⟨_, rfl, by simpa [flt] using Ro.nil w 6, Below.refl _ _, by simp [Value.ownBlock]⟩
  | some a =>
    have hq := nil_neO a l.length hc w
    have hB : Below w.heap.size w (w.alloc (.cells #[] 43)) := (Below.refl _ _).alloc (Nat.le_refl _) _
    have hr : Ro (w.alloc (.cells #[] 43)) 6 (.slice (some ⟨w.heap.size, 0, none⟩) 0 0) 0 [] := ⟨by simp, .inr ⟨w.heap.size, 0, 0, #[], 43, rfl, heap_alloc_new w _, Nat.le_refl _, Nat.zero_le _, by simp, fun j hj => by omega⟩⟩
    obtain ⟨v', w', hrun, k1, k2, k3⟩ := Ro.appX (P := Try.prog) 23 23 43 _ Try.underlying23 infCO rfl (by decide) hr (h.below hB (Nat.le_refl _)) h1 (by unfold maxLen; omega) (by omega)
    rw [Nat.zero_add, List.nil_append] at k1
    have HG : Hid (Gx w 6 enO l v' w') := by
      refine ⟨k1, hB.trans ⟨k2.os, k2.tape, k2.output, k2.size, fun k hk => k2.block k (by simp; omega) (by simp [Value.ownBlock]; omega)⟩, fun k hk => ?_⟩
      rcases k3 with q | q
      · rw [q] at hk; simp [Value.ownBlock] at hk; omega
      · rw [q] at hk; simp at hk; omega
    have HRUN := hide hrun
    clear hcell hrun k1 k2 k3 hr hB h h1
    go_enter Try.func65, Try.ntmps65
    go_wp2_with (first | (at_builtin; refine wpList_appRun rfl _ _ rfl rfl rfl (unhide HRUN) ?_))
    go_ret
    exact ⟨v', rfl, unhide HG⟩
theorem infCL : (Try.prog.info? 2).map (fun i => (i.zero, i.size, i.bytes)) = some (some (.int .i64 0), 1, 8) := by kernel_rfl
theorem nil_eqL (c : Nat) (W : World) : (binOp .eql 41 (.slice none 0 c) (.slice none 0 0)).run Try.prog W = .ok (.bool true) W := by kernel_rfl
theorem nil_neL (a : Addr) (n c : Nat) (W : World) : (binOp .eql 41 (.slice (some a) n c) (.slice none 0 0)).run Try.prog W = .ok (.bool false) W := by kernel_rfl
set_option maxRecDepth 100000 in
set_option maxHeartbeats 1600000 in
theorem cloneL_any {w : World} {lv : Value} {l : List Int} (h : Rx w 1 lv l.length (flt enL l)) (hN : l.length ≤ 1048576) (h1 : ∀ u ∈ flt enL l, u.oneCell' = true) :
    Calls Try.prog 82 #[lv] w fun e w' => ∃ v', e = .returned v' ∧ Gx w 1 enL l v' w' := by
  have hh := h
  obtain ⟨_, ha, hc, rfl, hlc, hcm, hcell⟩ := hh
  cases ha with
  | none =>
    have h0 : l.length = 0 := by
      by_cases q : 0 < l.length
      · obtain ⟨_, _, e, _⟩ := hcell q; cases e
      · omega
    obtain rfl : l = [] := List.eq_nil_of_length_eq_zero h0
    have hq := nil_eqL hc w
    simp only [List.length_nil] at hq ⊢
    clear hlc hcm hcell h0 h h1
    go_enter Try.func82, Try.ntmps82
    go_wp2_with fail
    go_ret
    exact ⟨_, rfl, by simpa [flt] using Ro.nil w 1, Below.refl _ _, by simp [Value.ownBlock]⟩
  | some a =>
    have hq := nil_neL a l.length hc w
    have hB : Below w.heap.size w (w.alloc (.cells #[] 2)) := (Below.refl _ _).alloc (Nat.le_refl _) _
    have hr : Ro (w.alloc (.cells #[] 2)) 1 (.slice (some ⟨w.heap.size, 0, none⟩) 0 0) 0 [] := ⟨by simp, .inr ⟨w.heap.size, 0, 0, #[], 2, rfl, heap_alloc_new w _, Nat.le_refl _, Nat.zero_le _, by simp, fun j hj => by omega⟩⟩
    obtain ⟨v', w', hrun, k1, k2, k3⟩ := Ro.appX (P := Try.prog) 41 41 2 _ Try.underlying41 infCL rfl (by decide) hr (h.below hB (Nat.le_refl _)) h1 (by unfold maxLen; omega) (by omega)
    rw [Nat.zero_add, List.nil_append] at k1
    have HG : Hid (Gx w 1 enL l v' w') := by
      refine ⟨k1, hB.trans ⟨k2.os, k2.tape, k2.output, k2.size, fun k hk => k2.block k (by simp; omega) (by simp [Value.ownBlock]; omega)⟩, fun k hk => ?_⟩
      rcases k3 with q | q
      · rw [q] at hk; simp [Value.ownBlock] at hk; omega
      · rw [q] at hk; simp at hk; omega
    have HRUN := hide hrun
    clear hcell hrun k1 k2 k3 hr hB h h1
    go_enter Try.func82, Try.ntmps82
    go_wp2_with (first | (at_builtin; refine wpList_appRun rfl _ _ rfl rfl rfl (unhide HRUN) ?_))
    go_ret
    exact ⟨v', rfl, unhide HG⟩
theorem oneL (l : List Int) : ∀ u ∈ flt enL l, u.oneCell' = true := fun u hu => by
  obtain ⟨x, _, h2⟩ := List.mem_flatMap.1 hu
  simp only [enL, List.mem_cons, List.not_mem_nil, or_false] at h2
  rw [h2]; rfl
theorem oneM {l : List Fmv} (h : ∀ x ∈ l, ∃ a n c, x.sv = .slice a n c) : ∀ u ∈ flt enM l, u.oneCell' = true := fun u hu => by
  obtain ⟨x, hx, h2⟩ := List.mem_flatMap.1 hu
  obtain ⟨a, n, c, e⟩ := h x hx
  simp only [enM, List.mem_cons, List.not_mem_nil, or_false] at h2
  rcases h2 with rfl | rfl | rfl
  · rfl
  · rfl
  · rw [e]; rfl
theorem oneO {l : List Obv} (h : ∀ x ∈ l, (∃ a n c, x.iv = .slice a n c) ∧ ∃ a n c, x.kv = .slice a n c) : ∀ u ∈ flt enO l, u.oneCell' = true := fun u hu => by
  obtain ⟨x, hx, h2⟩ := List.mem_flatMap.1 hu
  obtain ⟨⟨a, n, c, e⟩, ⟨a2, n2, c2, e2⟩⟩ := h x hx
  simp only [enO, List.mem_cons, List.not_mem_nil, or_false] at h2
  rcases h2 with rfl | rfl | rfl | rfl | rfl | rfl
  · rfl
  · rw [e]; rfl
  · rw [e2]; rfl
  · rfl
  · rfl
  · rfl
set_option maxRecDepth 100000 in
set_option maxHeartbeats 3200000 in
/-- A value with its new number. -/
theorem value_any {B : Nat} {T : List ByteArray} {O : List Ob} {X : List Obv} {ob mb : Nat} {tv ov : Value} {w : World} {m : List Nat × List Nat} (h : OrM B T O X ob mb tv ov w m) (hm : MOk T.length O.length m) {p : Int × Int} (hv : OkV p) (hh : Hv T.length O m p) :
    Calls Try.prog 81 #[.pointer (some ⟨ob, 0, none⟩), .agg #[.int .i64 p.1, .int .i64 p.2]] w fun e w' => e = .returned (.agg #[.int .i64 (numV T.length O m p).1, .int .i64 (numV T.length O m p).2]) ∧ Below w.heap.size w w' := by
  rw [mpF_num hm hh]
  obtain ⟨k, n⟩ := p
  have hb2 := bl_two w (.cells #[.int .i64 k, .int .i64 n] 40) (.cells #[.int .i64 0, .int .i64 0] 40)
  obtain ⟨W2, hW2⟩ : ∃ W, Hid ((w.alloc (.cells #[.int .i64 k, .int .i64 n] 40)).alloc (.cells #[.int .i64 0, .int .i64 0] 40) = W) := ⟨_, hide rfl⟩
  rw [unhide hW2] at hb2
  have h2 := h.fr (Fr.of_below (S := fun _ => False) hb2) (fun _ _ e => e)
  have o2 := (blk_cells h2.box).1 2
  have lo := (blk_cells h2.box).2.2
  simp at o2
  have nb0 : W2.heap[w.heap.size]? = some (.cells #[.int .i64 k, .int .i64 n] 40) := by
    rw [← unhide hW2, Below.heap_alloc _ _ _ (by simp)]
    exact heap_alloc_new w _
  have nb1 : W2.heap[w.heap.size + 1]? = some (.cells #[.int .i64 0, .int .i64 0] 40) := by
    rw [← unhide hW2]
    have := heap_alloc_new (w.alloc (.cells #[.int .i64 k, .int .i64 n] 40)) (.cells #[.int .i64 0, .int .i64 0] 40)
    rw [World.size_alloc] at this
    exact this
  obtain ⟨c0, f0, l0⟩ := blk_cells nb0
  obtain ⟨c1, f1, l1⟩ := blk_cells nb1
  have v0 := c0 0
  have v1 := c0 1
  have u0 := c1 0
  have u1 := c1 1
  have g1 := f0 1
  have g2 := f1 0
  have g3 := f1 1
  simp at v0 v1 u0 u1
  have hlk : ∀ nq, (Instr.lookup 71 (.map (some mb)) (.agg #[.int .i64 k, .int .i64 n]) true).run Try.prog (W2.drewN nq) = .ok (.tuple #[.int .i64 (((mpF O m (k, n)).getD 0 : Nat) : Int), .bool (mpF O m (k, n)).isSome]) (W2.drewN nq) := fun nq =>
    ((h2.fr (Fr.of_below (S := fun _ => False) (bl_drewN W2 nq)) (fun _ _ e => e)).mp).look (k, n) hv
  have HB2 := hide hb2
  obtain ⟨cc, hcc⟩ : ∃ cc : Int, Hid ((((mpF O m (k, n)).getD 0 : Nat) : Int) = cc) := ⟨_, hide rfl⟩
  rw [unhide hcc] at hlk
  rw [unhide hcc]
  have HQ : Hid (∀ (nq : Nat) (a : Value), Below w.heap.size w (((W2.drewN nq).setCell ⟨w.heap.size, 1, none⟩ a))) := fun nq a => (hb2.trans ((bl_drewN W2 nq).mono hb2.size)).trans ((Below.refl _ _).setCell (by show w.heap.size ≤ w.heap.size; omega) _)
  cases hso : (mpF O m (k, n)).isSome with
  | true =>
    rw [hso] at hlk
    clear h h2 hm hh hb2 nb0 nb1 c0 c1 f0 f1 hso hv hcc
    go_enter Try.func81, Try.ntmps81
    go_wp2_with fail
    rw [unhide hW2]
    go_quiet (fail)
    obtain ⟨Y, hY⟩ : ∃ Y, Hid (W2.drewN nq = Y) := ⟨_, hide rfl⟩
    have HY : Hid (Below W2.heap.size W2 Y) := by rw [← unhide hY]; exact hide (bl_drewN W2 nq)
    have yc : ∀ j, Y.cell? ⟨w.heap.size, j, none⟩ = W2.cell? ⟨w.heap.size, j, none⟩ := fun j => (unhide HY).cell (p := ⟨w.heap.size, j, none⟩) l0
    have yd : ∀ j, Y.cell? ⟨w.heap.size + 1, j, none⟩ = W2.cell? ⟨w.heap.size + 1, j, none⟩ := fun j => (unhide HY).cell (p := ⟨w.heap.size + 1, j, none⟩) l1
    have y0 := (yc 0).trans v0
    have y1 := (yc 1).trans v1
    have y2 := (yd 0).trans u0
    have y3 := (yd 1).trans u1
    have fz1 : Y.frozen? ⟨w.heap.size, 1, none⟩ = false := by rw [← unhide hY]; exact g1
    have fz2 : Y.frozen? ⟨w.heap.size + 1, 0, none⟩ = false := by rw [← unhide hY]; exact g2
    have fz3 : Y.frozen? ⟨w.heap.size + 1, 1, none⟩ = false := by rw [← unhide hY]; exact g3
    have HBY := hide ((unhide HB2).trans ((unhide HY).mono (unhide HB2).size))
    rw [unhide hY]
    clear hY hlk v0 v1 u0 u1 yc yd o2 lo
    go_wp2_with fail
    refine bodyPost_ret (v := .agg #[.int .i64 k, .int .i64 cc]) ?_ rfl ?_
    · rw [results_cell_one rfl]
      go_simp
    · refine ⟨by simp, ?_⟩
      repeat (first | refine Below.setCell ?_ (by simp) _ | with_reducible exact unhide HBY)
  | false =>
    rw [hso] at hlk
    clear h h2 hm hh hb2 nb0 nb1 c0 c1 f0 f1 hso hv hcc
    go_enter Try.func81, Try.ntmps81
    go_wp2_with fail
    rw [unhide hW2]
    go_quiet (fail)
    obtain ⟨Y, hY⟩ : ∃ Y, Hid (W2.drewN nq = Y) := ⟨_, hide rfl⟩
    have HY : Hid (Below W2.heap.size W2 Y) := by rw [← unhide hY]; exact hide (bl_drewN W2 nq)
    have yc : ∀ j, Y.cell? ⟨w.heap.size, j, none⟩ = W2.cell? ⟨w.heap.size, j, none⟩ := fun j => (unhide HY).cell (p := ⟨w.heap.size, j, none⟩) l0
    have yd : ∀ j, Y.cell? ⟨w.heap.size + 1, j, none⟩ = W2.cell? ⟨w.heap.size + 1, j, none⟩ := fun j => (unhide HY).cell (p := ⟨w.heap.size + 1, j, none⟩) l1
    have y0 := (yc 0).trans v0
    have y1 := (yc 1).trans v1
    have y2 := (yd 0).trans u0
    have y3 := (yd 1).trans u1
    have fz2 : Y.frozen? ⟨w.heap.size + 1, 0, none⟩ = false := by rw [← unhide hY]; exact g2
    have fz3 : Y.frozen? ⟨w.heap.size + 1, 1, none⟩ = false := by rw [← unhide hY]; exact g3
    have HBY := hide ((unhide HB2).trans ((unhide HY).mono (unhide HB2).size))
    rw [unhide hY]
    clear hY hlk v0 v1 u0 u1 yc yd o2 lo
    go_wp2_with fail
    refine bodyPost_ret (v := .agg #[.int .i64 k, .int .i64 n]) ?_ rfl ?_
    · rw [results_cell_one rfl]
      go_simp
    · refine ⟨by simp, ?_⟩
      repeat (first | refine Below.setCell ?_ (by simp) _ | with_reducible exact unhide HBY)
end Go.Proofs.Ytadgiccfjppnfaa
