/-
  A function of these operations.
-/
import Derived.Test.YtiknljilfpekfaaDoorK1
namespace Go.Proofs.YtiknljilfpekfaaDoor
open Go.RowKit
set_option linter.unusedVariables false
set_option linter.unusedSimpArgs false
set_option maxRecDepth 100000 in
set_option maxHeartbeats 6400000 in
theorem func1_any {w : World} {nm : ByteArray} {ov : Value} {ops : List Int} (h : Rn w ov ops) (hN : ops.length ≤ 1000) :
    Calls Tryd.prog 4 #[.string nm, ov] w fun e w' => ∃ v, e = .returned v ∧ FnG w nm (ops.map (fun x => (x, (0 : Int)))) v w' := by
  have HC := hide (fun i p (hp : ops[i]? = some p) => h.at hp)
  obtain ⟨a, cap, rfl, _, _⟩ := h.shape
  obtain ⟨L, hL⟩ : ∃ L, Hid (ops.length = L) := ⟨_, hide rfl⟩
  rw [unhide hL] at hN HC ⊢
  have HF0 := hide (FB.first w nm (t := 25))
  go_enter Tryd.func4, Tryd.ntmps4
  go_wp2_with fail
  go_loopg [6] L (fun g t6 wr => ∃ (i : Nat) (v : Value), Hid (i + g = L) ∧ t6 = .int .i64 (i : Int) ∧ Hid (FB w nm v ((ops.map (fun x => (x, (0 : Int)))).take i) wr))
  case atStart => exact ⟨0, _, by unfold Hid; omega, rfl, HF0⟩
  case round =>
    obtain ⟨i, v, hi, rfl, hG⟩ := hrel
    have htl : i ≤ L → ((ops.map (fun x => (x, (0 : Int)))).take i).length = i := fun q => by rw [List.length_take, List.length_map, unhide hL]; omega
    by_cases hlt : i < L
    · have hil : i < ops.length := by rw [unhide hL]; exact hlt
      obtain ⟨x, hx⟩ : ∃ x, ops[i]? = some x := ⟨_, List.getElem?_eq_getElem hil⟩
      obtain ⟨b, off, cap', e, hb, hcx⟩ := unhide HC i x hx
      cases e
      have HP : Hid ((ops.map (fun x => (x, (0 : Int))))[i]? = some (x, 0)) := by unfold Hid; rw [List.getElem?_map, hx]; rfl
      replace htl := htl (by omega)
      have i0 : (0 : Int) ≤ (i : Int) := by omega
      have i1 : (i : Int) < (L : Int) := by omega
      have hsh := (unhide hG).hr.shape
      rw [htl] at hsh
      obtain ⟨va, vc, ev, _, _⟩ := hsh
      subst ev
      have HFD := hide ((unhide hG).keep (Go.Proofs.YtiknljilfpekfaaDoor.Below.drewN (Below.refl _ wr) 1))
      have HSD := hide (unhide HFD).bl
      have HSA : Hid (Below w.heap.size w (wr.drew.alloc (.cells #[.int .i64 x, .int .i64 0] 29))) := (unhide HFD).bl.alloc (unhide HFD).bl.size _
      have hMR := (unhide HFD).hr
      rw [htl] at hMR
      have HMR : Hid (Ro (wr.drew.alloc (.cells #[.int .i64 x, .int .i64 0] 29)) 2 (.slice va i vc) i (flt enI ((ops.map (fun x => (x, (0 : Int)))).take i))) := hMR.keep (fun g hg => Below.heap_alloc _ _ _ (hMR.lt g hg))
      have c3 := (B5.cells (unhide hG).c).2.2.2.1
      have lq := World.block_lt_of_cell? _ _ c3
      clear hMR hx hil
      go_wp2_with fail
      refine wp_region_held_drew (S := (fun wx => Below w.heap.size w wx)) (by kernel_rfl) (unhide HSD) (fun hHeld => ?_)
      refine wpAnyH_take (i := 0) (oi := _) (v := .pointer (some ⟨w.heap.size + 1, 3, none⟩)) rfl (by kernel_rfl) (by kernel_rfl) (by kernel_rfl) (fun _ _ _ h => h) (Or.inl ⟨by rfl, (by intro w hSw; go_simp)⟩) (by assumption) ?_
      go_simp
      refine wpAnyH_take (i := 2) (oi := _) (v := .slice (some ⟨b, off, none⟩) L cap) rfl (by kernel_rfl) (by kernel_rfl) (by kernel_rfl) (fun _ _ _ h => h) (Or.inl ⟨by rfl, (by intro w hSw; go_simp)⟩) (by assumption) ?_
      go_simp
      refine wpAnyH_take (i := 3) (oi := _) (v := .int .i64 (i : Int)) rfl (by kernel_rfl) (by kernel_rfl) (by kernel_rfl) (fun _ _ _ h => h) (Or.inl ⟨by rfl, (by intro w hSw; go_simp)⟩) (by assumption) ?_
      go_simp
      refine wpAnyH_take (i := 4) (oi := _) (v := .pointer (some ⟨b, off + i, none⟩)) rfl (by kernel_rfl) (by kernel_rfl) (by kernel_rfl) (fun _ _ _ h => h) (Or.inl ⟨by rfl, (by intro w hSw; go_simp)⟩) (by assumption) ?_
      go_simp
      refine wpAnyH_take (i := 5) (oi := _) (v := .int .i64 x) rfl (by kernel_rfl) (by kernel_rfl) (by kernel_rfl) (fun _ _ _ h => h) (Or.inl ⟨by rfl, (by intro w hSw; have kx := (hSw.cell (p := ⟨b, off + i, none⟩) hb).trans hcx; have lx := Nat.lt_of_lt_of_le hb hSw.size; go_simp)⟩) (by assumption) ?_
      go_simp
      refine wpAnyH_take (i := 6) (oi := _) (v := .agg #[.int .i64 x, .int .i64 0]) rfl (by kernel_rfl) (by kernel_rfl) (by kernel_rfl) (fun _ _ _ h => h) (Or.inl ⟨by rfl, (by intro w hSw; go_simp)⟩) (by assumption) ?_
      go_simp
      refine wpAnyH_ready (rs := [1, 7]) (by kernel_rfl) (by simp) ?_
      refine AllReadyH.cons (o := _) rfl (fun K hK => ?_) (AllReadyH.cons (o := _) rfl (fun K hK => ?_) AllReadyH.nil)
      · go_simp
        refine hK.out _ _ (unhide HSD) (fun hHeld1x => ?_)
        clear hK K
        go_simp
        refine wpAnyH_ready (rs := [7]) (by kernel_rfl) (by simp) ?_
        refine AllReadyH.cons (o := _) rfl (fun K hK => ?_) AllReadyH.nil
        go_simp
        refine hK.out _ _ (unhide HSA) (fun hHeld7x => ?_)
        clear hK K
        go_simp
        refine wpAnyH_ready (rs := [8]) (by kernel_rfl) (by simp) ?_
        refine AllReadyH.cons (o := _) rfl (fun K hK => ?_) AllReadyH.nil
        refine step_appI rfl _ _ rfl (.slice va i vc) i (flt enI ((ops.map (fun x => (x, (0 : Int)))).take i)) rfl (unhide HMR) ⟨wr.heap.size, 0, none⟩ 1 (x, 0) rfl (by exact new_cells wr.drew #[_, _] 29) (by omega) ?_
        intro v5 w5 hr5 hg5 hat5
        obtain ⟨va5, vc5, ev5, _, _⟩ := hr5.shape
        subst ev5
        obtain ⟨y1, yz, yb, HF8⟩ := (unhide HFD).push (p := (x, 0)) (by rw [htl]; exact hr5) hg5 (by simpa using hat5)
        have ly := World.block_lt_of_cell? _ _ y1
        have HS10 := hide (unhide HF8).bl
        rw [← take_push (unhide HP)] at HF8
        clear hr5 hg5 hat5
        refine hK.out _ _ (yb) (fun hHeld8x => ?_)
        clear hK K
        go_simp
        refine wpAnyH_take (i := 9) (oi := _) (v := .pointer (some ⟨w.heap.size + 1, 3, none⟩)) rfl (by kernel_rfl) (by kernel_rfl) (by kernel_rfl) (fun _ _ _ h => h) (Or.inl ⟨by rfl, (by intro w hSw; go_simp)⟩) (by assumption) ?_
        go_simp
        refine wpAnyH_ready (rs := [10]) (by kernel_rfl) (by simp) ?_
        refine AllReadyH.cons (o := _) rfl (fun K hK => ?_) AllReadyH.nil
        go_simp
        refine hK.out _ _ (unhide HS10) (fun hHeld10x => ?_)
        clear hK K
        refine wpAnyH_done (by kernel_rfl) ?_ _
        clear y1 yz ly
        obtain ⟨W9, eW9⟩ : ∃ W9, W9 = w5.setCell ⟨w.heap.size + 1, 3, none⟩ (.slice va5 (i + 1) vc5) := ⟨_, rfl⟩
        rw [← eW9] at HF8 ⊢
        clear eW9
        go_wp2_with fail
        go_roundg (gk - 1)
        case measure => have := unhide hi; omega
        case rel => exact ⟨i + 1, _, by unfold Hid; have := unhide hi; omega, by go_num, HF8⟩
      · go_simp
        refine hK.out _ _ (unhide HSA) (fun hHeld7x => ?_)
        clear hK K
        go_simp
        refine wpAnyH_ready (rs := [1]) (by kernel_rfl) (by simp) ?_
        refine AllReadyH.cons (o := _) rfl (fun K hK => ?_) AllReadyH.nil
        go_simp
        refine hK.out _ _ (unhide HSA) (fun hHeld1x => ?_)
        clear hK K
        go_simp
        refine wpAnyH_ready (rs := [8]) (by kernel_rfl) (by simp) ?_
        refine AllReadyH.cons (o := _) rfl (fun K hK => ?_) AllReadyH.nil
        refine step_appI rfl _ _ rfl (.slice va i vc) i (flt enI ((ops.map (fun x => (x, (0 : Int)))).take i)) rfl (unhide HMR) ⟨wr.heap.size, 0, none⟩ 1 (x, 0) rfl (by exact new_cells wr.drew #[_, _] 29) (by omega) ?_
        intro v5 w5 hr5 hg5 hat5
        obtain ⟨va5, vc5, ev5, _, _⟩ := hr5.shape
        subst ev5
        obtain ⟨y1, yz, yb, HF8⟩ := (unhide HFD).push (p := (x, 0)) (by rw [htl]; exact hr5) hg5 (by simpa using hat5)
        have ly := World.block_lt_of_cell? _ _ y1
        have HS10 := hide (unhide HF8).bl
        rw [← take_push (unhide HP)] at HF8
        clear hr5 hg5 hat5
        refine hK.out _ _ (yb) (fun hHeld8x => ?_)
        clear hK K
        go_simp
        refine wpAnyH_take (i := 9) (oi := _) (v := .pointer (some ⟨w.heap.size + 1, 3, none⟩)) rfl (by kernel_rfl) (by kernel_rfl) (by kernel_rfl) (fun _ _ _ h => h) (Or.inl ⟨by rfl, (by intro w hSw; go_simp)⟩) (by assumption) ?_
        go_simp
        refine wpAnyH_ready (rs := [10]) (by kernel_rfl) (by simp) ?_
        refine AllReadyH.cons (o := _) rfl (fun K hK => ?_) AllReadyH.nil
        go_simp
        refine hK.out _ _ (unhide HS10) (fun hHeld10x => ?_)
        clear hK K
        refine wpAnyH_done (by kernel_rfl) ?_ _
        clear y1 yz ly
        obtain ⟨W9, eW9⟩ : ∃ W9, W9 = w5.setCell ⟨w.heap.size + 1, 3, none⟩ (.slice va5 (i + 1) vc5) := ⟨_, rfl⟩
        rw [← eW9] at HF8 ⊢
        clear eW9
        go_wp2_with fail
        go_roundg (gk - 1)
        case measure => have := unhide hi; omega
        case rel => exact ⟨i + 1, _, by unfold Hid; have := unhide hi; omega, by go_num, HF8⟩
    · have hiL : i = L := by have := unhide hi; omega
      subst hiL
      have hG0 := unhide hG
      rw [List.take_of_length_le (by rw [List.length_map, unhide hL]; exact Nat.le_refl _)] at hG0
      obtain ⟨va, vc, ev, _, _⟩ := hG0.hr.shape
      rw [List.length_map, unhide hL] at ev
      subst ev
      have HG0 := hide hG0
      obtain ⟨z0, z1, z2, z3, z4⟩ := B5.cells hG0.c
      obtain ⟨y0, y1, y2, y3, y4⟩ := B5.cells hG0.r0
      have zl := World.block_lt_of_cell? _ _ z0
      have yl := World.block_lt_of_cell? _ _ y0
      have yf0 := hG0.r0.free rfl 0
      have yf1 := hG0.r0.free rfl 1
      have yf2 := hG0.r0.free rfl 2
      have yf3 := hG0.r0.free rfl 3
      have yf4 := hG0.r0.free rfl 4
      clear hG hG0
      go_wp2_with fail
      refine bodyPost_ret (v := .agg #[.string nm, .int .i64 0, .int .i64 0, .slice va i vc, .slice none 0 0]) ?_ rfl ?_
      · rw [results_cell_one rfl]
        go_simp
      · exact ⟨_, rfl, (unhide HG0).end (fr5 _ _ _ _ _ _ _)⟩
end Go.Proofs.YtiknljilfpekfaaDoor
