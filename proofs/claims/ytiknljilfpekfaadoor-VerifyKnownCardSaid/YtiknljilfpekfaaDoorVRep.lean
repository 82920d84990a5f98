/-
  slices.Repeat of one number.
-/
import Derived.Test.YtiknljilfpekfaaDoorVMul
import Derived.Laws.CopyOwn
import Derived.Deep.RegionHeld3
namespace Go.Proofs.YtiknljilfpekfaaDoor
open Go.RowKit
set_option linter.unusedVariables false
set_option linter.unusedSimpArgs false

theorem splice_at {α : Type} (L : List α) (off : Nat) (cs : List α) (h : off + cs.length ≤ L.length) (j : Nat) : (splice L off cs)[j]? = if j < off then L[j]? else if j < off + cs.length then cs[j - off]? else L[j]? := by
  unfold splice
  by_cases q : j < off
  · rw [if_pos q, List.getElem?_append_left (by simp; omega), List.getElem?_take, if_pos q]
  · rw [if_neg q, List.getElem?_append_right (by simp; omega)]
    have e : j - (List.take off L).length = j - off := by simp; omega
    rw [e]
    by_cases q2 : j < off + cs.length
    · rw [if_pos q2, List.getElem?_append_left (by omega)]
    · rw [if_neg q2, List.getElem?_append_right (by omega), List.getElem?_drop]
      congr 1
      omega
/-- The row of Repeat, k of it laid. -/
def RpR (w : World) (g N : Nat) (k : Nat) (wr : World) : Prop :=
  ∃ cur : List Value, wr.heap[g]? = some (.cells cur.toArray 3 (0, 0)) ∧ cur.length = N ∧ (∀ j, j < k → cur[j]? = some (.int .i64 (-1))) ∧ Below w.heap.size w wr ∧ w.heap.size ≤ g
theorem RpR.ro {w : World} {g N : Nat} {wr : World} (h : RpR w g N N wr) (hm : N ≤ maxLen) : Ro wr 1 (.slice (some ⟨g, 0, none⟩) N N) (List.replicate N (-1 : Int)).length (flt enN (List.replicate N (-1 : Int))) := by
  obtain ⟨cur, h1, h2, h3, h4, h5⟩ := h
  refine ⟨flt_length zN _, .inr ⟨g, 0, N, cur.toArray, 3, by rw [List.length_replicate], h1, by rw [List.length_replicate]; exact Nat.le_refl _, hm, by simp; omega, fun j hj => ?_⟩⟩
  rw [List.length_replicate, Nat.mul_one] at hj
  rw [Nat.zero_add]
  have e : (flt enN (List.replicate N (-1 : Int)))[j]? = some (.int .i64 (-1)) := by
    have := flt_at (en := enN) zN (l := List.replicate N (-1 : Int)) (k := j) (p := -1) (by simp [hj]) 0 (by omega)
    rw [Nat.mul_one, Nat.add_zero] at this
    rw [this]; rfl
  rw [e, ← h3 j hj]
  simp

theorem rep_made {w w2 : World} {N xb xo : Nat} {xs : List Value} (how : w2.ownsRow w.heap.size 3 1 (.slice (some ⟨w.heap.size, 0, none⟩) N N) N xs) (hgr : w.grownBy w2 none) (hxl : xb < w.heap.size) (hx : w.cell? ⟨xb, xo, none⟩ = some (.int .i64 (-1))) :
    ∃ cur : List Value, Hid (w2.heap[w.heap.size]? = some (.cells cur.toArray 3 (0, 0))) ∧ Hid (cur.length = N) ∧ Hid (Below w.heap.size w w2) ∧ Hid (∀ j v, [Value.int .i64 (-1)][j]? = some v → w2.cell? ((⟨xb, xo, none⟩ : Addr).add j) = some v) := by
  have hB2 : Below w.heap.size w w2 := ⟨hgr.os, hgr.tape, hgr.output, hgr.size, fun k hk => hgr.block k hk (by simp)⟩
  obtain ⟨hxl2, hx2⟩ := how
  rcases hx2 with ⟨e, _⟩ | ⟨g, cap, cur, e, _, hh, _, _, hsz, _⟩
  · cases e
  · cases e
    refine ⟨cur.toList, by simpa [Hid] using hh, by simpa [Hid] using hsz, hB2, fun j v hv => ?_⟩
    have hj : j < 1 := (List.getElem?_eq_some_iff.1 hv).1
    obtain rfl : j = 0 := by omega
    simp at hv
    subst hv
    rw [Go.WideShapes.add_plain]
    exact (hB2.cell (p := ⟨xb, xo, none⟩) hxl).trans hx
theorem rep_first {w w2 : World} {N xb xo xc : Nat} {cur0 : List Value} (h1 : 1 ≤ N) (hc : w2.heap[w.heap.size]? = some (.cells cur0.toArray 3 (0, 0))) (hl : cur0.length = N) (hb : Below w.heap.size w w2) (hs : ∀ j v, [Value.int .i64 (-1)][j]? = some v → w2.cell? ((⟨xb, xo, none⟩ : Addr).add j) = some v) :
    ∃ w3, (Builtin.copy_ #[27, 27] 3 #[.slice (some ⟨w.heap.size, 0, none⟩) N N, .slice (some ⟨xb, xo, none⟩) 1 xc]).run Tryd.prog w2 = .ok (.int .i64 1) w3 ∧ Hid (RpR w w.heap.size N 1 w3) := by
  have hrun := run_copy_row (P := Tryd.prog) w2 27 27 3 3 w.heap.size 0 N N ⟨xb, xo, none⟩ 1 xc cur0.toArray 3 [.int .i64 (-1)] Tryd.underlying27 (by kernel_rfl) hc (by simp [Nat.min_def]; omega) hs (by simp; omega) (by simp [Value.oneCell'])
  refine ⟨_, hrun, ⟨splice cur0 0 [.int .i64 (-1)], ?_, ?_, fun j hj => ?_, below_setRow hb (Nat.le_refl _) _, Nat.le_refl _⟩⟩
  · simpa [splice] using setRow_heap w2 w.heap.size _ _ 3 _ hc
  · rw [length_splice _ _ _ (by rw [hl]; simpa using h1)]; exact hl
  · rw [splice_at _ _ _ (by rw [hl]; simpa using h1), if_neg (by omega), if_pos (by simp; omega)]
    obtain rfl : j = 0 := by omega
    rfl
set_option maxRecDepth 100000 in
set_option maxHeartbeats 3200000 in
theorem repeat_any {w : World} {xb xo xc : Nat} (N : Nat) (h1 : 1 ≤ N) (hN : N ≤ 1048576) (hx : w.cell? ⟨xb, xo, none⟩ = some (.int .i64 (-1))) :
    Calls Tryd.prog 19 #[.slice (some ⟨xb, xo, none⟩) 1 xc, .int .i64 (N : Int)] w fun e w' => ∃ g, e = .returned (.slice (some ⟨g, 0, none⟩) N N) ∧ RpR w g N N w' := by
  obtain ⟨i0, hi0, hz0, hz1, hz2⟩ := info_parts Tryd.info3
  have HM := hide (mul_one_any w N hN)
  have c1 : ¬ (N : Int) < 0 := by omega
  have cw1 : IntKind.u64.wrap (N : Int) = (N : Int) := by go_arith
  have cw2 : IntKind.u64.wrap 1 = 1 := by decide
  have cw3 : IntKind.i64.wrap (N : Int) = (N : Int) := by go_arith
  have c2 : ¬ (9223372036854775807 : Int) < (N : Int) := by omega
  have HXL : Hid (xb < w.heap.size) := World.block_lt_of_cell? _ _ hx
  have HX := hide hx
  clear hx
  go_enter Tryd.func19, Tryd.ntmps19
  go_wp2_with fail
  refine (unhide HM).mono ?_
  rintro e w1 ⟨rfl, ew⟩
  rw [ew]
  clear ew w1 HM
  go_wp2_with (first | (at_make; refine wpList_make_full _ rfl _ _ 27 rfl w.heap.size 3 i0 _ 1 Tryd.underlying27 hi0 hz0 hz1 _ _ _ _ N rfl rfl rfl rfl (by rw [hz2]; omega) (by unfold maxLen; omega) (Nat.le_refl _) ?_; intro w2 how hgr; obtain ⟨cur0, HC0, HL0, HB2, HSRC0⟩ := rep_made how hgr (unhide HXL) (unhide HX); clear how hgr; obtain ⟨w3, hrun, HR3⟩ := rep_first (xc := xc) h1 (unhide HC0) (unhide HL0) (unhide HB2) (unhide HSRC0); clear HC0 HL0 HB2 HSRC0))
  clear hrun
  obtain ⟨g, hgg⟩ : ∃ g, g = w.heap.size := ⟨_, rfl⟩
  rw [← hgg] at HR3 ⊢
  clear hgg
  go_loopg [8] N (fun gk t8 wr => ∃ (k : Nat), Hid (k + gk ≤ N + 1 ∧ 1 ≤ k ∧ k ≤ N ∧ N - k ≤ gk) ∧ t8 = .int .i64 (k : Int) ∧ Hid (RpR w g N k wr))
  case atStart => exact ⟨1, by unfold Hid; omega, rfl, HR3⟩
  case round =>
    obtain ⟨k, hk, rfl, hR⟩ := hrel
    have hk1 := (unhide hk).2.1
    by_cases hlt : k < N
    · have i1 : (k : Int) < (N : Int) := by omega
      have i2 : (0 : Int) ≤ (k : Int) := by omega
      have i3 : (k : Int) ≤ (N : Int) := by omega
      obtain ⟨cur, hg, hcl0, hall, hbd, hgB0⟩ := unhide hR
      have HG := hide hg
      have hcl := hide hcl0
      have HALL := hide hall
      have HBD := hide hbd
      have hgB := hide hgB0
      have hsrc : ∀ j v, (List.replicate (Nat.min k (N - k)) (Value.int .i64 (-1)))[j]? = some v → wr.cell? ((⟨g, 0, none⟩ : Addr).add j) = some v := fun j v hv => by
        rw [List.getElem?_replicate] at hv
        split at hv
        · rename_i hj
          cases hv
          rw [Go.WideShapes.add_plain]
          have := hall j (by have : Nat.min k (N - k) ≤ k := Nat.min_le_left _ _; omega)
          simp [World.cell?, hg]
          simpa using this
        · cases hv
      have HSRC := hide (show ∀ j v, (List.replicate (Nat.min k (N - k)) (Value.int .i64 (-1)))[j]? = some v → wr.drew.cell? ((⟨g, 0, none⟩ : Addr).add j) = some v from hsrc)
      have HBD' : Hid (Below w.heap.size w wr.drew) := ⟨hbd.os, hbd.tape, hbd.output, hbd.size, hbd.block⟩
      have HG' : Hid (wr.drew.heap[g]? = some (.cells cur.toArray 3 (0, 0))) := hg
      clear hg hcl0 hall hbd hgB0 hsrc
      go_wp2_with fail
      refine wp_region_held_drew (S := (fun _ => True)) (by kernel_rfl) trivial (fun hHeld => ?_)
      refine wpAnyH_take (i := 0) (oi := _) (v := .int .i64 (k : Int)) rfl (by kernel_rfl) (by kernel_rfl) (by kernel_rfl) (fun _ _ _ h => h) (Or.inl ⟨by rfl, (by intro w hSw; go_simp)⟩) (by assumption) ?_
      refine wpAnyH_take (i := 1) (oi := _) (v := .slice (some ⟨g, 0, none⟩) N N) rfl (by kernel_rfl) (by kernel_rfl) (by kernel_rfl) (fun _ _ _ h => h) (Or.inl ⟨by rfl, (by intro w hSw; go_simp)⟩) (by assumption) ?_
      refine wpAnyH_take (i := 2) (oi := _) (v := .int .i64 (k : Int)) rfl (by kernel_rfl) (by kernel_rfl) (by kernel_rfl) (fun _ _ _ h => h) (Or.inl ⟨by rfl, (by intro w hSw; go_simp)⟩) (by assumption) ?_
      go_simp
      refine wpAnyH_take (i := 3) (oi := _) (v := .slice (some ⟨g, k, none⟩) (N - k) (N - k)) rfl (by kernel_rfl) (by kernel_rfl) (by kernel_rfl) (fun _ _ _ h => h) (Or.inl ⟨by rfl, (by intro w hSw; have hne : ¬ N = k := (by omega); go_simp)⟩) (by assumption) ?_
      go_simp
      refine wpAnyH_take (i := 4) (oi := _) (v := .slice (some ⟨g, 0, none⟩) N N) rfl (by kernel_rfl) (by kernel_rfl) (by kernel_rfl) (fun _ _ _ h => h) (Or.inl ⟨by rfl, (by intro w hSw; go_simp)⟩) (by assumption) ?_
      refine wpAnyH_take (i := 5) (oi := _) (v := .int .i64 (k : Int)) rfl (by kernel_rfl) (by kernel_rfl) (by kernel_rfl) (fun _ _ _ h => h) (Or.inl ⟨by rfl, (by intro w hSw; go_simp)⟩) (by assumption) ?_
      refine wpAnyH_take (i := 6) (oi := _) (v := .slice (some ⟨g, 0, none⟩) k N) rfl (by kernel_rfl) (by kernel_rfl) (by kernel_rfl) (fun _ _ _ h => h) (Or.inl ⟨by rfl, (by intro w hSw; go_simp)⟩) (by assumption) ?_
      go_simp
      refine wpAnyH_ready (rs := [7]) (by kernel_rfl) (by simp) ?_
      refine AllReadyH.cons (o := _) rfl (fun K hK => ?_) AllReadyH.nil
      refine step_copy_splice rfl (.tmp 41) (.tmp 44) 27 27 rfl 3 Tryd.underlying27 (by kernel_rfl) (some ⟨g, k, none⟩) (some ⟨g, 0, none⟩) (N - k) (N - k) k N rfl rfl g k cur 3 (unhide HG') (List.replicate (Nat.min k (N - k)) (.int .i64 (-1))) (by simp) (fun _ => ⟨rfl, ⟨g, 0, none⟩, rfl, unhide HSRC⟩) (by rw [unhide hcl, List.length_replicate]; have : Nat.min k (N - k) ≤ N - k := Nat.min_le_right _ _; omega) (by intro v hv; rw [List.eq_of_mem_replicate hv]; rfl) w.heap.size w (unhide HBD') (unhide hgB) ?_
      intro w4 hg4 hb4
      rw [List.length_replicate]
      have HG4 := hide hg4.out
      have HB4 := hide hb4
      obtain ⟨M, hM⟩ : ∃ M : Nat, Hid (Nat.min k (N - k) = M) := ⟨_, rfl⟩
      rw [unhide hM] at HG4 ⊢
      have hM1 : 1 ≤ M := by rw [← unhide hM]; exact Nat.le_min.2 ⟨hk1, by omega⟩
      have hM2 : k + M ≤ N := by have : Nat.min k (N - k) ≤ N - k := Nat.min_le_right _ _; rw [unhide hM] at this; omega
      clear hg4 hb4
      refine hK.out _ _ trivial (fun hHeld7 => ?_)
      clear hK K
      unfold goInt
      go_simp
      refine wpAnyH_take (i := 8) (oi := _) (v := .int .i64 ((k : Int) + (M : Int))) rfl (by kernel_rfl) (by kernel_rfl) (by kernel_rfl) (fun _ _ _ h => h) (Or.inl ⟨by rfl, (by intro w hSw; have hwr : IntKind.i64.wrap ((k : Int) + (M : Int)) = (k : Int) + (M : Int) := (by go_arith); go_simp)⟩) (by assumption) ?_
      go_simp
      refine wpAnyH_ready (rs := [9]) (by kernel_rfl) (by simp) ?_
      refine AllReadyH.cons (o := _) rfl (fun K hK => ?_) AllReadyH.nil
      go_simp
      refine hK.out _ _ trivial (fun hHeld9 => ?_)
      clear hK K
      go_simp
      refine wpAnyH_done (by kernel_rfl) ?_ _
      clear hHeld hHeld7 hHeld9
      have hR4 : RpR w g N (k + M) w4 := by
        refine ⟨_, unhide HG4, ?_, fun j hj => ?_, unhide HB4, unhide hgB⟩
        · rw [length_splice _ _ _ (by rw [unhide hcl]; simp; omega)]; exact unhide hcl
        · rw [splice_at _ _ _ (by rw [unhide hcl]; simp; omega)]
          by_cases q : j < k
          · rw [if_pos q]; exact unhide HALL j q
          · rw [if_neg q, if_pos (by simp; omega), List.getElem?_replicate, if_pos (by omega)]
      have HR4 := hide hR4
      clear hR4 HG4 HB4
      go_wp2_with fail
      go_roundg (gk - M)
      case measure => have := unhide hk; omega
      case rel => exact ⟨k + M, by have := unhide hk; unfold Hid; omega, by go_num, HR4⟩
    · have hkN : k = N := by have := unhide hk; omega
      subst hkN
      go_wp2_with fail
      go_ret
      exact ⟨g, rfl, unhide hR⟩
end Go.Proofs.YtiknljilfpekfaaDoor
