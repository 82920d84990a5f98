/-
  GraphAsks.
-/
import Derived.Test.YtfeombhileiamaaAll
import Derived.Deep.RegionHeld3
namespace Go.Proofs.Ytfeombhileiamaa
open Go.RowKit
set_option linter.unusedVariables false
set_option linter.unusedSimpArgs false

theorem Below.drawn {B : Nat} {w w' : World} (h : Below B w w') : Below B w w'.drew := ⟨h.os, h.tape, h.output, h.size, h.block⟩
theorem Below.heldIn {B : Nat} {w a : World} (h : Below B w a) {p : Addr} {v : Value} (hp : p.block < B) (hc : w.cell? p = some v) : a.cell? p = some v := (h.cell hp).trans hc
theorem neqb (rb : Bool) (W : World) : (binOp .neq 4 (.bool rb) (.bool rb)).run Try.prog W = .ok (.bool false) W := by cases rb <;> kernel_rfl
/-- The first of a marked list. -/
theorem Ro.unmark {w : World} {g o c U : Nat} {st : List Int} (h : Ro w 1 (.slice (some ⟨g, o, none⟩) (U + 64) c) (st ++ mrk 64).length (flt enN (st ++ mrk 64))) (hU : st.length = U) : Ro w 1 (.slice (some ⟨g, o, none⟩) U c) st.length (flt enN st) := by
  have hl : (st ++ mrk 64).length = U + 64 := by rw [List.length_append, mrk_length, hU]
  rw [hl] at h
  have k := h.upto (v := .slice (some ⟨g, o, none⟩) (U + 64) c) rfl (k := U) (by omega)
  rw [flt_take zN, List.take_left' hU] at k
  rw [hU]
  exact k

set_option maxRecDepth 100000 in
set_option maxHeartbeats 6400000 in
theorem asksLaw {w : World} {gv : Value} {st up : List Int} (pc a b : Int) (h : GV w gv st up) (hN0 : st.length ≤ 17592186043904) (hN : up.length ≤ 17592186043904) :
    Calls Try.prog 3 #[gv, .int .i64 pc, .int .i64 a, .int .i64 b] w fun e w' => e = .returned (.bool true) ∧ Below w.heap.size w w' := by
  have HV := hide h
  obtain ⟨a0, c0, a1, n1, c1, a2, n2, c2, a3, c3, a4, n4, c4, rfl, hst, hup⟩ := h
  have HST := hide hst
  have HUP := hide hup
  obtain ⟨L, hL⟩ : ∃ L, Hid (up.length = L) := ⟨_, rfl⟩
  obtain ⟨U, hU⟩ : ∃ U, Hid (st.length = U) := ⟨_, rfl⟩
  have HN := hide hN
  have HN0 := hide hN0
  rw [unhide hL] at hN
  rw [unhide hU] at hN0
  rw [unhide hL, unhide hU] at HV ⊢
  rw [unhide hL] at HUP
  rw [unhide hU] at HST
  clear hst hup
  go_enter Try.func3, Try.ntmps3
  go_wp2_with fail
  obtain ⟨w0, ew0⟩ : ∃ w0, w0 = w.alloc (.cells #[.slice a0 U c0, .slice a1 n1 c1, .slice a2 n2 c2, .slice a3 L c3, .slice a4 n4 c4] 25) := ⟨_, rfl⟩
  rw [← ew0]
  have hB0 : Below w.heap.size w w0 := by rw [ew0]; exact (Below.refl _ _).alloc (Nat.le_refl _) _
  have hsz0 : w0.heap.size = w.heap.size + 1 := by rw [ew0]; simp
  have HSZ0 := hide hsz0
  have EW0 := hide ew0
  have HB0 := hide hB0
  clear ew0 hB0 hsz0
  refine (marked_any ((unhide HST).below (unhide HB0) (Nat.le_refl _)) (unhide HN0)).mono ?_
  rintro e w1 ⟨v1, rfl, hg1⟩
  have hl1 : (st ++ mrk 64).length = U + 64 := by rw [List.length_append, mrk_length, unhide hU]
  have HL1 := hide hl1
  obtain ⟨g1, o1, d1, ev1, hd1, hd1m, _, _⟩ := hg1.1.full (by rw [hl1]; omega)
  rw [hl1] at ev1 hd1
  subst ev1
  have hb1 : Below (w.heap.size + 1) (w.alloc (.cells #[.slice a0 U c0, .slice a1 n1 c1, .slice a2 n2 c2, .slice a3 L c3, .slice a4 n4 c4] 25)) w1 := by rw [← unhide EW0, ← unhide HSZ0]; exact hg1.2.1
  obtain ⟨p0, p1, p2, p3, p4, pB1, plt1⟩ := box5 hb1
  have HG1 := hide hg1
  have HPB1 := hide pB1
  have HHb1 := hide hb1
  clear hg1 pB1 hb1 hl1
  go_wp2_with fail
  refine (marked_any ((unhide HUP).below (unhide HPB1) (Nat.le_refl _)) (unhide HN)).mono ?_
  rintro e w2 ⟨v2, rfl, hg2⟩
  have hl2 : (up ++ mrk 64).length = L + 64 := by rw [List.length_append, mrk_length, unhide hL]
  have HL2 := hide hl2
  obtain ⟨g2, o2, d2, ev2, hd2, hd2m, _, _⟩ := hg2.1.full (by rw [hl2]; omega)
  rw [hl2] at ev2 hd2
  subst ev2
  have hb2 : Below (w.heap.size + 1) (w.alloc (.cells #[.slice a0 U c0, .slice a1 n1 c1, .slice a2 n2 c2, .slice a3 L c3, .slice a4 n4 c4] 25)) w2 := (unhide HHb1).trans (hg2.2.1.mono (by have := plt1; omega))
  have HR1 := hide ((unhide HG1).1.keep (fun g hg => hg2.2.1.block g ((unhide HG1).1.lt g hg)))
  have HR2 := hide hg2.1
  clear p0 p1 p2 p3 p4
  obtain ⟨p0, p1, p2, p3, p4, pB2, plt2⟩ := box5 hb2
  have HPB2 := hide pB2
  have HHb2 := hide hb2
  clear hg2 pB2 hb2 hl2 HG1 HHb1 plt1
  have t1 : (U : Int) ≤ (d1 : Int) := by omega
  have t2 : (L : Int) ≤ (d2 : Int) := by omega
  unfold maxLen at hd1m hd2m
  go_wp2_with fail

  obtain ⟨W, eW⟩ : ∃ W, W = w2.alloc (.cells #[.slice (some ⟨g1, o1, none⟩) U d1, .slice a1 n1 c1, .slice a2 n2 c2, .slice (some ⟨g2, o2, none⟩) L d2, .slice a4 n4 c4] 25) := ⟨_, rfl⟩
  have hbw2 : Below w2.heap.size w2 W := by rw [eW]; exact (Below.refl _ _).alloc (Nat.le_refl _) _
  obtain ⟨q0, q1, q2, q3, q4, _, qlt⟩ := box5 (w := w2) (wr := W) (e := 25) (u0 := .slice (some ⟨g1, o1, none⟩) U d1) (u1 := .slice a1 n1 c1) (u2 := .slice a2 n2 c2) (u3 := .slice (some ⟨g2, o2, none⟩) L d2) (u4 := .slice a4 n4 c4) (by rw [← eW]; exact Below.refl _ _)
  have hb3 := (unhide HHb2).trans (hbw2.mono (by omega))
  clear p0 p1 p2 p3 p4
  obtain ⟨p0, p1, p2, p3, p4, pB3, plt3⟩ := box5 hb3
  have HHB := hide (show w2.heap.size < W.heap.size ∧ W.cell? ⟨w2.heap.size, 0, none⟩ = some (.slice (some ⟨g1, o1, none⟩) U d1) ∧ W.cell? ⟨w2.heap.size, 1, none⟩ = some (.slice a1 n1 c1) ∧ W.cell? ⟨w2.heap.size, 2, none⟩ = some (.slice a2 n2 c2) ∧ W.cell? ⟨w2.heap.size, 3, none⟩ = some (.slice (some ⟨g2, o2, none⟩) L d2) ∧ W.cell? ⟨w2.heap.size, 4, none⟩ = some (.slice a4 n4 c4) from ⟨qlt, q0, q1, q2, q3, q4⟩)
  have HGB := hide (show w.heap.size < W.heap.size ∧ W.cell? ⟨w.heap.size, 0, none⟩ = some (.slice a0 U c0) ∧ W.cell? ⟨w.heap.size, 1, none⟩ = some (.slice a1 n1 c1) ∧ W.cell? ⟨w.heap.size, 2, none⟩ = some (.slice a2 n2 c2) ∧ W.cell? ⟨w.heap.size, 3, none⟩ = some (.slice a3 L c3) ∧ W.cell? ⟨w.heap.size, 4, none⟩ = some (.slice a4 n4 c4) from ⟨plt3, p0, p1, p2, p3, p4⟩)
  have HR1 := hide ((unhide HR1).keep (fun g hg => hbw2.block g ((unhide HR1).lt g hg)))
  have HR2 := hide ((unhide HR2).keep (fun g hg => hbw2.block g ((unhide HR2).lt g hg)))
  have HPB3 := hide pB3
  have HGW : Hid (GV W (.agg #[.slice a0 U c0, .slice a1 n1 c1, .slice a2 n2 c2, .slice a3 L c3, .slice a4 n4 c4]) st up) := by
    have := (unhide HV).below (unhide HPB3) (Nat.le_refl _)
    exact this
  have HHW : Hid (GV W (.agg #[.slice (some ⟨g1, o1, none⟩) U d1, .slice a1 n1 c1, .slice a2 n2 c2, .slice (some ⟨g2, o2, none⟩) L d2, .slice a4 n4 c4]) st up) := by
    refine ⟨some ⟨g1, o1, none⟩, d1, a1, n1, c1, a2, n2, c2, some ⟨g2, o2, none⟩, d2, a4, n4, c4, by rw [unhide hL, unhide hU], ?_, ?_⟩
    · rw [unhide hU]; exact Rn.of_ro ((unhide HR1).unmark (unhide hU))
    · rw [unhide hL]; exact Rn.of_ro ((unhide HR2).unmark (unhide hL))
  rw [← eW]
  clear eW hbw2 hb3 q0 q1 q2 q3 q4 p0 p1 p2 p3 p4 pB3
  have hBL := fun wx (hx : Below W.heap.size W wx) => block_any pc ((unhide HHW).below hx (Nat.le_refl _))
  have hRBL := fun wx (hx : Below W.heap.size W wx) => rblock_any pc ((unhide HGW).below hx (Nat.le_refl _))
  have hDO := fun wx (hx : Below W.heap.size W wx) => dominates_any a b ((unhide HHW).below hx (Nat.le_refl _)) (unhide HN)
  have hRDO := fun wx (hx : Below W.heap.size W wx) => rdominates_any a b ((unhide HGW).below hx (Nat.le_refl _)) (unhide HN)
  have HAL := hide (fun wx (hx : Below W.heap.size W wx) => all_any b ((L : Int) + 1) ((unhide HHW).below hx (Nat.le_refl _)) (unhide HN) (by rw [unhide hL]; omega))
  have HRD := hide (fun wx (hx : Below W.heap.size W wx) => rdoms_any b ((unhide HGW).below hx (Nat.le_refl _)) (unhide HN))
  obtain ⟨RB, hRB⟩ : ∃ R, Hid (blk st pc = R) := ⟨_, rfl⟩
  obtain ⟨rb, hrb⟩ : ∃ R, Hid (decide (a ∈ dms up b) = R) := ⟨_, rfl⟩
  rw [unhide hRB] at hBL hRBL
  rw [unhide hrb] at hDO hRDO
  have HBL := hide hBL
  have HRBL := hide hRBL
  have HDO := hide hDO
  have HRDO := hide hRDO
  clear hBL hRBL hDO hRDO
  refine wp_region_held_drew (S := (fun wx => Below W.heap.size W wx)) (by kernel_rfl) (Below.drawn (Below.refl _ _)) (fun hHeld => ?_)
  refine wpAnyH_take (i := 0) (oi := _) (v := .agg #[.slice (some ⟨g1, o1, none⟩) U d1, .slice a1 n1 c1, .slice a2 n2 c2, .slice (some ⟨g2, o2, none⟩) L d2, .slice a4 n4 c4]) rfl (by kernel_rfl) (by kernel_rfl) (by kernel_rfl) (fun _ _ _ h => h) (Or.inl ⟨by rfl, (by intro w hSw; have hs0 := Below.heldIn hSw (unhide HHB).1 ((unhide HHB).2.1); have hs1 := Below.heldIn hSw (unhide HHB).1 ((unhide HHB).2.2.1); have hs2 := Below.heldIn hSw (unhide HHB).1 ((unhide HHB).2.2.2.1); have hs3 := Below.heldIn hSw (unhide HHB).1 ((unhide HHB).2.2.2.2.1); have hs4 := Below.heldIn hSw (unhide HHB).1 ((unhide HHB).2.2.2.2.2); go_simp)⟩) (by assumption) ?_
  go_simp
  refine wpAnyH_take (i := 1) (oi := _) (v := .int .i64 pc) rfl (by kernel_rfl) (by kernel_rfl) (by kernel_rfl) (fun _ _ _ h => h) (Or.inl ⟨by rfl, (by intro w hSw; go_simp)⟩) (by assumption) ?_
  refine wpAnyH_take (i := 3) (oi := _) (v := .agg #[.slice a0 U c0, .slice a1 n1 c1, .slice a2 n2 c2, .slice a3 L c3, .slice a4 n4 c4]) rfl (by kernel_rfl) (by kernel_rfl) (by kernel_rfl) (fun _ _ _ h => h) (Or.inl ⟨by rfl, (by intro w hSw; have hs0 := Below.heldIn hSw (unhide HGB).1 ((unhide HGB).2.1); have hs1 := Below.heldIn hSw (unhide HGB).1 ((unhide HGB).2.2.1); have hs2 := Below.heldIn hSw (unhide HGB).1 ((unhide HGB).2.2.2.1); have hs3 := Below.heldIn hSw (unhide HGB).1 ((unhide HGB).2.2.2.2.1); have hs4 := Below.heldIn hSw (unhide HGB).1 ((unhide HGB).2.2.2.2.2); go_simp)⟩) (by assumption) ?_
  go_simp
  refine wpAnyH_take (i := 4) (oi := _) (v := .int .i64 pc) rfl (by kernel_rfl) (by kernel_rfl) (by kernel_rfl) (fun _ _ _ h => h) (Or.inl ⟨by rfl, (by intro w hSw; go_simp)⟩) (by assumption) ?_
  refine wpAnyH_ready (rs := [2]) (by kernel_rfl) (by simp) ?_
  refine AllReadyH.cons (o := _) rfl (fun K hK => ?_) AllReadyH.nil
  go_simp
  refine (unhide HBL _ (Below.drawn (Below.refl _ _))).mono ?_
  rintro e v1 ⟨rfl, hb1⟩
  have bb1 : Below W.heap.size W v1 := ⟨hb1.os, hb1.tape, hb1.output, hb1.size, hb1.block⟩
  go_simp
  refine hK.out _ _ bb1 (fun hHeld2 => ?_)
  clear hK K
  go_simp
  refine wpAnyH_ready (rs := [5]) (by kernel_rfl) (by simp) ?_
  refine AllReadyH.cons (o := _) rfl (fun K hK => ?_) AllReadyH.nil
  go_simp
  refine (unhide HRBL _ bb1).mono ?_
  rintro e v2 ⟨rfl, hb2⟩
  have bb2 : Below W.heap.size W v2 := bb1.trans (hb2.mono bb1.size)
  go_simp
  refine hK.out _ _ bb2 (fun hHeld5 => ?_)
  clear hK K
  go_simp
  refine wpAnyH_take (i := 6) (oi := _) (v := .bool false) rfl (by kernel_rfl) (by kernel_rfl) (by kernel_rfl) (fun _ _ _ h => h) (Or.inl ⟨by rfl, (by intro w hSw; go_simp)⟩) (by assumption) ?_
  refine wpAnyH_take (i := 7) (oi := _) (v := .bool false) rfl (by kernel_rfl) (by kernel_rfl) (by kernel_rfl) (fun _ _ _ h => h) (Or.inl ⟨by rfl, (by intro w hSw; go_simp)⟩) (by assumption) ?_
  go_simp
  refine wpAnyH_take (i := 8) (oi := _) (v := .agg #[.slice (some ⟨g1, o1, none⟩) U d1, .slice a1 n1 c1, .slice a2 n2 c2, .slice (some ⟨g2, o2, none⟩) L d2, .slice a4 n4 c4]) rfl (by kernel_rfl) (by kernel_rfl) (by kernel_rfl) (fun _ _ _ h => h) (Or.inl ⟨by rfl, (by intro w hSw; have hs0 := Below.heldIn hSw (unhide HHB).1 ((unhide HHB).2.1); have hs1 := Below.heldIn hSw (unhide HHB).1 ((unhide HHB).2.2.1); have hs2 := Below.heldIn hSw (unhide HHB).1 ((unhide HHB).2.2.2.1); have hs3 := Below.heldIn hSw (unhide HHB).1 ((unhide HHB).2.2.2.2.1); have hs4 := Below.heldIn hSw (unhide HHB).1 ((unhide HHB).2.2.2.2.2); go_simp)⟩) (by assumption) ?_
  go_simp
  refine wpAnyH_take (i := 9) (oi := _) (v := .int .i64 a) rfl (by kernel_rfl) (by kernel_rfl) (by kernel_rfl) (fun _ _ _ h => h) (Or.inl ⟨by rfl, (by intro w hSw; go_simp)⟩) (by assumption) ?_
  refine wpAnyH_take (i := 10) (oi := _) (v := .int .i64 b) rfl (by kernel_rfl) (by kernel_rfl) (by kernel_rfl) (fun _ _ _ h => h) (Or.inl ⟨by rfl, (by intro w hSw; go_simp)⟩) (by assumption) ?_
  refine wpAnyH_take (i := 12) (oi := _) (v := .agg #[.slice a0 U c0, .slice a1 n1 c1, .slice a2 n2 c2, .slice a3 L c3, .slice a4 n4 c4]) rfl (by kernel_rfl) (by kernel_rfl) (by kernel_rfl) (fun _ _ _ h => h) (Or.inl ⟨by rfl, (by intro w hSw; have hs0 := Below.heldIn hSw (unhide HGB).1 ((unhide HGB).2.1); have hs1 := Below.heldIn hSw (unhide HGB).1 ((unhide HGB).2.2.1); have hs2 := Below.heldIn hSw (unhide HGB).1 ((unhide HGB).2.2.2.1); have hs3 := Below.heldIn hSw (unhide HGB).1 ((unhide HGB).2.2.2.2.1); have hs4 := Below.heldIn hSw (unhide HGB).1 ((unhide HGB).2.2.2.2.2); go_simp)⟩) (by assumption) ?_
  go_simp
  refine wpAnyH_take (i := 13) (oi := _) (v := .int .i64 a) rfl (by kernel_rfl) (by kernel_rfl) (by kernel_rfl) (fun _ _ _ h => h) (Or.inl ⟨by rfl, (by intro w hSw; go_simp)⟩) (by assumption) ?_
  refine wpAnyH_take (i := 14) (oi := _) (v := .int .i64 b) rfl (by kernel_rfl) (by kernel_rfl) (by kernel_rfl) (fun _ _ _ h => h) (Or.inl ⟨by rfl, (by intro w hSw; go_simp)⟩) (by assumption) ?_
  refine wpAnyH_ready (rs := [11]) (by kernel_rfl) (by simp) ?_
  refine AllReadyH.cons (o := _) rfl (fun K hK => ?_) AllReadyH.nil
  go_simp
  refine (unhide HDO _ bb2).mono ?_
  rintro e v3 ⟨rfl, hb3⟩
  have bb3 : Below W.heap.size W v3 := bb2.trans (hb3.mono bb2.size)
  go_simp
  refine hK.out _ _ bb3 (fun hHeld11 => ?_)
  clear hK K
  go_simp
  refine wpAnyH_ready (rs := [15]) (by kernel_rfl) (by simp) ?_
  refine AllReadyH.cons (o := _) rfl (fun K hK => ?_) AllReadyH.nil
  go_simp
  refine (unhide HRDO _ bb3).mono ?_
  rintro e v4 ⟨rfl, hb4⟩
  have bb4 : Below W.heap.size W v4 := bb3.trans (hb4.mono bb3.size)
  go_simp
  refine hK.out _ _ bb4 (fun hHeld15 => ?_)
  clear hK K
  go_simp
  refine wpAnyH_take (i := 16) (oi := _) (v := .bool false) rfl (by kernel_rfl) (by kernel_rfl) (by kernel_rfl) (fun _ _ _ h => h) (Or.inl ⟨by rfl, (by intro w hSw; have hnb := neqb rb w; go_simp)⟩) (by assumption) ?_
  refine wpAnyH_take (i := 17) (oi := _) (v := .bool false) rfl (by kernel_rfl) (by kernel_rfl) (by kernel_rfl) (fun _ _ _ h => h) (Or.inl ⟨by rfl, (by intro w hSw; go_simp)⟩) (by assumption) ?_
  go_simp
  refine wpAnyH_done (by kernel_rfl) ?_ _
  clear hHeld hHeld2 hHeld5 hHeld11 hHeld15
  have HB4 := hide bb4
  clear hb1 hb2 hb3 hb4 bb1 bb2 bb3 bb4
  go_wp2_with fail
  refine wp_region_held_drew (S := (fun wx => Below W.heap.size W wx)) (by kernel_rfl) (Below.drawn (unhide HB4)) (fun hHeld => ?_)
  refine wpAnyH_take (i := 0) (oi := _) (v := .agg #[.slice (some ⟨g1, o1, none⟩) U d1, .slice a1 n1 c1, .slice a2 n2 c2, .slice (some ⟨g2, o2, none⟩) L d2, .slice a4 n4 c4]) rfl (by kernel_rfl) (by kernel_rfl) (by kernel_rfl) (fun _ _ _ h => h) (Or.inl ⟨by rfl, (by intro w hSw; have hs0 := Below.heldIn hSw (unhide HHB).1 ((unhide HHB).2.1); have hs1 := Below.heldIn hSw (unhide HHB).1 ((unhide HHB).2.2.1); have hs2 := Below.heldIn hSw (unhide HHB).1 ((unhide HHB).2.2.2.1); have hs3 := Below.heldIn hSw (unhide HHB).1 ((unhide HHB).2.2.2.2.1); have hs4 := Below.heldIn hSw (unhide HHB).1 ((unhide HHB).2.2.2.2.2); go_simp)⟩) (by assumption) ?_
  go_simp
  refine wpAnyH_take (i := 1) (oi := _) (v := .int .i64 b) rfl (by kernel_rfl) (by kernel_rfl) (by kernel_rfl) (fun _ _ _ h => h) (Or.inl ⟨by rfl, (by intro w hSw; go_simp)⟩) (by assumption) ?_
  refine wpAnyH_take (i := 2) (oi := _) (v := .pointer (some ⟨w.heap.size, 3, none⟩)) rfl (by kernel_rfl) (by kernel_rfl) (by kernel_rfl) (fun _ _ _ h => h) (Or.inl ⟨by rfl, (by intro w hSw; go_simp)⟩) (by assumption) ?_
  refine wpAnyH_take (i := 3) (oi := _) (v := .slice a3 L c3) rfl (by kernel_rfl) (by kernel_rfl) (by kernel_rfl) (fun _ _ _ h => h) (Or.inl ⟨by rfl, (by intro w hSw; have hs3 := Below.heldIn hSw (unhide HGB).1 ((unhide HGB).2.2.2.2.1); go_simp)⟩) (by assumption) ?_
  go_simp
  refine wpAnyH_take (i := 4) (oi := _) (v := .int .i64 (L : Int)) rfl (by kernel_rfl) (by kernel_rfl) (by kernel_rfl) (fun _ _ _ h => h) (Or.inl ⟨by rfl, (by intro w hSw; go_simp)⟩) (by assumption) ?_
  refine wpAnyH_take (i := 5) (oi := _) (v := .int .i64 ((L : Int) + 1)) rfl (by kernel_rfl) (by kernel_rfl) (by kernel_rfl) (fun _ _ _ h => h) (Or.inl ⟨by rfl, (by intro w hSw; have hwr : IntKind.i64.wrap ((L : Int) + 1) = (L : Int) + 1 := (by go_arith); go_simp)⟩) (by assumption) ?_
  go_simp
  refine wpAnyH_take (i := 7) (oi := _) (v := .agg #[.slice a0 U c0, .slice a1 n1 c1, .slice a2 n2 c2, .slice a3 L c3, .slice a4 n4 c4]) rfl (by kernel_rfl) (by kernel_rfl) (by kernel_rfl) (fun _ _ _ h => h) (Or.inl ⟨by rfl, (by intro w hSw; have hs0 := Below.heldIn hSw (unhide HGB).1 ((unhide HGB).2.1); have hs1 := Below.heldIn hSw (unhide HGB).1 ((unhide HGB).2.2.1); have hs2 := Below.heldIn hSw (unhide HGB).1 ((unhide HGB).2.2.2.1); have hs3 := Below.heldIn hSw (unhide HGB).1 ((unhide HGB).2.2.2.2.1); have hs4 := Below.heldIn hSw (unhide HGB).1 ((unhide HGB).2.2.2.2.2); go_simp)⟩) (by assumption) ?_
  go_simp
  refine wpAnyH_take (i := 8) (oi := _) (v := .int .i64 b) rfl (by kernel_rfl) (by kernel_rfl) (by kernel_rfl) (fun _ _ _ h => h) (Or.inl ⟨by rfl, (by intro w hSw; go_simp)⟩) (by assumption) ?_
  refine wpAnyH_ready (rs := [6]) (by kernel_rfl) (by simp) ?_
  refine AllReadyH.cons (o := _) rfl (fun K hK => ?_) AllReadyH.nil
  go_simp
  refine (unhide HAL _ (Below.drawn (unhide HB4))).mono ?_
  rintro e v5 ⟨r5, rfl, hg5⟩
  have bb5 : Below W.heap.size W v5 := (Below.drawn (unhide HB4)).trans (hg5.2.1.mono (unhide HB4).size)
  have HR5 := hide hg5.1
  obtain ⟨ra, rc, er, _, _⟩ := hg5.1.shape
  subst er
  clear hg5
  go_simp
  refine hK.out _ _ bb5 (fun hHeld6 => ?_)
  clear hK K
  go_simp
  refine wpAnyH_ready (rs := [9]) (by kernel_rfl) (by simp) ?_
  refine AllReadyH.cons (o := _) rfl (fun K hK => ?_) AllReadyH.nil
  go_simp
  refine (unhide HRD _ bb5).mono ?_
  rintro e v6 ⟨r6, rfl, hg6⟩
  have bb6 : Below W.heap.size W v6 := bb5.trans (hg6.2.1.mono bb5.size)
  have HR6 := hide hg6.1
  have HR5' := hide ((unhide HR5).keep (fun g hg => hg6.2.1.block g ((unhide HR5).lt g hg)))
  obtain ⟨sa, sc, er, _, _⟩ := hg6.1.shape
  subst er
  clear hg6
  go_simp
  refine hK.out _ _ bb6 (fun hHeld9 => ?_)
  clear hK K
  go_simp
  refine wpAnyH_ready (rs := [10]) (by kernel_rfl) (by simp) ?_
  refine AllReadyH.cons (o := _) rfl (fun K hK => ?_) AllReadyH.nil
  go_simp
  refine (sameN_any (Rn.of_ro (unhide HR5')) (Rn.of_ro (unhide HR6))).mono ?_
  rintro e v7 ⟨rfl, k7, ev7⟩
  have bb7 : Below W.heap.size W v7 := by rw [ev7]; exact bb6.trans ((Fr.drewN (S := fun _ => False) k7).below bb6.size (fun _ _ e => e))
  clear ev7
  go_simp
  refine hK.out _ _ bb7 (fun hHeld10 => ?_)
  clear hK K
  go_simp
  refine wpAnyH_take (i := 11) (oi := _) (v := .bool false) rfl (by kernel_rfl) (by kernel_rfl) (by kernel_rfl) (fun _ _ _ h => h) (Or.inl ⟨by rfl, (by intro w hSw; go_simp)⟩) (by assumption) ?_
  go_simp
  refine wpAnyH_done (by kernel_rfl) ?_ _
  clear hHeld hHeld6 hHeld9 hHeld10 HR5 HR5' HR6
  have HB7 := hide bb7
  clear bb5 bb6 bb7
  have gp := fun j => (unhide HB7).cell (p := ⟨w.heap.size, j, none⟩) (unhide HGB).1
  have p0 := (gp 0).trans (unhide HGB).2.1
  have p3 := (gp 3).trans (unhide HGB).2.2.2.2.1
  have plt7 : w.heap.size < v7.heap.size := Nat.lt_of_lt_of_le (unhide HGB).1 (unhide HB7).size
  clear gp
  go_wp2_with fail
  have hwv7 : Below w.heap.size w v7 := (unhide HPB3).trans ((unhide HB7).mono (by have := (unhide HGB).1; omega))
  have HWV7 := hide hwv7
  clear hwv7
  refine (marked_any ((unhide HST).below (unhide HWV7) (Nat.le_refl _)) (unhide HN0)).mono ?_
  rintro e w8 ⟨v8, rfl, hg8⟩
  have HR8 := hide hg8.1
  have hB8 : Below v7.heap.size v7 w8 := hg8.2.1
  have HB8 := hide hB8
  have r1 := (unhide HR1).keep (fun g hg => (hB8.block g (Nat.lt_of_lt_of_le ((unhide HR1).lt g hg) (unhide HB7).size)).trans ((unhide HB7).block g ((unhide HR1).lt g hg)))
  have HSM := hide (sameN_any (Rn.of_ro r1) (Rn.of_ro hg8.1))
  have p38 := (hB8.cell (p := ⟨w.heap.size, 3, none⟩) plt7).trans p3
  have plt8 : w.heap.size < w8.heap.size := Nat.lt_of_lt_of_le plt7 hB8.size
  obtain ⟨ga, gc, ev8, _, _⟩ := hg8.1.shape
  rw [unhide HL1] at ev8
  subst ev8
  clear hg8 hB8 r1 p0 p3
  go_wp2_with fail
  refine (unhide HSM).mono ?_
  rintro e w9 ⟨rfl, k9, ew9⟩
  have p39 : w9.cell? ⟨w.heap.size, 3, none⟩ = some (.slice a3 L c3) := by rw [ew9]; exact p38
  have plt9 : w.heap.size < w9.heap.size := by rw [ew9]; exact plt8
  have hB9 : Below v7.heap.size v7 w9 := by rw [ew9]; exact (unhide HB8).trans ((Fr.drewN (S := fun _ => False) k9).below (unhide HB8).size (fun _ _ e => e))
  have HB9 := hide hB9
  clear ew9 hB9 p38 plt8 HSM
  go_wp2_with fail
  have hwv9 : Below w.heap.size w w9 := (unhide HWV7).trans ((unhide HB9).mono (by omega))
  have HWV9 := hide hwv9
  clear hwv9
  refine (marked_any ((unhide HUP).below (unhide HWV9) (Nat.le_refl _)) (unhide HN)).mono ?_
  rintro e w10 ⟨v10, rfl, hg10⟩
  have hB10 : Below w9.heap.size w9 w10 := hg10.2.1
  have r2 := (unhide HR2).keep (fun g hg => (hB10.block g (Nat.lt_of_lt_of_le ((unhide HR2).lt g hg) (Nat.le_trans (unhide HB7).size (unhide HB9).size))).trans (((unhide HB9).block g (Nat.lt_of_lt_of_le ((unhide HR2).lt g hg) (unhide HB7).size)).trans ((unhide HB7).block g ((unhide HR2).lt g hg))))
  have HSM := hide (sameN_any (Rn.of_ro r2) (Rn.of_ro hg10.1))
  have HWV10 : Hid (Below w.heap.size w w10) := (unhide HWV9).trans (hB10.mono (by omega))
  obtain ⟨ga2, gc2, ev10, _, _⟩ := hg10.1.shape
  rw [unhide HL2] at ev10
  subst ev10
  clear hg10 hB10 r2
  go_wp2_with fail
  refine (unhide HSM).mono ?_
  rintro e w11 ⟨rfl, k11, ew11⟩
  have HB11 : Hid (Below w.heap.size w w11) := by rw [ew11]; exact (unhide HWV10).trans ((Fr.drewN (S := fun _ => False) k11).below (unhide HWV10).size (fun _ _ e => e))
  clear ew11 HSM
  go_wp2_with fail
  go_ret
  exact ⟨rfl, unhide HB11⟩
end Go.Proofs.Ytfeombhileiamaa
