/-
  The law.
-/
import Derived.Test.YtiknljilfpekfaaDoorK6
namespace Go.Proofs.YtiknljilfpekfaaDoor
open Go.RowKit
set_option linter.unusedVariables false
set_option linter.unusedSimpArgs false
set_option maxRecDepth 100000 in
set_option maxHeartbeats 6400000 in
theorem knownLaw {w : World} (hg : Laid w) : Calls Tryd.prog 3 #[] w fun e w' => e = .returned (.bool true) ∧ Below w.heap.size w w' := by
  have gl : 0 < w.heap.size := World.block_lt_of_cell? _ _ hg
  have HLG := hide hg
  have HBw : Hid (Below w.heap.size w w) := Below.refl _ _
  clear hg
  go_enter Tryd.func3, Tryd.ntmps3
  go_wp2_with fail
  obtain ⟨W1, eW1⟩ : ∃ W1, W1 = w.alloc (.cells #[.int .i64 2, .int .i64 41, .int .i64 1, .int .i64 44, .int .i64 1, .int .i64 44] 3) := ⟨_, rfl⟩
  rw [← eW1]
  have bW1 : Below w.heap.size w W1 := by rw [eW1]; exact (Below.refl _ _).alloc (Nat.le_refl _) _
  have nW1 : Rn W1 (.slice (some ⟨w.heap.size, 0, none⟩) 6 6) [2, 41, 1, 44, 1, 44] := by
    rw [eW1]; exact Rx.of_ro (roNew _ _ 3 rfl (by unfold maxLen; simp) (by first | rfl | assumption))
  refine (func1_any nW1 (by simp)).mono ?_
  rintro e W2 ⟨v, rfl, hG⟩
  obtain ⟨cv, rfl, rc, ro, bW2⟩ := hG
  obtain ⟨cbW2, coW2, ccW2, ec, _, _, lcW2, kcW2⟩ := rc.full (by simp)
  simp only [List.length_map, List.length_cons, List.length_nil, Nat.zero_add, Nat.reduceAdd] at ec
  subst ec
  have HRW2 := hide rc
  have hoW2 := ro cbW2 rfl
  have HBW2 : Hid (Below w.heap.size w W2) := ((unhide HBw).trans (bW1.mono (unhide HBw).size)).trans (bW2.mono (Nat.le_trans (unhide HBw).size bW1.size))
  have HSW2 : Hid (Below w.heap.size w W2) := bW1.trans (bW2.mono bW1.size)
  have hzW2 := bW1.size
  have kcW2_3 := kcW2 3 (by simp)
  simp [flt, enI] at kcW2_3
  have kfW2_3 := (unhide HRW2).free rfl (coW2 + 3)
  clear kcW2 rc ro bW1 bW2 nW1 eW1
  go_wp2_with fail
  obtain ⟨W3, eW3⟩ : ∃ W3, W3 = (W2.setCell ⟨cbW2, coW2 + 2 + 1, none⟩ (.int .i64 4)).alloc (.cells #[.string ⟨#[109, 97, 105, 110]⟩, .int .i64 0, .int .i64 0, .slice (some ⟨cbW2, coW2, none⟩) 6 ccW2, .slice none 0 0] 25) := ⟨_, rfl⟩
  rw [← eW3]
  have F3 : Fr (fun k => k = cbW2) W2 W3 := by rw [eW3]; exact ((Fr.refl (fun k => k = cbW2) W2).cellset _ _ _ rfl).alloc _
  have HBW3 : Hid (Below w.heap.size w W3) := (unhide HBW2).trans (F3.below (unhide HBW2).size (fun k hk e => by omega))
  have HX3 : Hid (Ro W3 5 (.slice (some ⟨W2.heap.size, 0, none⟩) 1 1) 1 [.string ⟨#[109, 97, 105, 110]⟩, .int .i64 0, .int .i64 0, .slice (some ⟨cbW2, coW2, none⟩) 6 ccW2, .slice none 0 0]) := by
    rw [eW3]; exact B5.new (by simp)
  have HR3 : Hid (Ro W3 2 (.slice (some ⟨cbW2, coW2, none⟩) 6 ccW2) 6 (flt enI k_A.code)) := by
    rw [eW3]
    exact ((unhide HRW2).set1 3 (by simp) (.int .i64 4)).fr (S := fun _ => False) ((Fr.refl _ _).alloc _) (fun _ _ e => e)
  have HF3 : Hid (FnV W3 k_A ⟨mainB, 0, 0, .slice (some ⟨cbW2, coW2, none⟩) 6 ccW2, .slice none 0 0⟩) := ⟨rfl, rfl, rfl, Rx.of_ro (unhide HR3), by simpa [flt, k_A, fnc] using Rx.nil W3 4⟩
  have s3 : W3.heap.size = W2.heap.size + 1 := by rw [eW3]; simp
  clear F3 eW3 HRW2 kcW2_3 kfW2_3
  have HCW4 := hide (one_any (unhide HF3))
  refine (unhide HCW4).mono ?_
  rintro e W4 ⟨pvW4, rfl, hPW4, hBW4⟩
  have HBW4 : Hid (Below w.heap.size w W4) := (unhide HBW3).trans (hBW4.mono (unhide HBW3).size)
  have HSW4 := hide hBW4
  have HDW4 := hide (program_any hPW4 (okp_one (f := k_A) rfl (by decide)) (((unhide HBW4).cell (p := ⟨0, 0, none⟩) gl).trans (unhide HLG)))
  clear HCW4 hPW4 hBW4
  go_wp2_with fail
  refine (unhide HDW4).mono ?_
  rintro e W5 ⟨fa, L, k, a, er, rfl, hV, hBW5, hn, hs⟩
  have HBW5 : Hid (Below w.heap.size w W5) := (unhide HBW4).trans (hBW5.mono (unhide HBW4).size)
  have HSW5 : Hid (Below W3.heap.size W3 W5) := (unhide HSW4).trans (hBW5.mono (unhide HSW4).size)
  clear hBW5 HDW4
  obtain ⟨rfl, rfl, rfl, rfl⟩ := vp_A hV
  obtain ⟨hv, mv, rfl, vs, R1, R2, R3, R4, R5⟩ := hs _ rfl
  have hvl := R1.1
  obtain ⟨u, rfl⟩ : ∃ u, vs = [u] := by
    match vs, hvl with
    | [u], _ => exact ⟨u, rfl⟩
  obtain ⟨RU, RUK⟩ := R2 0 h_A u rfl rfl
  obtain ⟨hb2, ho2, hc2, eh, _, _, lh2, kh⟩ := R1.full (by simp)
  have kh0 := kh 0 (by simp)
  rw [Nat.add_zero] at kh0
  simp only [List.getElem?_cons_zero] at kh0
  simp only [List.length_cons, List.length_nil, Nat.zero_add] at eh
  subst eh
  obtain ⟨ua, uc, eu, _, _⟩ := RU.shape
  rw [show h_A.length = 6 from rfl] at eu
  subst eu
  obtain ⟨ma, mc, em, _, _⟩ := R3.shape
  simp only [List.length_cons, List.length_nil, Nat.zero_add] at em
  subst em
  have hsz := (unhide HSW4).size
  have KH : W4.heap.size ≤ hb2 := R4 hb2 rfl
  have HKH := hide kh0
  have HRU := hide RU
  have HUK := hide RUK
  have HX5 := hide ((unhide HX3).keep (fun g hg => (unhide HSW5).block g ((unhide HX3).lt g hg)))
  have HR5 := hide ((unhide HR3).keep (fun g hg => (unhide HSW5).block g ((unhide HR3).lt g hg)))
  obtain ⟨x0, x1, x2, x3, x4⟩ := B5.cells (unhide HX5)
  have lx := World.block_lt_of_cell? _ _ x0
  have xf3 := (unhide HX5).free rfl 3
  have lc5 : cbW2 < W5.heap.size := by omega
  obtain ⟨_, _, _, e5, _, _, _, kc⟩ := (unhide HR5).full (by omega)
  cases e5
  have c3 := kc 3 (by omega)
  have c6 := kc 6 (by omega)
  have c8 := kc 8 (by omega)
  simp [flt, enI, k_A, fnc] at c3 c6 c8
  have f3 := (unhide HR5).free rfl (coW2 + 3)
  have f6 := (unhide HR5).free rfl (coW2 + 6)
  have f8 := (unhide HR5).free rfl (coW2 + 8)
  have ne1 : cbW2 ≠ W2.heap.size := by omega
  have ne2 : W2.heap.size ≠ cbW2 := by omega
  clear R1 R2 R3 R4 R5 kh kh0 hV hn hs HF3 RU RUK hvl HX3 HR3 kc
  go_wp2_with fail
  obtain ⟨W6, eW6⟩ : ∃ W6, W6 = (((((W5.setCell ⟨W2.heap.size, 3, none⟩ (.slice (some ⟨cbW2, coW2, none⟩) 5 ccW2)).setCell ⟨cbW2, coW2 + 2 + 1, none⟩ (.int .i64 3)).setCell ⟨cbW2, coW2 + 6, none⟩ (.int .i64 1)).setCell ⟨cbW2, coW2 + 8, none⟩ (.int .i64 44)).alloc (.cells #[.slice (some ⟨hb2, ho2, none⟩) 1 hc2, .slice ma 1 mc] 32)).alloc (.cells #[.int .i64 0, .int .i64 0] 34) := ⟨_, rfl⟩
  rw [← eW6]
  have F6 : Fr (fun k => k = W2.heap.size ∨ k = cbW2) W5 W6 := by
    rw [eW6]
    exact ((((((Fr.refl (fun k => k = W2.heap.size ∨ k = cbW2) W5).cellset _ _ _ (.inl rfl)).cellset _ _ _ (.inr rfl)).cellset _ _ _ (.inr rfl)).cellset _ _ _ (.inr rfl)).alloc _).alloc _
  have hs2 := (unhide HBW2).size
  have HBW6 : Hid (Below w.heap.size w W6) := (unhide HBW5).trans (F6.below (unhide HBW5).size (fun k hk e => by rcases e with e | e <;> omega))
  have HXA6 : Hid (Ro W6 2 (.slice (some ⟨W5.heap.size, 0, none⟩) 1 1) 1 [.slice (some ⟨hb2, ho2, none⟩) 1 hc2, .slice ma 1 mc]) := by
    rw [eW6]; exact (B2n (by simp)).fr (S := fun _ => False) ((Fr.refl _ _).alloc _) (fun _ _ e => e)
  have RB : Ro W6 2 (.slice (some ⟨cbW2, coW2, none⟩) 5 ccW2) 5 (flt enI k_B.code) := by
    rw [eW6]
    exact ((((((((unhide HR5).fr (S := fun k => k = W2.heap.size) ((Fr.refl _ _).cellset _ _ _ rfl) (fun k hk e => by cases hk; exact ne1 e)).set1 3 (by omega) (.int .i64 3)).set1 6 (by omega) (.int .i64 1)).set1 8 (by omega) (.int .i64 44)).fr (S := fun _ => False) ((Fr.refl _ _).alloc _) (fun _ _ e => e)).fr (S := fun _ => False) ((Fr.refl _ _).alloc _) (fun _ _ e => e)).pre (m := 5) (by omega))
  have HF6 : Hid (FnV W6 k_B ⟨mainB, 0, 0, .slice (some ⟨cbW2, coW2, none⟩) 5 ccW2, .slice none 0 0⟩) := ⟨rfl, rfl, rfl, Rx.of_ro RB, by simpa [flt, k_B, fnc] using Rx.nil W6 4⟩
  have HU6 := hide ((unhide HRU).fr F6 (fun k hk e => by have := unhide HUK k hk; rcases e with e | e <;> omega))
  have KH6 : Hid (W6.cell? ⟨hb2, ho2, none⟩ = some (.slice ua 6 uc)) := (F6.cell (a := ⟨hb2, ho2, none⟩) lh2 (fun e => by simp only at e; rcases e with e | e <;> omega)).trans (unhide HKH)
  have lh6 := Nat.lt_of_lt_of_le lh2 F6.size
  clear F6 eW6 RB x0 x1 x2 x3 x4 lx xf3 lc5 c3 c6 c8 f3 f6 f8 ne1 ne2 HX5 HR5 HRU HUK HKH lh2 KH
  have HCW7 := hide (one_any (unhide HF6))
  refine (unhide HCW7).mono ?_
  rintro e W7 ⟨pvW7, rfl, hPW7, hBW7⟩
  have HBW7 : Hid (Below w.heap.size w W7) := (unhide HBW6).trans (hBW7.mono (unhide HBW6).size)
  have HSW7 := hide hBW7
  have HDW7 := hide (program_any hPW7 (okp_one (f := k_B) rfl (by decide)) (((unhide HBW7).cell (p := ⟨0, 0, none⟩) gl).trans (unhide HLG)))
  clear HCW7 hPW7 hBW7
  go_wp2_with fail
  refine (unhide HDW7).mono ?_
  rintro e W8 ⟨fa, L, k, a, er, rfl, hV, hBW8, hn, hs⟩
  have HBW8 : Hid (Below w.heap.size w W8) := (unhide HBW7).trans (hBW8.mono (unhide HBW7).size)
  have HSW8 : Hid (Below W6.heap.size W6 W8) := (unhide HSW7).trans (hBW8.mono (unhide HSW7).size)
  clear hBW8 HDW7
  obtain ⟨rfl, rfl, rfl, rfl⟩ := vp_B hV
  have hfa := hn rfl
  subst hfa
  have HXA8 := hide ((unhide HXA6).keep (fun g hg => (unhide HSW8).block g ((unhide HXA6).lt g hg)))
  have HU8 := hide ((unhide HU6).keep (fun g hg => (unhide HSW8).block g ((unhide HU6).lt g hg)))
  have kh8 : W8.cell? ⟨hb2, ho2, none⟩ = some (.slice ua 6 uc) := ((unhide HSW8).cell (p := ⟨hb2, ho2, none⟩) lh6).trans (unhide KH6)
  have lh8 := Nat.lt_of_lt_of_le lh6 (unhide HSW8).size
  obtain ⟨x0, x1⟩ := B2.cells (unhide HXA8)
  have lx := World.block_lt_of_cell? _ _ x0
  clear hV hn hs HF6 HXA6 HU6 KH6 lh6
  go_wp2_with fail
  obtain ⟨W9, eW9⟩ : ∃ W9, W9 = ((W8.alloc (.cells #[.slice none 0 0, .slice none 0 0] 32)).alloc (.cells #[.int .i64 0, .int .i64 3] 34)).alloc (.cells #[.int .i64 0, .int .i64 1, .int .i64 0, .int .i64 1, .int .i64 0, .int .i64 1] 3) := ⟨_, rfl⟩
  rw [← eW9]
  have F9 : Fr (fun _ => False) W8 W9 := by rw [eW9]; exact (((Fr.refl _ W8).alloc _).alloc _).alloc _
  have HB9 : Hid (Below w.heap.size w W9) := (unhide HBW8).trans (F9.below (unhide HBW8).size (fun _ _ e => e))
  have n9 : Rn W9 (.slice (some ⟨W8.heap.size + 1 + 1, 0, none⟩) 6 6) h_A := by
    rw [eW9]; exact Rx.of_ro (roNew _ _ 3 rfl (by unfold maxLen; simp [h_A]) (by simp))
  have HP9 : Hid (Ro W9 2 (.slice (some ⟨W8.heap.size + 1, 0, none⟩) 1 1) 1 [.int .i64 0, .int .i64 3]) := by
    rw [eW9]; exact (B2n (by simp)).fr (S := fun _ => False) ((Fr.refl _ _).alloc _) (fun _ _ e => e)
  have HS9 := hide (sameN_any (Rx.of_ro ((unhide HU8).fr F9 (fun _ _ e => e)) : Rn W9 (.slice ua 6 uc) h_A) n9)
  clear F9 n9 eW9 x0 x1 lx kh8 lh8 HXA8 HU8
  refine (unhide HS9).mono ?_
  rintro e W10 ⟨rfl, kk, eW10⟩
  have HBW10 : Hid (Below w.heap.size w W10) := by rw [eW10]; exact Go.Proofs.YtiknljilfpekfaaDoor.Below.drewN (unhide HB9) kk
  have HP10 : Hid (Ro W10 2 (.slice (some ⟨W8.heap.size + 1, 0, none⟩) 1 1) 1 [.int .i64 0, .int .i64 3]) := by rw [eW10]; exact (unhide HP9).fr (S := fun _ => False) (Fr.drewN kk) (fun _ _ e => e)
  obtain ⟨p0, p1⟩ := B2.cells (unhide HP10)
  have lp := World.block_lt_of_cell? _ _ p0
  clear eW10 HS9 HP9
  go_wp2_with fail
  obtain ⟨W11, eW11⟩ : ∃ W11, W11 = W10.alloc (.cells #[.int .i64 1, .int .i64 40] 3) := ⟨_, rfl⟩
  rw [← eW11]
  have bW11 : Below W10.heap.size W10 W11 := by rw [eW11]; exact (Below.refl _ _).alloc (Nat.le_refl _) _
  have nW11 : Rn W11 (.slice (some ⟨W10.heap.size, 0, none⟩) 2 2) [1, 40] := by
    rw [eW11]; exact Rx.of_ro (roNew _ _ 3 rfl (by unfold maxLen; simp) (by first | rfl | assumption))
  refine (func1_any nW11 (by simp)).mono ?_
  rintro e W12 ⟨v, rfl, hG⟩
  obtain ⟨cv, rfl, rc, ro, bW12⟩ := hG
  obtain ⟨cbW12, coW12, ccW12, ec, _, _, lcW12, kcW12⟩ := rc.full (by simp)
  simp only [List.length_map, List.length_cons, List.length_nil, Nat.zero_add, Nat.reduceAdd] at ec
  subst ec
  have HRW12 := hide rc
  have hoW12 := ro cbW12 rfl
  have HBW12 : Hid (Below w.heap.size w W12) := ((unhide HBW10).trans (bW11.mono (unhide HBW10).size)).trans (bW12.mono (Nat.le_trans (unhide HBW10).size bW11.size))
  have HSW12 : Hid (Below W10.heap.size W10 W12) := bW11.trans (bW12.mono bW11.size)
  have hzW12 := bW11.size
  clear kcW12 rc ro bW11 bW12 nW11 eW11
  clear p0 p1 lp
  have HF12 : Hid (FnV W12 k_C ⟨mainB, 0, 0, .slice (some ⟨cbW12, coW12, none⟩) 2 ccW12, .slice none 0 0⟩) := fnv_of (unhide HRW12)
  have HCW13 := hide (one_any (unhide HF12))
  go_wp2_with fail
  refine (unhide HCW13).mono ?_
  rintro e W13 ⟨pvW13, rfl, hPW13, hBW13⟩
  have HBW13 : Hid (Below w.heap.size w W13) := (unhide HBW12).trans (hBW13.mono (unhide HBW12).size)
  have HSW13 := hide hBW13
  have HDW13 := hide (program_any hPW13 (okp_one (f := k_C) rfl (by decide)) (((unhide HBW13).cell (p := ⟨0, 0, none⟩) gl).trans (unhide HLG)))
  clear HCW13 hPW13 hBW13
  go_wp2_with fail
  refine (unhide HDW13).mono ?_
  rintro e W14 ⟨fa, L, k, a, er, rfl, hV, hBW14, hn, hs⟩
  have HBW14 : Hid (Below w.heap.size w W14) := (unhide HBW13).trans (hBW14.mono (unhide HBW13).size)
  have HSW14 : Hid (Below W12.heap.size W12 W14) := (unhide HSW13).trans (hBW14.mono (unhide HSW13).size)
  clear hBW14 HDW13
  obtain ⟨rfl, rfl, rfl, rfl⟩ := vp_C hV
  have hfa := hn rfl
  subst hfa
  have HP12 := hide ((unhide HP10).keep (fun g hg => (unhide HSW12).block g ((unhide HP10).lt g hg)))
  have HP14 := hide ((unhide HP12).keep (fun g hg => (unhide HSW14).block g ((unhide HP12).lt g hg)))
  obtain ⟨p0, p1⟩ := B2.cells (unhide HP14)
  have lp := World.block_lt_of_cell? _ _ p0
  have pf0 := (unhide HP14).free rfl 0
  have pf1 := (unhide HP14).free rfl 1
  clear hV hn hs HF12 HP10 HP12 HRW12
  go_wp2_with fail
  obtain ⟨W15, eW15⟩ : ∃ W15, W15 = (W14.setCell ⟨W8.heap.size + 1, 0, none⟩ (.int .i64 0)).setCell ⟨W8.heap.size + 1, 1, none⟩ (.int .i64 0) := ⟨_, rfl⟩
  rw [← eW15]
  have s15 : W15.heap.size = W14.heap.size := by rw [eW15]; simp
  have hs8 := (unhide HBW8).size
  have F15 : Fr (fun k => k = W8.heap.size + 1) W14 W15 := by rw [eW15]; exact ((Fr.refl (fun k => k = W8.heap.size + 1) W14).cellset _ _ _ rfl).cellset _ _ _ rfl
  have HBW15 : Hid (Below w.heap.size w W15) := (unhide HBW14).trans (F15.below (unhide HBW14).size (fun k hk e => by omega))
  have HP15 : Hid (Ro W15 2 (.slice (some ⟨W8.heap.size + 1, 0, none⟩) 1 1) 1 [.int .i64 0, .int .i64 0]) := by
    unfold Hid; rw [eW15]; have r := B2.put (unhide HP14) (.int .i64 0) (.int .i64 0); simpa [World.setCells] using r
  clear F15 eW15 p0 p1 lp pf0 pf1 HP14
  obtain ⟨W16, eW16⟩ : ∃ W16, W16 = W15.alloc (.cells #[.int .i64 1, .int .i64 7] 3) := ⟨_, rfl⟩
  rw [← eW16]
  have bW16 : Below W15.heap.size W15 W16 := by rw [eW16]; exact (Below.refl _ _).alloc (Nat.le_refl _) _
  have nW16 : Rn W16 (.slice (some ⟨W14.heap.size, 0, none⟩) 2 2) [1, 7] := by
    rw [eW16]; exact Rx.of_ro (roNew _ _ 3 rfl (by unfold maxLen; simp) (by first | rfl | assumption))
  refine (func1_any nW16 (by simp)).mono ?_
  rintro e W17 ⟨v, rfl, hG⟩
  obtain ⟨cv, rfl, rc, ro, bW17⟩ := hG
  obtain ⟨cbW17, coW17, ccW17, ec, _, _, lcW17, kcW17⟩ := rc.full (by simp)
  simp only [List.length_map, List.length_cons, List.length_nil, Nat.zero_add, Nat.reduceAdd] at ec
  subst ec
  have HRW17 := hide rc
  have hoW17 := ro cbW17 rfl
  have HBW17 : Hid (Below w.heap.size w W17) := ((unhide HBW15).trans (bW16.mono (unhide HBW15).size)).trans (bW17.mono (Nat.le_trans (unhide HBW15).size bW16.size))
  have HSW17 : Hid (Below W15.heap.size W15 W17) := bW16.trans (bW17.mono bW16.size)
  have hzW17 := bW16.size
  clear kcW17 rc ro bW16 bW17 nW16 eW16
  have HF17 : Hid (FnV W17 k_D ⟨mainB, 0, 0, .slice (some ⟨cbW17, coW17, none⟩) 2 ccW17, .slice none 0 0⟩) := fnv_of (unhide HRW17)
  have HCW18 := hide (one_any (unhide HF17))
  go_wp2_with fail
  refine (unhide HCW18).mono ?_
  rintro e W18 ⟨pvW18, rfl, hPW18, hBW18⟩
  have HBW18 : Hid (Below w.heap.size w W18) := (unhide HBW17).trans (hBW18.mono (unhide HBW17).size)
  have HSW18 := hide hBW18
  have HDW18 := hide (program_any hPW18 (okp_one (f := k_D) rfl (by decide)) (((unhide HBW18).cell (p := ⟨0, 0, none⟩) gl).trans (unhide HLG)))
  clear HCW18 hPW18 hBW18
  go_wp2_with fail
  refine (unhide HDW18).mono ?_
  rintro e W19 ⟨fa, L, k, a, er, rfl, hV, hBW19, hn, hs⟩
  have HBW19 : Hid (Below w.heap.size w W19) := (unhide HBW18).trans (hBW19.mono (unhide HBW18).size)
  have HSW19 : Hid (Below W17.heap.size W17 W19) := (unhide HSW18).trans (hBW19.mono (unhide HSW18).size)
  clear hBW19 HDW18
  obtain ⟨rfl, rfl, rfl, rfl⟩ := vp_D hV
  have hfa := hn rfl
  subst hfa
  have HP17 := hide ((unhide HP15).keep (fun g hg => (unhide HSW17).block g ((unhide HP15).lt g hg)))
  have HP19 := hide ((unhide HP17).keep (fun g hg => (unhide HSW19).block g ((unhide HP17).lt g hg)))
  clear hV hn hs HF17 HP15 HP17 HRW17
  go_wp2_with fail
  obtain ⟨W20, eW20⟩ : ∃ W20, W20 = (W19.alloc (.cells #[.slice none 0 0, .slice none 0 0] 32)).alloc (.cells #[.int .i64 0, .int .i64 1] 34) := ⟨_, rfl⟩
  rw [← eW20]
  have F20 : Fr (fun _ => False) W19 W20 := by rw [eW20]; exact ((Fr.refl _ W19).alloc _).alloc _
  have HBW20 : Hid (Below w.heap.size w W20) := (unhide HBW19).trans (F20.below (unhide HBW19).size (fun _ _ e => e))
  have HP20 := hide ((unhide HP19).fr F20 (fun _ _ e => e))
  have HQ20 : Hid (Ro W20 2 (.slice (some ⟨W19.heap.size + 1, 0, none⟩) 1 1) 1 [.int .i64 0, .int .i64 1]) := by
    rw [eW20]; exact B2n (by simp)
  have HC20 := hide (works_any (((unhide HBW20).cell (p := ⟨0, 0, none⟩) gl).trans (unhide HLG)))
  clear F20 eW20 HP19
  refine (unhide HC20).mono ?_
  rintro e W21 ⟨rfl, b21⟩
  have HBW21 : Hid (Below w.heap.size w W21) := (unhide HBW20).trans (b21.mono (unhide HBW20).size)
  have HS21 := hide b21
  have HC21 := hide (edges_any (((unhide HBW21).cell (p := ⟨0, 0, none⟩) gl).trans (unhide HLG)))
  clear b21 HC20
  go_wp2_with fail
  refine (unhide HC21).mono ?_
  rintro e W22 ⟨rfl, b22⟩
  have HBW22 : Hid (Below w.heap.size w W22) := (unhide HBW21).trans (b22.mono (unhide HBW21).size)
  have HS22 : Hid (Below W20.heap.size W20 W22) := (unhide HS21).trans (b22.mono (unhide HS21).size)
  have HP22 := hide ((unhide HP20).keep (fun g hg => (unhide HS22).block g ((unhide HP20).lt g hg)))
  have HQ22 := hide ((unhide HQ20).keep (fun g hg => (unhide HS22).block g ((unhide HQ20).lt g hg)))
  obtain ⟨p0, p1⟩ := B2.cells (unhide HP22)
  have lp := World.block_lt_of_cell? _ _ p0
  obtain ⟨q0, q1⟩ := B2.cells (unhide HQ22)
  have lq := World.block_lt_of_cell? _ _ q0
  clear b22 HC21 HS21 HS22 HP20 HQ20
  go_wp2_with fail
  go_ret
  exact ⟨rfl, unhide HBW22⟩
end Go.Proofs.YtiknljilfpekfaaDoor
