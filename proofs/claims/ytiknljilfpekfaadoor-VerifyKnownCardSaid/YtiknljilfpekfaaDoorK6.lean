/-
  Edges.
-/
import Derived.Test.YtiknljilfpekfaaDoorK5
import Derived.Test.YtiknljilfpekfaaDoorK2
import Derived.Test.YtiknljilfpekfaaDoorK3
namespace Go.Proofs.YtiknljilfpekfaaDoor
open Go.RowKit
set_option linter.unusedVariables false
set_option linter.unusedSimpArgs false
theorem Ro.set1 {w : World} {sz n g off cap : Nat} {xs : List Value} (h : Ro w sz (.slice (some ⟨g, off, none⟩) n cap) n xs) (j : Nat) (hj : j < n * sz) (u : Value) : Ro (w.setCell ⟨g, off + j, none⟩ u) sz (.slice (some ⟨g, off, none⟩) n cap) n (xs.set j u) := by
  obtain ⟨a, c, e, h1, _⟩ := h.shape
  cases e
  have hc : n * sz ≤ cap * sz := Nat.mul_le_mul_right _ h1
  have hx := h.1
  refine (h.sets rfl (o := off + j) (m := n) (vs := [u]) (ys := xs.set j u) (by omega) (by simp; omega) h1 (by rw [List.length_set]; exact hx) (fun i hi => ?_) (fun i hi q => by omega)).1 |> fun r => by simpa [World.setCells] using r
  rw [List.getElem?_set]
  by_cases q : j = i
  · subst q
    rw [if_pos rfl, if_pos (by omega), if_pos (by simp)]
    simp
  · rw [if_neg q, if_neg (by rw [List.length_singleton]; omega)]
theorem Ro.pre {w : World} {sz n g off cap : Nat} {xs : List Value} (h : Ro w sz (.slice (some ⟨g, off, none⟩) n cap) n xs) {m : Nat} (hm : m ≤ n) : Ro w sz (.slice (some ⟨g, off, none⟩) m cap) m (xs.take (m * sz)) := by
  obtain ⟨a, c, e, h1, _⟩ := h.shape
  cases e
  have hc : m * sz ≤ n * sz := Nat.mul_le_mul_right _ hm
  have hx := h.1
  exact (h.sets rfl (o := off) (m := m) (vs := []) (ys := xs.take (m * sz)) (by omega) (by simp) (by omega) (by rw [List.length_take]; omega) (fun i hi => by rw [if_neg (by simp), List.getElem?_take_of_lt hi]) (fun i hi q => by omega)).1
theorem hd_new {w : World} {h : Hd} {b : Nat} (hb : w.heap.size = b) : Ro (w.alloc (.cells #[.int .i64 h.frm, .int .i64 h.to, .int .i64 h.target, .int .i64 h.height] 53)) 4 (.slice (some ⟨b, 0, none⟩) 1 1) 1 (flt enH [h]) := by
  subst hb
  exact ⟨rfl, .inr ⟨w.heap.size, 0, 1, #[.int .i64 h.frm, .int .i64 h.to, .int .i64 h.target, .int .i64 h.height], 53, rfl, heap_alloc_new _ _, by omega, by unfold maxLen; omega, by simp, fun j hj => by simp [flt, enH]⟩⟩
theorem fnv_of {w : World} {nm : ByteArray} {l : List (Int × Int)} {cv : Value} (h : Ro w 2 cv l.length (flt enI l)) : FnV w ⟨nm, 0, 0, l, []⟩ ⟨nm, 0, 0, cv, .slice none 0 0⟩ := ⟨rfl, rfl, rfl, Rx.of_ro h, by simpa [flt] using Rx.nil w 4⟩
set_option maxRecDepth 100000 in
set_option maxHeartbeats 6400000 in
theorem edges_any {w : World} (hg : Laid w) : Calls Tryd.prog 9 #[] w fun e w' => e = .returned (.bool true) ∧ Below w.heap.size w w' := by
  have gl : 0 < w.heap.size := World.block_lt_of_cell? _ _ hg
  have HLG := hide hg
  clear hg
  go_enter Tryd.func9, Tryd.ntmps9
  go_wp2_with fail
  refine tower64_any.mono ?_
  rintro e W1 ⟨v, rfl, hG⟩
  obtain ⟨cv, rfl, rc, _, b1⟩ := hG
  obtain ⟨ca, cc, ec, _, _⟩ := rc.shape
  rw [show (twr 64).length = 128 from by simp [twr]] at ec
  subst ec
  have HF1 : Hid (FnV W1 k_E ⟨mainB, 0, 0, .slice ca 128 cc, .slice none 0 0⟩) := fnv_of rc
  have HB1 := hide b1
  clear rc b1
  have HCW2 := hide (one_any (unhide HF1))
  go_wp2_with fail
  refine (unhide HCW2).mono ?_
  rintro e W2 ⟨pvW2, rfl, hPW2, hBW2⟩
  have HBW2 : Hid (Below w.heap.size w W2) := (unhide HB1).trans (hBW2.mono (unhide HB1).size)
  have HSW2 := hide hBW2
  have HDW2 := hide (program_any hPW2 (okp_one (f := k_E) rfl (by decide)) (((unhide HBW2).cell (p := ⟨0, 0, none⟩) gl).trans (unhide HLG)))
  clear HCW2 hPW2 hBW2
  go_wp2_with fail
  refine (unhide HDW2).mono ?_
  rintro e W3 ⟨fa, L, k, a, er, rfl, hV, hBW3, hn, hs⟩
  have HBW3 : Hid (Below w.heap.size w W3) := (unhide HBW2).trans (hBW3.mono (unhide HBW2).size)
  have HSW3 : Hid (Below W1.heap.size W1 W3) := (unhide HSW2).trans (hBW3.mono (unhide HSW2).size)
  clear hBW3 HDW2
  obtain ⟨rfl, rfl, rfl, rfl⟩ := vp_E hV
  obtain ⟨hv, mv, rfl, vs, R1, R2, R3, R4, R5⟩ := hs _ rfl
  obtain ⟨mb, mo, mc, em, _, _, lm, km⟩ := R3.full (by simp)
  have km0 := km 0 (by simp)
  rw [Nat.add_zero] at km0
  have m64 : W3.cell? ⟨mb, mo, none⟩ = some (.int .i64 64) := by rw [km0]; simp [flt, enN, mxE]
  simp only [List.length_cons, List.length_nil, Nat.zero_add] at em
  subst em
  obtain ⟨ha, hc, eh, _, _⟩ := R1.shape
  simp only [List.length_cons, List.length_nil, Nat.zero_add] at eh
  subst eh
  clear R1 R2 R3 R4 R5 km km0 hV hn hs HF1
  go_wp2_with fail
  obtain ⟨W4, eW4⟩ : ∃ W4, W4 = (W3.alloc (.cells #[.slice ha 1 hc, .slice (some ⟨mb, mo, none⟩) 1 mc] 32)).alloc (.cells #[.int .i64 0, .int .i64 0] 34) := ⟨_, rfl⟩
  rw [← eW4]
  have F4 : Fr (fun _ => False) W3 W4 := by rw [eW4]; exact ((Fr.refl _ W3).alloc _).alloc _
  have HB4 : Hid (Below w.heap.size w W4) := (unhide HBW3).trans (F4.below (unhide HBW3).size (fun _ _ e => e))
  have HX4 : Hid (Ro W4 2 (.slice (some ⟨W3.heap.size, 0, none⟩) 1 1) 1 [.slice ha 1 hc, .slice (some ⟨mb, mo, none⟩) 1 mc]) := by
    rw [eW4]; exact (B2.new _ _ _ _).fr (S := fun _ => False) ((Fr.refl _ _).alloc _) (fun _ _ e => e)
  clear F4 eW4 m64 lm
  refine tower65_any.mono ?_
  rintro e W5 ⟨v, rfl, hG⟩
  obtain ⟨cv, rfl, rc, _, b5⟩ := hG
  obtain ⟨ca5, cc5, ec, _, _⟩ := rc.shape
  rw [show (twr 65).length = 130 from by simp [twr]] at ec
  subst ec
  have HB5 : Hid (Below w.heap.size w W5) := (unhide HB4).trans (b5.mono (unhide HB4).size)
  have HS5 := hide b5
  have HC5 := hide (wrongAt_any (x := ⟨mainB, 0, 0, .slice ca5 130 cc5, .slice none 0 0⟩) (pc := 64) (fnv_of rc : FnV W5 k_F _) (okp_one (f := k_F) rfl (by decide)) (((unhide HB5).cell (p := ⟨0, 0, none⟩) gl).trans (unhide HLG)) (fun _ _ _ _ => vp_F))
  clear rc b5
  go_wp2_with fail
  refine (unhide HC5).mono ?_
  rintro e W6 ⟨rfl, b6⟩
  have HBW6 : Hid (Below w.heap.size w W6) := (unhide HB5).trans (b6.mono (unhide HB5).size)
  have HS6 : Hid (Below W4.heap.size W4 W6) := (unhide HS5).trans (b6.mono (unhide HS5).size)
  have HX6 := hide ((unhide HX4).keep (fun g hg => (unhide HS6).block g ((unhide HX4).lt g hg)))
  have hne : W3.heap.size < W6.heap.size := World.block_lt_of_cell? _ _ (B2.cells (unhide HX6)).1
  clear b6 HC5 HS5 HS6 HX4 HB5 HB4
  go_wp2_with fail
  obtain ⟨W7, eW7⟩ : ∃ W7, W7 = W6.alloc (.cells #[.int .i64 40] 3) := ⟨_, rfl⟩
  rw [← eW7]
  have bW7 : Below W6.heap.size W6 W7 := by rw [eW7]; exact (Below.refl _ _).alloc (Nat.le_refl _) _
  have nW7 : Rn W7 (.slice (some ⟨W6.heap.size, 0, none⟩) 1 1) [40] := by
    rw [eW7]; exact Rx.of_ro (roNew _ _ 3 rfl (by unfold maxLen; simp) (by first | rfl | assumption))
  refine (func1_any nW7 (by simp)).mono ?_
  rintro e W8 ⟨v, rfl, hG⟩
  obtain ⟨cv, rfl, rc, ro, bW8⟩ := hG
  obtain ⟨cbW8, coW8, ccW8, ec, _, _, lcW8, kcW8⟩ := rc.full (by simp)
  simp only [List.length_map, List.length_cons, List.length_nil, Nat.zero_add, Nat.reduceAdd] at ec
  subst ec
  have HRW8 := hide rc
  have hoW8 := ro cbW8 rfl
  have HBW8 : Hid (Below w.heap.size w W8) := ((unhide HBW6).trans (bW7.mono (unhide HBW6).size)).trans (bW8.mono (Nat.le_trans (unhide HBW6).size bW7.size))
  have HSW8 : Hid (Below W6.heap.size W6 W8) := bW7.trans (bW8.mono bW7.size)
  have hzW8 := bW7.size
  clear kcW8 rc ro bW7 bW8 nW7 eW7
  go_wp2_with fail
  obtain ⟨W9, eW9⟩ : ∃ W9, W9 = W8.alloc (.cells #[.string ⟨#[109, 97, 105, 110]⟩, .int .i64 0, .int .i64 0, .slice (some ⟨cbW8, coW8, none⟩) 1 ccW8, .slice none 0 0] 25) := ⟨_, rfl⟩
  rw [← eW9]
  have F9 : Fr (fun _ => False) W8 W9 := by rw [eW9]; exact (Fr.refl _ W8).alloc _
  have HB9 : Hid (Below w.heap.size w W9) := (unhide HBW8).trans (F9.below (unhide HBW8).size (fun _ _ e => e))
  have HF9 : Hid (FnV W9 k_R ⟨mainB, 0, 0, .slice (some ⟨cbW8, coW8, none⟩) 1 ccW8, .slice none 0 0⟩) := fnv_of ((unhide HRW8).fr F9 (fun _ _ e => e))
  have HX8 := hide ((unhide HX6).keep (fun g hg => (unhide HSW8).block g ((unhide HX6).lt g hg)))
  have HX9 := hide ((unhide HX8).fr F9 (fun _ _ e => e))
  have hne9 : W3.heap.size < W9.heap.size := World.block_lt_of_cell? _ _ (B2.cells (unhide HX9)).1
  clear F9 eW9 HX8 HX6 HRW8
  have HCW10 := hide (one_any (unhide HF9))
  refine (unhide HCW10).mono ?_
  rintro e W10 ⟨pvW10, rfl, hPW10, hBW10⟩
  have HBW10 : Hid (Below w.heap.size w W10) := (unhide HB9).trans (hBW10.mono (unhide HB9).size)
  have HSW10 := hide hBW10
  have HDW10 := hide (program_any hPW10 (okp_one (f := k_R) rfl (by decide)) (((unhide HBW10).cell (p := ⟨0, 0, none⟩) gl).trans (unhide HLG)))
  clear HCW10 hPW10 hBW10
  go_wp2_with fail
  refine (unhide HDW10).mono ?_
  rintro e W11 ⟨fa, L, k, a, er, rfl, hV, hBW11, hn, hs⟩
  have HBW11 : Hid (Below w.heap.size w W11) := (unhide HBW10).trans (hBW11.mono (unhide HBW10).size)
  have HSW11 : Hid (Below W9.heap.size W9 W11) := (unhide HSW10).trans (hBW11.mono (unhide HSW10).size)
  clear hBW11 HDW10
  obtain ⟨rfl, rfl, rfl, rfl⟩ := vp_R hV
  obtain ⟨hv, mv, rfl, vs, R1, R2, R3, R4, R5⟩ := hs _ rfl
  have hvl := R1.1
  obtain ⟨u, rfl⟩ : ∃ u, vs = [u] := by
    match vs, hvl with
    | [u], _ => exact ⟨u, rfl⟩
  obtain ⟨RU, RUK⟩ := R2 0 h_R u rfl rfl
  obtain ⟨mb2, mo2, mc2, em, _, _, lm2, km⟩ := R3.full (by simp)
  have km0 := km 0 (by simp)
  rw [Nat.add_zero] at km0
  have m0 : W11.cell? ⟨mb2, mo2, none⟩ = some (.int .i64 0) := by rw [km0]; simp [flt, enN, mxR]
  simp only [List.length_cons, List.length_nil, Nat.zero_add] at em
  subst em
  obtain ⟨hb2, ho2, hc2, eh, _, _, lh2, kh⟩ := R1.full (by simp)
  have kh0 := kh 0 (by simp)
  rw [Nat.add_zero] at kh0
  simp only [List.getElem?_cons_zero] at kh0
  simp only [List.length_cons, List.length_nil, Nat.zero_add] at eh
  subst eh
  obtain ⟨ua, uc, eu, _, _⟩ := RU.shape
  rw [show h_R.length = 1 from rfl] at eu
  subst eu
  have hsz := (unhide HSW10).size
  have nm2 : mb2 ≠ W3.heap.size := by have := R5 mb2 rfl; omega
  have nh2 : hb2 ≠ W3.heap.size := by have := R4 hb2 rfl; omega
  have HRU := hide RU
  have HUK : Hid (∀ k, (Value.slice ua 1 uc).ownBlock = some k → k ≠ W3.heap.size) := fun k hk => by have := RUK k hk; omega
  have HX11 := hide ((unhide HX9).keep (fun g hg => (unhide HSW11).block g ((unhide HX9).lt g hg)))
  obtain ⟨x0, x1⟩ := B2.cells (unhide HX11)
  have lx := World.block_lt_of_cell? _ _ x0
  have xf0 := (unhide HX11).free rfl 0
  have xf1 := (unhide HX11).free rfl 1
  clear R1 R2 R3 R4 R5 km km0 kh hV hn hs HF9 RU RUK hvl HX9
  go_wp2_with fail
  obtain ⟨W12, eW12⟩ : ∃ W12, W12 = ((W11.setCell ⟨W3.heap.size, 0, none⟩ (.slice (some ⟨hb2, ho2, none⟩) 1 hc2)).setCell ⟨W3.heap.size, 1, none⟩ (.slice (some ⟨mb2, mo2, none⟩) 1 mc2)).alloc (.cells #[.int .i64 0] 3) := ⟨_, rfl⟩
  rw [← eW12]
  have F12 : Fr (fun k => k = W3.heap.size) W11 W12 := by rw [eW12]; exact (((Fr.refl (fun k => k = W3.heap.size) W11).cellset _ 0 _ rfl).cellset _ 1 _ rfl).alloc _
  have hs3 := (unhide HBW3).size
  have HB12 : Hid (Below w.heap.size w W12) := (unhide HBW11).trans (F12.below (unhide HBW11).size (fun k hk e => by omega))
  have n12 : Rn W12 (.slice (some ⟨W11.heap.size, 0, none⟩) 1 1) [0] := by
    rw [eW12]; exact Rx.of_ro (roNew _ _ 3 rfl (by unfold maxLen; simp) (by simp))
  have HS12 := hide (sameN_any (Rx.of_ro ((unhide HRU).fr F12 (unhide HUK)) : Rn W12 (.slice ua 1 uc) [0]) n12)
  clear F12 n12 eW12 x0 x1 lx xf0 xf1 m0 lm2 lh2 kh0 HRU HUK HX11
  refine (unhide HS12).mono ?_
  rintro e W13 ⟨rfl, kk, eW13⟩
  have HBW13 : Hid (Below w.heap.size w W13) := by rw [eW13]; exact Go.Proofs.YtiknljilfpekfaaDoor.Below.drewN (unhide HB12) kk
  clear eW13 HS12
  go_wp2_with fail
  obtain ⟨W14, eW14⟩ : ∃ W14, W14 = W13.alloc (.cells #[.int .i64 1, .int .i64 44, .int .i64 44] 3) := ⟨_, rfl⟩
  rw [← eW14]
  have bW14 : Below W13.heap.size W13 W14 := by rw [eW14]; exact (Below.refl _ _).alloc (Nat.le_refl _) _
  have nW14 : Rn W14 (.slice (some ⟨W13.heap.size, 0, none⟩) 3 3) [1, 44, 44] := by
    rw [eW14]; exact Rx.of_ro (roNew _ _ 3 rfl (by unfold maxLen; simp) (by first | rfl | assumption))
  refine (func1_any nW14 (by simp)).mono ?_
  rintro e W15 ⟨v, rfl, hG⟩
  obtain ⟨cv, rfl, rc, ro, bW15⟩ := hG
  obtain ⟨cbW15, coW15, ccW15, ec, _, _, lcW15, kcW15⟩ := rc.full (by simp)
  simp only [List.length_map, List.length_cons, List.length_nil, Nat.zero_add, Nat.reduceAdd] at ec
  subst ec
  have HRW15 := hide rc
  have hoW15 := ro cbW15 rfl
  have HBW15 : Hid (Below w.heap.size w W15) := ((unhide HBW13).trans (bW14.mono (unhide HBW13).size)).trans (bW15.mono (Nat.le_trans (unhide HBW13).size bW14.size))
  have HSW15 : Hid (Below W13.heap.size W13 W15) := bW14.trans (bW15.mono bW14.size)
  have hzW15 := bW14.size
  clear kcW15 rc ro bW14 bW15 nW14 eW14
  go_wp2_with fail
  obtain ⟨W16, eW16⟩ : ∃ W16, W16 = (W15.alloc (.cells #[.string ⟨#[109, 97, 105, 110]⟩, .int .i64 0, .int .i64 0, .slice (some ⟨cbW15, coW15, none⟩) 3 ccW15, .slice (some ⟨W15.heap.size + 1, 0, none⟩) 1 1] 25)).alloc (.cells #[.int .i64 1, .int .i64 2, .int .i64 2, .int .i64 1] 53) := ⟨_, rfl⟩
  rw [← eW16]
  have s16 : W16.heap.size = W15.heap.size + 1 + 1 := by rw [eW16]; simp
  have F16 : Fr (fun _ => False) W15 W16 := by rw [eW16]; exact ((Fr.refl _ W15).alloc _).alloc _
  have HBW16 : Hid (Below w.heap.size w W16) := (unhide HBW15).trans (F16.below (unhide HBW15).size (fun _ _ e => e))
  have HX16 : Hid (Ro W16 5 (.slice (some ⟨W15.heap.size, 0, none⟩) 1 1) 1 [.string ⟨#[109, 97, 105, 110]⟩, .int .i64 0, .int .i64 0, .slice (some ⟨cbW15, coW15, none⟩) 3 ccW15, .slice (some ⟨W15.heap.size + 1, 0, none⟩) 1 1]) := by
    rw [eW16]; exact (B5.new rfl).fr (S := fun _ => False) ((Fr.refl _ _).alloc _) (fun _ _ e => e)
  have HF16 : Hid (FnV W16 k_H ⟨mainB, 0, 0, .slice (some ⟨cbW15, coW15, none⟩) 3 ccW15, .slice (some ⟨W15.heap.size + 1, 0, none⟩) 1 1⟩) :=
    ⟨rfl, rfl, rfl, Rx.of_ro ((unhide HRW15).fr F16 (fun _ _ e => e)), Rx.of_ro (by rw [eW16]; exact hd_new (h := ⟨1, 2, 2, 1⟩) (by simp))⟩
  clear F16 eW16 HRW15
  obtain ⟨W17, eW17⟩ : ∃ W17, W17 = W16.alloc (.cells #[.int .i64 40, .int .i64 7, .int .i64 2, .int .i64 41, .int .i64 7, .int .i64 1, .int .i64 44] 3) := ⟨_, rfl⟩
  rw [← eW17]
  have bW17 : Below W16.heap.size W16 W17 := by rw [eW17]; exact (Below.refl _ _).alloc (Nat.le_refl _) _
  have nW17 : Rn W17 (.slice (some ⟨W15.heap.size + 1 + 1, 0, none⟩) 7 7) [40, 7, 2, 41, 7, 1, 44] := by
    rw [eW17]; exact Rx.of_ro (roNew _ _ 3 rfl (by unfold maxLen; simp) (by first | rfl | assumption))
  refine (func1_any nW17 (by simp)).mono ?_
  rintro e W18 ⟨v, rfl, hG⟩
  obtain ⟨cv, rfl, rc, ro, bW18⟩ := hG
  obtain ⟨cbW18, coW18, ccW18, ec, _, _, lcW18, kcW18⟩ := rc.full (by simp)
  simp only [List.length_map, List.length_cons, List.length_nil, Nat.zero_add, Nat.reduceAdd] at ec
  subst ec
  have HRW18 := hide rc
  have hoW18 := ro cbW18 rfl
  have HBW18 : Hid (Below w.heap.size w W18) := ((unhide HBW16).trans (bW17.mono (unhide HBW16).size)).trans (bW18.mono (Nat.le_trans (unhide HBW16).size bW17.size))
  have HSW18 : Hid (Below W16.heap.size W16 W18) := bW17.trans (bW18.mono bW17.size)
  have hzW18 := bW17.size
  have kcW18_1 := kcW18 1 (by simp)
  simp [flt, enI] at kcW18_1
  have kfW18_1 := (unhide HRW18).free rfl (coW18 + 1)
  have kcW18_7 := kcW18 7 (by simp)
  simp [flt, enI] at kcW18_7
  have kfW18_7 := (unhide HRW18).free rfl (coW18 + 7)
  clear kcW18 rc ro bW17 bW18 nW17 eW17
  go_wp2_with fail
  obtain ⟨W19, eW19⟩ : ∃ W19, W19 = ((W18.setCell ⟨cbW18, coW18 + 1, none⟩ (.int .i64 2)).setCell ⟨cbW18, coW18 + 6 + 1, none⟩ (.int .i64 1)).alloc (.cells #[.string ⟨#[109, 97, 105, 110]⟩, .int .i64 0, .int .i64 0, .slice (some ⟨cbW18, coW18, none⟩) 7 ccW18, .slice none 0 0] 25) := ⟨_, rfl⟩
  rw [← eW19]
  have s19 : W19.heap.size = W18.heap.size + 1 := by rw [eW19]; simp
  have F19 : Fr (fun k => k = cbW18) W18 W19 := by rw [eW19]; exact (((Fr.refl (fun k => k = cbW18) W18).cellset _ _ _ rfl).cellset _ _ _ rfl).alloc _
  have hs16 := (unhide HBW16).size
  have HBW19 : Hid (Below w.heap.size w W19) := (unhide HBW18).trans (F19.below (unhide HBW18).size (fun k hk e => by omega))
  have HS19 : Hid (Below W16.heap.size W16 W19) := (unhide HSW18).trans (F19.below (unhide HSW18).size (fun k hk e => by omega))
  have HX19 : Hid (Ro W19 5 (.slice (some ⟨W18.heap.size, 0, none⟩) 1 1) 1 [.string ⟨#[109, 97, 105, 110]⟩, .int .i64 0, .int .i64 0, .slice (some ⟨cbW18, coW18, none⟩) 7 ccW18, .slice none 0 0]) := by
    rw [eW19]; exact B5.new (by simp)
  have R19 : Ro W19 2 (.slice (some ⟨cbW18, coW18, none⟩) 7 ccW18) 7 (flt enI k_W.code) := by
    rw [eW19]
    exact (((unhide HRW18).set1 1 (by simp) (.int .i64 2)).set1 7 (by simp) (.int .i64 1)).fr (S := fun _ => False) ((Fr.refl _ _).alloc _) (fun _ _ e => e)
  have HF19 : Hid (FnV W19 k_W ⟨mainB, 0, 0, .slice (some ⟨cbW18, coW18, none⟩) 7 ccW18, .slice none 0 0⟩) := ⟨rfl, rfl, rfl, Rx.of_ro R19, by simpa [flt, k_W, fnc] using Rx.nil W19 4⟩
  clear F19 eW19 HRW18 R19 kcW18_1 kcW18_7 kfW18_1 kfW18_7
  obtain ⟨W20, eW20⟩ : ∃ W20, W20 = W19.alloc (.cells #[.int .i64 40, .int .i64 7, .int .i64 7, .int .i64 7, .int .i64 1, .int .i64 44] 3) := ⟨_, rfl⟩
  rw [← eW20]
  have bW20 : Below W19.heap.size W19 W20 := by rw [eW20]; exact (Below.refl _ _).alloc (Nat.le_refl _) _
  have nW20 : Rn W20 (.slice (some ⟨W18.heap.size + 1, 0, none⟩) 6 6) [40, 7, 7, 7, 1, 44] := by
    rw [eW20]; exact Rx.of_ro (roNew _ _ 3 rfl (by unfold maxLen; simp) (by first | rfl | assumption))
  refine (func1_any nW20 (by simp)).mono ?_
  rintro e W21 ⟨v, rfl, hG⟩
  obtain ⟨cv, rfl, rc, ro, bW21⟩ := hG
  obtain ⟨cbW21, coW21, ccW21, ec, _, _, lcW21, kcW21⟩ := rc.full (by simp)
  simp only [List.length_map, List.length_cons, List.length_nil, Nat.zero_add, Nat.reduceAdd] at ec
  subst ec
  have HRW21 := hide rc
  have hoW21 := ro cbW21 rfl
  have HBW21 : Hid (Below w.heap.size w W21) := ((unhide HBW19).trans (bW20.mono (unhide HBW19).size)).trans (bW21.mono (Nat.le_trans (unhide HBW19).size bW20.size))
  have HSW21 : Hid (Below W19.heap.size W19 W21) := bW20.trans (bW21.mono bW20.size)
  have hzW21 := bW20.size
  have kcW21_1 := kcW21 1 (by simp)
  simp [flt, enI] at kcW21_1
  have kfW21_1 := (unhide HRW21).free rfl (coW21 + 1)
  clear kcW21 rc ro bW20 bW21 nW20 eW20
  have HX21 := hide ((unhide HX16).keep (fun g hg => (unhide HS19).block g ((unhide HX16).lt g hg)))
  have HX21' := hide ((unhide HX21).keep (fun g hg => (unhide HSW21).block g ((unhide HX21).lt g hg)))
  obtain ⟨x0, x1, x2, x3, x4⟩ := B5.cells (unhide HX21')
  have lx := World.block_lt_of_cell? _ _ x0
  have s1916 := (unhide HS19).size
  have nx1 : W15.heap.size ≠ cbW21 := by omega
  have nx2 : cbW21 ≠ W15.heap.size := by omega
  clear HX21 HX21'
  go_wp2_with fail
  obtain ⟨W22, eW22⟩ : ∃ W22, W22 = ((W21.setCell ⟨cbW21, coW21 + 1, none⟩ (.int .i64 3)).alloc (.cells #[.string ⟨#[109, 97, 105, 110]⟩, .int .i64 0, .int .i64 0, .slice (some ⟨cbW21, coW21, none⟩) 6 ccW21, .slice (some ⟨W21.heap.size + 1, 0, none⟩) 1 1] 25)).alloc (.cells #[.int .i64 3, .int .i64 4, .int .i64 1, .int .i64 0] 53) := ⟨_, rfl⟩
  rw [← eW22]
  have F22 : Fr (fun k => k = cbW21) W21 W22 := by rw [eW22]; exact (((Fr.refl (fun k => k = cbW21) W21).cellset _ _ _ rfl).alloc _).alloc _
  have hs19 := (unhide HBW19).size
  have HBW22 : Hid (Below w.heap.size w W22) := (unhide HBW21).trans (F22.below (unhide HBW21).size (fun k hk e => by omega))
  have HS22 : Hid (Below W19.heap.size W19 W22) := (unhide HSW21).trans (F22.below (unhide HSW21).size (fun k hk e => by omega))
  have HX22 : Hid (Ro W22 5 (.slice (some ⟨W21.heap.size, 0, none⟩) 1 1) 1 [.string ⟨#[109, 97, 105, 110]⟩, .int .i64 0, .int .i64 0, .slice (some ⟨cbW21, coW21, none⟩) 6 ccW21, .slice (some ⟨W21.heap.size + 1, 0, none⟩) 1 1]) := by
    rw [eW22]; exact (B5.new (by simp)).fr (S := fun _ => False) ((Fr.refl _ _).alloc _) (fun _ _ e => e)
  have R22 : Ro W22 2 (.slice (some ⟨cbW21, coW21, none⟩) 6 ccW21) 6 (flt enI k_G.code) := by
    rw [eW22]
    exact (((unhide HRW21).set1 1 (by simp) (.int .i64 3)).fr (S := fun _ => False) ((Fr.refl _ _).alloc _) (fun _ _ e => e)).fr (S := fun _ => False) ((Fr.refl _ _).alloc _) (fun _ _ e => e)
  have HF22 : Hid (FnV W22 k_G ⟨mainB, 0, 0, .slice (some ⟨cbW21, coW21, none⟩) 6 ccW21, .slice (some ⟨W21.heap.size + 1, 0, none⟩) 1 1⟩) :=
    ⟨rfl, rfl, rfl, Rx.of_ro R22, Rx.of_ro (by rw [eW22]; exact hd_new (h := ⟨3, 4, 1, 0⟩) (by simp))⟩
  have HF16b := hide (((unhide HF16).below (unhide HS19) (Nat.le_refl _)).below (unhide HS22) (Nat.le_refl _))
  have HC22 := hide (wrongAt_any (pc := 1) (unhide HF16b) (okp_one (f := k_H) rfl (by decide)) (((unhide HBW22).cell (p := ⟨0, 0, none⟩) gl).trans (unhide HLG)) (fun _ _ _ _ => vp_H))
  clear F22 eW22 R22 x0 x1 x2 x3 x4 lx nx1 nx2 HRW21 kcW21_1 kfW21_1 HX16 HF16 HF16b
  refine (unhide HC22).mono ?_
  rintro e W23 ⟨rfl, b23⟩
  have HBW23 : Hid (Below w.heap.size w W23) := (unhide HBW22).trans (b23.mono (unhide HBW22).size)
  have HS23 : Hid (Below W19.heap.size W19 W23) := (unhide HS22).trans (b23.mono (unhide HS22).size)
  have HT23 := hide b23
  have HX23 := hide ((unhide HX19).keep (fun g hg => (unhide HS23).block g ((unhide HX19).lt g hg)))
  obtain ⟨x0, x1, x2, x3, x4⟩ := B5.cells (unhide HX23)
  have lx := World.block_lt_of_cell? _ _ x0
  have HC23 := hide (wrongAt_any (pc := 1) ((unhide HF19).below (unhide HS23) (Nat.le_refl _)) (okp_one (f := k_W) rfl (by decide)) (((unhide HBW23).cell (p := ⟨0, 0, none⟩) gl).trans (unhide HLG)) (fun _ _ _ _ => vp_W))
  clear b23 HC22 HX19 HF19 HX23
  go_wp2_with fail
  refine (unhide HC23).mono ?_
  rintro e W24 ⟨rfl, b24⟩
  have HBW24 : Hid (Below w.heap.size w W24) := (unhide HBW23).trans (b24.mono (unhide HBW23).size)
  have HS24 : Hid (Below W22.heap.size W22 W24) := (unhide HT23).trans (b24.mono (unhide HT23).size)
  have HX24 := hide ((unhide HX22).keep (fun g hg => (unhide HS24).block g ((unhide HX22).lt g hg)))
  clear x0 x1 x2 x3 x4 lx
  obtain ⟨x0, x1, x2, x3, x4⟩ := B5.cells (unhide HX24)
  have lx := World.block_lt_of_cell? _ _ x0
  have HC24 := hide (wrongAt_any (pc := 2) ((unhide HF22).below (unhide HS24) (Nat.le_refl _)) (okp_one (f := k_G) rfl (by decide)) (((unhide HBW24).cell (p := ⟨0, 0, none⟩) gl).trans (unhide HLG)) (fun _ _ _ _ => vp_G))
  clear b24 HC23 HX22 HF22 HX24
  go_wp2_with fail
  refine (unhide HC24).mono ?_
  rintro e W25 ⟨rfl, b25⟩
  have HBW25 : Hid (Below w.heap.size w W25) := (unhide HBW24).trans (b25.mono (unhide HBW24).size)
  clear b25 HC24
  go_wp2_with fail
  go_ret
  exact ⟨rfl, unhide HBW25⟩
end Go.Proofs.YtiknljilfpekfaaDoor
