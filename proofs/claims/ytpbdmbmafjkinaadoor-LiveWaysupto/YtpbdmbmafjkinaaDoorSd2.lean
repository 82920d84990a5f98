/-
  Are two lists of shapes the same: whichever they are.
-/
import Derived.Test.YtpbdmbmafjkinaaDoorSd
namespace Go.Proofs.YtpbdmbmafjkinaaDoor
open Go.RowKit
set_option linter.unusedVariables false
set_option linter.unusedSimpArgs false
theorem sh_ext {s t : Sh} (h1 : s.fn = t.fn) (h2 : s.pc = t.pc) (h3 : s.sl = t.sl) : s = t := by
  obtain ⟨a, b, c⟩ := s; obtain ⟨d, e, f⟩ := t; simp only at h1 h2 h3; rw [h1, h2, h3]
set_option maxRecDepth 100000 in
set_option maxHeartbeats 12800000 in
theorem sameS_dc {w : World} {D D' : Nat → Prop} {av bv : Value} {l m : List Sh} (ha : ShsV D w l av) (hb : ShsV D' w m bv) (hN : l.length ≤ 8796093021952) (hN2 : m.length ≤ 8796093021952) (hM : ∀ s ∈ l, s.sl.length ≤ 8796093021952) (hM2 : ∀ s ∈ m, s.sl.length ≤ 8796093021952) :
    Calls Tryd.prog 57 #[av, bv] w fun e w' => e = .returned (.bool (Dc (l = m))) ∧ Below w.heap.size w w' := by
  obtain ⟨a, cap, rfl, hac, hcm⟩ := NV.shape ha
  obtain ⟨b, bcap, rfl, hbc, hbm⟩ := NV.shape hb
  have HA := hide ha
  have HB := hide hb
  have HM := hide hM
  have HM2 := hide hM2
  unfold maxLen at hcm hbm
  clear ha hb hM hM2
  by_cases hlm : l.length = m.length
  · obtain ⟨L, hL⟩ : ∃ L, Hid (l.length = L) := ⟨_, hide rfl⟩
    have hL2 : Hid (m.length = L) := by unfold Hid; rw [← hlm, unhide hL]
    rw [unhide hL] at hN HA hac ⊢
    rw [unhide hL2] at HB hbc ⊢
    clear hlm hN2
    go_enter Tryd.func57, Tryd.ntmps57
    go_wp2_with fail
    go_loopg [5] L (fun gg t5 wr => ∃ (i : Nat), Hid (i + gg = L) ∧ t5 = .int .i64 (i : Int) ∧ Hid (Below w.heap.size w wr ∧ ∀ (j : Nat) (x y : Sh), j < i → l[j]? = some x → m[j]? = some y → x = y))
    case atStart => exact ⟨0, by unfold Hid; omega, rfl, Below.refl _ _, fun j x y h => by omega⟩
    case round =>
      obtain ⟨i, hi, rfl, hB⟩ := hrel
      by_cases hlt : i < L
      · obtain ⟨s, hp⟩ : ∃ p, l[i]? = some p := ⟨_, List.getElem?_eq_getElem (by rw [unhide hL]; exact hlt)⟩
        obtain ⟨t, hq⟩ : ∃ p, m[i]? = some p := ⟨_, List.getElem?_eq_getElem (by rw [unhide hL2]; exact hlt)⟩
        obtain ⟨ab, ao, _, r, e1, hb1, _, ⟨f1, f2, f3⟩, c⟩ := NV.at zSh (show NV enSh 3 ShP D w l (.slice a L cap) from unhide HA) hp
        obtain ⟨bb, bo, _, q, e2, hb2, _, ⟨g1, g2, g3⟩, d⟩ := NV.at zSh (show NV enSh 3 ShP D' w m (.slice b L bcap) from unhide HB) hq
        rw [unhide hL] at e1
        rw [unhide hL2] at e2
        cases e1
        cases e2
        obtain ⟨rfn, rpc, rv⟩ := r
        obtain ⟨qfn, qpc, qv⟩ := q
        simp only at f1 f2 f3 g1 g2 g3
        subst f1 f2 g1 g2
        obtain ⟨xa, xc, ex, hx1, hx2⟩ := f3.1.shape
        obtain ⟨ya, yc, ey, hy1, hy2⟩ := g3.1.shape
        subst ex ey
        obtain ⟨SL, hSL⟩ : ∃ z, Hid (s.sl.length = z) := ⟨_, hide rfl⟩
        obtain ⟨TL, hTL⟩ : ∃ z, Hid (t.sl.length = z) := ⟨_, hide rfl⟩
        have HCS : Hid (∀ W, Below w.heap.size w W → Calls Tryd.prog 56 #[.slice xa SL xc, .slice ya TL yc] W fun e w' => e = .returned (.bool (Dc (s.sl = t.sl))) ∧ Below W.heap.size W w') := fun W hW => by
          rw [← unhide hSL, ← unhide hTL]
          exact sameO_dc (f3.1.below hW (Nat.le_refl _)) (g3.1.below hW (Nat.le_refl _)) (unhide HM s (List.mem_of_getElem? hp)) (unhide HM2 t (List.mem_of_getElem? hq))
        obtain ⟨sf, hsf⟩ : ∃ z, Hid (s.fn = z) := ⟨_, hide rfl⟩
        obtain ⟨sp, hsp⟩ : ∃ z, Hid (s.pc = z) := ⟨_, hide rfl⟩
        obtain ⟨tf, htf⟩ : ∃ z, Hid (t.fn = z) := ⟨_, hide rfl⟩
        obtain ⟨tp, htp⟩ : ∃ z, Hid (t.pc = z) := ⟨_, hide rfl⟩
        rw [unhide hSL, unhide hsf, unhide hsp] at c
        rw [unhide hTL, unhide htf, unhide htp] at d
        have HSW : Hid (∀ W, Below w.heap.size w W → (fun W => W.cell? ⟨ab, ao + i * 3, none⟩ = some (.int .i64 sf) ∧ W.cell? ⟨ab, ao + i * 3 + 1, none⟩ = some (.int .i64 sp) ∧ W.cell? ⟨ab, ao + i * 3 + 2, none⟩ = some (.slice xa SL xc) ∧ W.cell? ⟨bb, bo + i * 3, none⟩ = some (.int .i64 tf) ∧ W.cell? ⟨bb, bo + i * 3 + 1, none⟩ = some (.int .i64 tp) ∧ W.cell? ⟨bb, bo + i * 3 + 2, none⟩ = some (.slice ya TL yc)) W) := fun W hW => by
          have k0 := (hW.cell (p := ⟨ab, ao + i * 3 + 0, none⟩) hb1).trans (c 0 _ rfl)
          have r0 := (hW.cell (p := ⟨bb, bo + i * 3 + 0, none⟩) hb2).trans (d 0 _ rfl)
          exact ⟨k0, (hW.cell (p := ⟨ab, ao + i * 3 + 1, none⟩) hb1).trans (c 1 _ rfl), (hW.cell (p := ⟨ab, ao + i * 3 + 2, none⟩) hb1).trans (c 2 _ rfl), r0, (hW.cell (p := ⟨bb, bo + i * 3 + 1, none⟩) hb2).trans (d 1 _ rfl), (hW.cell (p := ⟨bb, bo + i * 3 + 2, none⟩) hb2).trans (d 2 _ rfl)⟩
        have i0 : (0 : Int) ≤ (i : Int) := by omega
        have i1 : (i : Int) < (L : Int) := by omega
        have HP := hide hp
        have HQ := hide hq
        clear c d hp hq f3 g3
        by_cases hfn : sf = tf
        · subst hfn
          by_cases hpc : sp = tp
          · subst hpc
            by_cases hsl : s.sl = t.sl
            · have HPre : Hid (∀ (j : Nat) (x y : Sh), j < i + 1 → l[j]? = some x → m[j]? = some y → x = y) := fun j x y hj hx hy => by
                by_cases e : j = i
                · subst e
                  rw [unhide HP] at hx; rw [unhide HQ] at hy
                  cases hx; cases hy; exact sh_ext (by rw [unhide hsf, unhide htf]) (by rw [unhide hsp, unhide htp]) hsl
                · exact (unhide hB).2 j x y (by omega) hx hy
              rw [show Dc (s.sl = t.sl) = true from Dc_true hsl] at HCS
              clear hsl
              go_wp2_with fail
              obtain ⟨Y, hY⟩ : ∃ W, Hid (wr.drew = W) := ⟨_, hide rfl⟩
              have HBY : Hid (Below w.heap.size w Y) := by rw [← unhide hY]; exact (unhide hB).1.trans ⟨rfl, rfl, rfl, Nat.le_refl _, fun _ _ => rfl⟩
              have HSY := hide (unhide HSW Y (unhide HBY))
              refine wp_region_held_drew (S := (fun W => W.cell? ⟨ab, ao + i * 3, none⟩ = some (.int .i64 sf) ∧ W.cell? ⟨ab, ao + i * 3 + 1, none⟩ = some (.int .i64 sp) ∧ W.cell? ⟨ab, ao + i * 3 + 2, none⟩ = some (.slice xa SL xc) ∧ W.cell? ⟨bb, bo + i * 3, none⟩ = some (.int .i64 sf) ∧ W.cell? ⟨bb, bo + i * 3 + 1, none⟩ = some (.int .i64 sp) ∧ W.cell? ⟨bb, bo + i * 3 + 2, none⟩ = some (.slice ya TL yc))) (by kernel_rfl) (by rw [unhide hY]; exact unhide HSY) (fun hHeld => ?_)
              clear hHeld
              rw [unhide hY]
              clear hY
              refine wpAnyH_take (i := 0) (oi := _) (v := .slice (some ⟨ab, ao, none⟩) L cap) rfl (by kernel_rfl) (by kernel_rfl) (by kernel_rfl) (fun _ _ _ h => h) (Or.inl ⟨by rfl, (by intro w' hSw; obtain ⟨s1, s2, s3, s4, s5, s6⟩ := hSw; go_simp)⟩) (unhide HSY) ?_
              go_simp
              refine wpAnyH_take (i := 1) (oi := _) (v := .int .i64 (i : Int)) rfl (by kernel_rfl) (by kernel_rfl) (by kernel_rfl) (fun _ _ _ h => h) (Or.inl ⟨by rfl, (by intro w' hSw; obtain ⟨s1, s2, s3, s4, s5, s6⟩ := hSw; go_simp)⟩) (unhide HSY) ?_
              go_simp
              refine wpAnyH_take (i := 2) (oi := _) (v := .pointer (some ⟨ab, ao + i * 3, none⟩)) rfl (by kernel_rfl) (by kernel_rfl) (by kernel_rfl) (fun _ _ _ h => h) (Or.inl ⟨by rfl, (by intro w' hSw; obtain ⟨s1, s2, s3, s4, s5, s6⟩ := hSw; go_simp)⟩) (unhide HSY) ?_
              go_simp
              refine wpAnyH_take (i := 3) (oi := _) (v := .pointer (some ⟨ab, ao + i * 3, none⟩)) rfl (by kernel_rfl) (by kernel_rfl) (by kernel_rfl) (fun _ _ _ h => h) (Or.inl ⟨by rfl, (by intro w' hSw; obtain ⟨s1, s2, s3, s4, s5, s6⟩ := hSw; go_simp)⟩) (unhide HSY) ?_
              go_simp
              refine wpAnyH_take (i := 4) (oi := _) (v := .int .i64 sf) rfl (by kernel_rfl) (by kernel_rfl) (by kernel_rfl) (fun _ _ _ h => h) (Or.inl ⟨by rfl, (by intro w' hSw; obtain ⟨s1, s2, s3, s4, s5, s6⟩ := hSw; go_simp)⟩) (unhide HSY) ?_
              go_simp
              refine wpAnyH_take (i := 5) (oi := _) (v := .slice (some ⟨bb, bo, none⟩) L bcap) rfl (by kernel_rfl) (by kernel_rfl) (by kernel_rfl) (fun _ _ _ h => h) (Or.inl ⟨by rfl, (by intro w' hSw; obtain ⟨s1, s2, s3, s4, s5, s6⟩ := hSw; go_simp)⟩) (unhide HSY) ?_
              go_simp
              refine wpAnyH_take (i := 6) (oi := _) (v := .int .i64 (i : Int)) rfl (by kernel_rfl) (by kernel_rfl) (by kernel_rfl) (fun _ _ _ h => h) (Or.inl ⟨by rfl, (by intro w' hSw; obtain ⟨s1, s2, s3, s4, s5, s6⟩ := hSw; go_simp)⟩) (unhide HSY) ?_
              go_simp
              refine wpAnyH_take (i := 7) (oi := _) (v := .pointer (some ⟨bb, bo + i * 3, none⟩)) rfl (by kernel_rfl) (by kernel_rfl) (by kernel_rfl) (fun _ _ _ h => h) (Or.inl ⟨by rfl, (by intro w' hSw; obtain ⟨s1, s2, s3, s4, s5, s6⟩ := hSw; go_simp)⟩) (unhide HSY) ?_
              go_simp
              refine wpAnyH_take (i := 8) (oi := _) (v := .pointer (some ⟨bb, bo + i * 3, none⟩)) rfl (by kernel_rfl) (by kernel_rfl) (by kernel_rfl) (fun _ _ _ h => h) (Or.inl ⟨by rfl, (by intro w' hSw; obtain ⟨s1, s2, s3, s4, s5, s6⟩ := hSw; go_simp)⟩) (unhide HSY) ?_
              go_simp
              refine wpAnyH_take (i := 9) (oi := _) (v := .int .i64 sf) rfl (by kernel_rfl) (by kernel_rfl) (by kernel_rfl) (fun _ _ _ h => h) (Or.inl ⟨by rfl, (by intro w' hSw; obtain ⟨s1, s2, s3, s4, s5, s6⟩ := hSw; go_simp)⟩) (unhide HSY) ?_
              go_simp
              refine wpAnyH_take (i := 10) (oi := _) (v := .bool false) rfl (by kernel_rfl) (by kernel_rfl) (by kernel_rfl) (fun _ _ _ h => h) (Or.inl ⟨by rfl, (by intro w' hSw; obtain ⟨s1, s2, s3, s4, s5, s6⟩ := hSw; go_simp)⟩) (unhide HSY) ?_
              go_simp
              refine wpAnyH_take (i := 11) (oi := _) (v := .bool false) rfl (by kernel_rfl) (by kernel_rfl) (by kernel_rfl) (fun _ _ _ h => h) (Or.inl ⟨by rfl, (by intro w' hSw; obtain ⟨s1, s2, s3, s4, s5, s6⟩ := hSw; go_simp)⟩) (unhide HSY) ?_
              go_simp
              refine wpAnyH_take (i := 12) (oi := _) (v := .slice (some ⟨ab, ao, none⟩) L cap) rfl (by kernel_rfl) (by kernel_rfl) (by kernel_rfl) (fun _ _ _ h => h) (Or.inl ⟨by rfl, (by intro w' hSw; obtain ⟨s1, s2, s3, s4, s5, s6⟩ := hSw; go_simp)⟩) (unhide HSY) ?_
              go_simp
              refine wpAnyH_take (i := 13) (oi := _) (v := .int .i64 (i : Int)) rfl (by kernel_rfl) (by kernel_rfl) (by kernel_rfl) (fun _ _ _ h => h) (Or.inl ⟨by rfl, (by intro w' hSw; obtain ⟨s1, s2, s3, s4, s5, s6⟩ := hSw; go_simp)⟩) (unhide HSY) ?_
              go_simp
              refine wpAnyH_take (i := 14) (oi := _) (v := .pointer (some ⟨ab, ao + i * 3, none⟩)) rfl (by kernel_rfl) (by kernel_rfl) (by kernel_rfl) (fun _ _ _ h => h) (Or.inl ⟨by rfl, (by intro w' hSw; obtain ⟨s1, s2, s3, s4, s5, s6⟩ := hSw; go_simp)⟩) (unhide HSY) ?_
              go_simp
              refine wpAnyH_take (i := 15) (oi := _) (v := .pointer (some ⟨ab, ao + i * 3 + 1, none⟩)) rfl (by kernel_rfl) (by kernel_rfl) (by kernel_rfl) (fun _ _ _ h => h) (Or.inl ⟨by rfl, (by intro w' hSw; obtain ⟨s1, s2, s3, s4, s5, s6⟩ := hSw; go_simp)⟩) (unhide HSY) ?_
              go_simp
              refine wpAnyH_take (i := 16) (oi := _) (v := .int .i64 sp) rfl (by kernel_rfl) (by kernel_rfl) (by kernel_rfl) (fun _ _ _ h => h) (Or.inl ⟨by rfl, (by intro w' hSw; obtain ⟨s1, s2, s3, s4, s5, s6⟩ := hSw; go_simp)⟩) (unhide HSY) ?_
              go_simp
              refine wpAnyH_take (i := 17) (oi := _) (v := .slice (some ⟨bb, bo, none⟩) L bcap) rfl (by kernel_rfl) (by kernel_rfl) (by kernel_rfl) (fun _ _ _ h => h) (Or.inl ⟨by rfl, (by intro w' hSw; obtain ⟨s1, s2, s3, s4, s5, s6⟩ := hSw; go_simp)⟩) (unhide HSY) ?_
              go_simp
              refine wpAnyH_take (i := 18) (oi := _) (v := .int .i64 (i : Int)) rfl (by kernel_rfl) (by kernel_rfl) (by kernel_rfl) (fun _ _ _ h => h) (Or.inl ⟨by rfl, (by intro w' hSw; obtain ⟨s1, s2, s3, s4, s5, s6⟩ := hSw; go_simp)⟩) (unhide HSY) ?_
              go_simp
              refine wpAnyH_take (i := 19) (oi := _) (v := .pointer (some ⟨bb, bo + i * 3, none⟩)) rfl (by kernel_rfl) (by kernel_rfl) (by kernel_rfl) (fun _ _ _ h => h) (Or.inl ⟨by rfl, (by intro w' hSw; obtain ⟨s1, s2, s3, s4, s5, s6⟩ := hSw; go_simp)⟩) (unhide HSY) ?_
              go_simp
              refine wpAnyH_take (i := 20) (oi := _) (v := .pointer (some ⟨bb, bo + i * 3 + 1, none⟩)) rfl (by kernel_rfl) (by kernel_rfl) (by kernel_rfl) (fun _ _ _ h => h) (Or.inl ⟨by rfl, (by intro w' hSw; obtain ⟨s1, s2, s3, s4, s5, s6⟩ := hSw; go_simp)⟩) (unhide HSY) ?_
              go_simp
              refine wpAnyH_take (i := 21) (oi := _) (v := .int .i64 sp) rfl (by kernel_rfl) (by kernel_rfl) (by kernel_rfl) (fun _ _ _ h => h) (Or.inl ⟨by rfl, (by intro w' hSw; obtain ⟨s1, s2, s3, s4, s5, s6⟩ := hSw; go_simp)⟩) (unhide HSY) ?_
              go_simp
              refine wpAnyH_take (i := 22) (oi := _) (v := .bool false) rfl (by kernel_rfl) (by kernel_rfl) (by kernel_rfl) (fun _ _ _ h => h) (Or.inl ⟨by rfl, (by intro w' hSw; obtain ⟨s1, s2, s3, s4, s5, s6⟩ := hSw; go_simp)⟩) (unhide HSY) ?_
              go_simp
              refine wpAnyH_take (i := 23) (oi := _) (v := .bool false) rfl (by kernel_rfl) (by kernel_rfl) (by kernel_rfl) (fun _ _ _ h => h) (Or.inl ⟨by rfl, (by intro w' hSw; obtain ⟨s1, s2, s3, s4, s5, s6⟩ := hSw; go_simp)⟩) (unhide HSY) ?_
              go_simp
              refine wpAnyH_take (i := 24) (oi := _) (v := .bool false) rfl (by kernel_rfl) (by kernel_rfl) (by kernel_rfl) (fun _ _ _ h => h) (Or.inl ⟨by rfl, (by intro w' hSw; obtain ⟨s1, s2, s3, s4, s5, s6⟩ := hSw; go_simp)⟩) (unhide HSY) ?_
              go_simp
              refine wpAnyH_take (i := 25) (oi := _) (v := .slice (some ⟨ab, ao, none⟩) L cap) rfl (by kernel_rfl) (by kernel_rfl) (by kernel_rfl) (fun _ _ _ h => h) (Or.inl ⟨by rfl, (by intro w' hSw; obtain ⟨s1, s2, s3, s4, s5, s6⟩ := hSw; go_simp)⟩) (unhide HSY) ?_
              go_simp
              refine wpAnyH_take (i := 26) (oi := _) (v := .int .i64 (i : Int)) rfl (by kernel_rfl) (by kernel_rfl) (by kernel_rfl) (fun _ _ _ h => h) (Or.inl ⟨by rfl, (by intro w' hSw; obtain ⟨s1, s2, s3, s4, s5, s6⟩ := hSw; go_simp)⟩) (unhide HSY) ?_
              go_simp
              refine wpAnyH_take (i := 27) (oi := _) (v := .pointer (some ⟨ab, ao + i * 3, none⟩)) rfl (by kernel_rfl) (by kernel_rfl) (by kernel_rfl) (fun _ _ _ h => h) (Or.inl ⟨by rfl, (by intro w' hSw; obtain ⟨s1, s2, s3, s4, s5, s6⟩ := hSw; go_simp)⟩) (unhide HSY) ?_
              go_simp
              refine wpAnyH_take (i := 28) (oi := _) (v := .pointer (some ⟨ab, ao + i * 3 + 2, none⟩)) rfl (by kernel_rfl) (by kernel_rfl) (by kernel_rfl) (fun _ _ _ h => h) (Or.inl ⟨by rfl, (by intro w' hSw; obtain ⟨s1, s2, s3, s4, s5, s6⟩ := hSw; go_simp)⟩) (unhide HSY) ?_
              go_simp
              refine wpAnyH_take (i := 29) (oi := _) (v := .slice xa SL xc) rfl (by kernel_rfl) (by kernel_rfl) (by kernel_rfl) (fun _ _ _ h => h) (Or.inl ⟨by rfl, (by intro w' hSw; obtain ⟨s1, s2, s3, s4, s5, s6⟩ := hSw; go_simp)⟩) (unhide HSY) ?_
              go_simp
              refine wpAnyH_take (i := 30) (oi := _) (v := .slice (some ⟨bb, bo, none⟩) L bcap) rfl (by kernel_rfl) (by kernel_rfl) (by kernel_rfl) (fun _ _ _ h => h) (Or.inl ⟨by rfl, (by intro w' hSw; obtain ⟨s1, s2, s3, s4, s5, s6⟩ := hSw; go_simp)⟩) (unhide HSY) ?_
              go_simp
              refine wpAnyH_take (i := 31) (oi := _) (v := .int .i64 (i : Int)) rfl (by kernel_rfl) (by kernel_rfl) (by kernel_rfl) (fun _ _ _ h => h) (Or.inl ⟨by rfl, (by intro w' hSw; obtain ⟨s1, s2, s3, s4, s5, s6⟩ := hSw; go_simp)⟩) (unhide HSY) ?_
              go_simp
              refine wpAnyH_take (i := 32) (oi := _) (v := .pointer (some ⟨bb, bo + i * 3, none⟩)) rfl (by kernel_rfl) (by kernel_rfl) (by kernel_rfl) (fun _ _ _ h => h) (Or.inl ⟨by rfl, (by intro w' hSw; obtain ⟨s1, s2, s3, s4, s5, s6⟩ := hSw; go_simp)⟩) (unhide HSY) ?_
              go_simp
              refine wpAnyH_take (i := 33) (oi := _) (v := .pointer (some ⟨bb, bo + i * 3 + 2, none⟩)) rfl (by kernel_rfl) (by kernel_rfl) (by kernel_rfl) (fun _ _ _ h => h) (Or.inl ⟨by rfl, (by intro w' hSw; obtain ⟨s1, s2, s3, s4, s5, s6⟩ := hSw; go_simp)⟩) (unhide HSY) ?_
              go_simp
              refine wpAnyH_take (i := 34) (oi := _) (v := .slice ya TL yc) rfl (by kernel_rfl) (by kernel_rfl) (by kernel_rfl) (fun _ _ _ h => h) (Or.inl ⟨by rfl, (by intro w' hSw; obtain ⟨s1, s2, s3, s4, s5, s6⟩ := hSw; go_simp)⟩) (unhide HSY) ?_
              go_simp
              have HC := hide (unhide HCS Y (unhide HBY))
              refine wpAnyH_ready (rs := [35]) (by kernel_rfl) (by simp) ?_
              refine AllReadyH.cons (o := _) rfl (fun K hK => ?_) AllReadyH.nil
              go_simp
              refine (unhide HC).mono ?_
              rintro e Y2 ⟨rfl, b2⟩
              have HBZ : Hid (Below w.heap.size w Y2) := bl_past (unhide HBY) b2
              clear b2 HC HSY
              have HSY := hide (unhide HSW Y2 (unhide HBZ))
              refine hK.out _ _ (unhide HSY) (fun _ => ?_)
              clear hK K
              go_simp
              refine wpAnyH_take (i := 36) (oi := _) (v := .bool false) rfl (by kernel_rfl) (by kernel_rfl) (by kernel_rfl) (fun _ _ _ h => h) (Or.inl ⟨by rfl, (by intro w' hSw; obtain ⟨s1, s2, s3, s4, s5, s6⟩ := hSw; go_simp)⟩) (unhide HSY) ?_
              go_simp
              refine wpAnyH_take (i := 37) (oi := _) (v := .bool false) rfl (by kernel_rfl) (by kernel_rfl) (by kernel_rfl) (fun _ _ _ h => h) (Or.inl ⟨by rfl, (by intro w' hSw; obtain ⟨s1, s2, s3, s4, s5, s6⟩ := hSw; go_simp)⟩) (unhide HSY) ?_
              go_simp
              refine wpAnyH_done (by kernel_rfl) ?_ _
              clear HSY HSW HCS
              go_wp2_with fail
              go_roundg (gk - 1)
              case measure => have := unhide hi; omega
              case rel => exact ⟨i + 1, by have := unhide hi; unfold Hid; omega, by go_num, unhide HBZ, unhide HPre⟩
            · have HDC : Hid (Dc (l = m) = false) := Dc_false (fun e => hsl (by have h1 := unhide HP; have h2 := unhide HQ; rw [e, h2] at h1; cases h1; rfl))
              rw [show Dc (s.sl = t.sl) = false from Dc_false hsl] at HCS
              clear hsl
              go_wp2_with fail
              obtain ⟨Y, hY⟩ : ∃ W, Hid (wr.drew = W) := ⟨_, hide rfl⟩
              have HBY : Hid (Below w.heap.size w Y) := by rw [← unhide hY]; exact (unhide hB).1.trans ⟨rfl, rfl, rfl, Nat.le_refl _, fun _ _ => rfl⟩
              have HSY := hide (unhide HSW Y (unhide HBY))
              refine wp_region_held_drew (S := (fun W => W.cell? ⟨ab, ao + i * 3, none⟩ = some (.int .i64 sf) ∧ W.cell? ⟨ab, ao + i * 3 + 1, none⟩ = some (.int .i64 sp) ∧ W.cell? ⟨ab, ao + i * 3 + 2, none⟩ = some (.slice xa SL xc) ∧ W.cell? ⟨bb, bo + i * 3, none⟩ = some (.int .i64 sf) ∧ W.cell? ⟨bb, bo + i * 3 + 1, none⟩ = some (.int .i64 sp) ∧ W.cell? ⟨bb, bo + i * 3 + 2, none⟩ = some (.slice ya TL yc))) (by kernel_rfl) (by rw [unhide hY]; exact unhide HSY) (fun hHeld => ?_)
              clear hHeld
              rw [unhide hY]
              clear hY
              refine wpAnyH_take (i := 0) (oi := _) (v := .slice (some ⟨ab, ao, none⟩) L cap) rfl (by kernel_rfl) (by kernel_rfl) (by kernel_rfl) (fun _ _ _ h => h) (Or.inl ⟨by rfl, (by intro w' hSw; obtain ⟨s1, s2, s3, s4, s5, s6⟩ := hSw; go_simp)⟩) (unhide HSY) ?_
              go_simp
              refine wpAnyH_take (i := 1) (oi := _) (v := .int .i64 (i : Int)) rfl (by kernel_rfl) (by kernel_rfl) (by kernel_rfl) (fun _ _ _ h => h) (Or.inl ⟨by rfl, (by intro w' hSw; obtain ⟨s1, s2, s3, s4, s5, s6⟩ := hSw; go_simp)⟩) (unhide HSY) ?_
              go_simp
              refine wpAnyH_take (i := 2) (oi := _) (v := .pointer (some ⟨ab, ao + i * 3, none⟩)) rfl (by kernel_rfl) (by kernel_rfl) (by kernel_rfl) (fun _ _ _ h => h) (Or.inl ⟨by rfl, (by intro w' hSw; obtain ⟨s1, s2, s3, s4, s5, s6⟩ := hSw; go_simp)⟩) (unhide HSY) ?_
              go_simp
              refine wpAnyH_take (i := 3) (oi := _) (v := .pointer (some ⟨ab, ao + i * 3, none⟩)) rfl (by kernel_rfl) (by kernel_rfl) (by kernel_rfl) (fun _ _ _ h => h) (Or.inl ⟨by rfl, (by intro w' hSw; obtain ⟨s1, s2, s3, s4, s5, s6⟩ := hSw; go_simp)⟩) (unhide HSY) ?_
              go_simp
              refine wpAnyH_take (i := 4) (oi := _) (v := .int .i64 sf) rfl (by kernel_rfl) (by kernel_rfl) (by kernel_rfl) (fun _ _ _ h => h) (Or.inl ⟨by rfl, (by intro w' hSw; obtain ⟨s1, s2, s3, s4, s5, s6⟩ := hSw; go_simp)⟩) (unhide HSY) ?_
              go_simp
              refine wpAnyH_take (i := 5) (oi := _) (v := .slice (some ⟨bb, bo, none⟩) L bcap) rfl (by kernel_rfl) (by kernel_rfl) (by kernel_rfl) (fun _ _ _ h => h) (Or.inl ⟨by rfl, (by intro w' hSw; obtain ⟨s1, s2, s3, s4, s5, s6⟩ := hSw; go_simp)⟩) (unhide HSY) ?_
              go_simp
              refine wpAnyH_take (i := 6) (oi := _) (v := .int .i64 (i : Int)) rfl (by kernel_rfl) (by kernel_rfl) (by kernel_rfl) (fun _ _ _ h => h) (Or.inl ⟨by rfl, (by intro w' hSw; obtain ⟨s1, s2, s3, s4, s5, s6⟩ := hSw; go_simp)⟩) (unhide HSY) ?_
              go_simp
              refine wpAnyH_take (i := 7) (oi := _) (v := .pointer (some ⟨bb, bo + i * 3, none⟩)) rfl (by kernel_rfl) (by kernel_rfl) (by kernel_rfl) (fun _ _ _ h => h) (Or.inl ⟨by rfl, (by intro w' hSw; obtain ⟨s1, s2, s3, s4, s5, s6⟩ := hSw; go_simp)⟩) (unhide HSY) ?_
              go_simp
              refine wpAnyH_take (i := 8) (oi := _) (v := .pointer (some ⟨bb, bo + i * 3, none⟩)) rfl (by kernel_rfl) (by kernel_rfl) (by kernel_rfl) (fun _ _ _ h => h) (Or.inl ⟨by rfl, (by intro w' hSw; obtain ⟨s1, s2, s3, s4, s5, s6⟩ := hSw; go_simp)⟩) (unhide HSY) ?_
              go_simp
              refine wpAnyH_take (i := 9) (oi := _) (v := .int .i64 sf) rfl (by kernel_rfl) (by kernel_rfl) (by kernel_rfl) (fun _ _ _ h => h) (Or.inl ⟨by rfl, (by intro w' hSw; obtain ⟨s1, s2, s3, s4, s5, s6⟩ := hSw; go_simp)⟩) (unhide HSY) ?_
              go_simp
              refine wpAnyH_take (i := 10) (oi := _) (v := .bool false) rfl (by kernel_rfl) (by kernel_rfl) (by kernel_rfl) (fun _ _ _ h => h) (Or.inl ⟨by rfl, (by intro w' hSw; obtain ⟨s1, s2, s3, s4, s5, s6⟩ := hSw; go_simp)⟩) (unhide HSY) ?_
              go_simp
              refine wpAnyH_take (i := 11) (oi := _) (v := .bool false) rfl (by kernel_rfl) (by kernel_rfl) (by kernel_rfl) (fun _ _ _ h => h) (Or.inl ⟨by rfl, (by intro w' hSw; obtain ⟨s1, s2, s3, s4, s5, s6⟩ := hSw; go_simp)⟩) (unhide HSY) ?_
              go_simp
              refine wpAnyH_take (i := 12) (oi := _) (v := .slice (some ⟨ab, ao, none⟩) L cap) rfl (by kernel_rfl) (by kernel_rfl) (by kernel_rfl) (fun _ _ _ h => h) (Or.inl ⟨by rfl, (by intro w' hSw; obtain ⟨s1, s2, s3, s4, s5, s6⟩ := hSw; go_simp)⟩) (unhide HSY) ?_
              go_simp
              refine wpAnyH_take (i := 13) (oi := _) (v := .int .i64 (i : Int)) rfl (by kernel_rfl) (by kernel_rfl) (by kernel_rfl) (fun _ _ _ h => h) (Or.inl ⟨by rfl, (by intro w' hSw; obtain ⟨s1, s2, s3, s4, s5, s6⟩ := hSw; go_simp)⟩) (unhide HSY) ?_
              go_simp
              refine wpAnyH_take (i := 14) (oi := _) (v := .pointer (some ⟨ab, ao + i * 3, none⟩)) rfl (by kernel_rfl) (by kernel_rfl) (by kernel_rfl) (fun _ _ _ h => h) (Or.inl ⟨by rfl, (by intro w' hSw; obtain ⟨s1, s2, s3, s4, s5, s6⟩ := hSw; go_simp)⟩) (unhide HSY) ?_
              go_simp
              refine wpAnyH_take (i := 15) (oi := _) (v := .pointer (some ⟨ab, ao + i * 3 + 1, none⟩)) rfl (by kernel_rfl) (by kernel_rfl) (by kernel_rfl) (fun _ _ _ h => h) (Or.inl ⟨by rfl, (by intro w' hSw; obtain ⟨s1, s2, s3, s4, s5, s6⟩ := hSw; go_simp)⟩) (unhide HSY) ?_
              go_simp
              refine wpAnyH_take (i := 16) (oi := _) (v := .int .i64 sp) rfl (by kernel_rfl) (by kernel_rfl) (by kernel_rfl) (fun _ _ _ h => h) (Or.inl ⟨by rfl, (by intro w' hSw; obtain ⟨s1, s2, s3, s4, s5, s6⟩ := hSw; go_simp)⟩) (unhide HSY) ?_
              go_simp
              refine wpAnyH_take (i := 17) (oi := _) (v := .slice (some ⟨bb, bo, none⟩) L bcap) rfl (by kernel_rfl) (by kernel_rfl) (by kernel_rfl) (fun _ _ _ h => h) (Or.inl ⟨by rfl, (by intro w' hSw; obtain ⟨s1, s2, s3, s4, s5, s6⟩ := hSw; go_simp)⟩) (unhide HSY) ?_
              go_simp
              refine wpAnyH_take (i := 18) (oi := _) (v := .int .i64 (i : Int)) rfl (by kernel_rfl) (by kernel_rfl) (by kernel_rfl) (fun _ _ _ h => h) (Or.inl ⟨by rfl, (by intro w' hSw; obtain ⟨s1, s2, s3, s4, s5, s6⟩ := hSw; go_simp)⟩) (unhide HSY) ?_
              go_simp
              refine wpAnyH_take (i := 19) (oi := _) (v := .pointer (some ⟨bb, bo + i * 3, none⟩)) rfl (by kernel_rfl) (by kernel_rfl) (by kernel_rfl) (fun _ _ _ h => h) (Or.inl ⟨by rfl, (by intro w' hSw; obtain ⟨s1, s2, s3, s4, s5, s6⟩ := hSw; go_simp)⟩) (unhide HSY) ?_
              go_simp
              refine wpAnyH_take (i := 20) (oi := _) (v := .pointer (some ⟨bb, bo + i * 3 + 1, none⟩)) rfl (by kernel_rfl) (by kernel_rfl) (by kernel_rfl) (fun _ _ _ h => h) (Or.inl ⟨by rfl, (by intro w' hSw; obtain ⟨s1, s2, s3, s4, s5, s6⟩ := hSw; go_simp)⟩) (unhide HSY) ?_
              go_simp
              refine wpAnyH_take (i := 21) (oi := _) (v := .int .i64 sp) rfl (by kernel_rfl) (by kernel_rfl) (by kernel_rfl) (fun _ _ _ h => h) (Or.inl ⟨by rfl, (by intro w' hSw; obtain ⟨s1, s2, s3, s4, s5, s6⟩ := hSw; go_simp)⟩) (unhide HSY) ?_
              go_simp
              refine wpAnyH_take (i := 22) (oi := _) (v := .bool false) rfl (by kernel_rfl) (by kernel_rfl) (by kernel_rfl) (fun _ _ _ h => h) (Or.inl ⟨by rfl, (by intro w' hSw; obtain ⟨s1, s2, s3, s4, s5, s6⟩ := hSw; go_simp)⟩) (unhide HSY) ?_
              go_simp
              refine wpAnyH_take (i := 23) (oi := _) (v := .bool false) rfl (by kernel_rfl) (by kernel_rfl) (by kernel_rfl) (fun _ _ _ h => h) (Or.inl ⟨by rfl, (by intro w' hSw; obtain ⟨s1, s2, s3, s4, s5, s6⟩ := hSw; go_simp)⟩) (unhide HSY) ?_
              go_simp
              refine wpAnyH_take (i := 24) (oi := _) (v := .bool false) rfl (by kernel_rfl) (by kernel_rfl) (by kernel_rfl) (fun _ _ _ h => h) (Or.inl ⟨by rfl, (by intro w' hSw; obtain ⟨s1, s2, s3, s4, s5, s6⟩ := hSw; go_simp)⟩) (unhide HSY) ?_
              go_simp
              refine wpAnyH_take (i := 25) (oi := _) (v := .slice (some ⟨ab, ao, none⟩) L cap) rfl (by kernel_rfl) (by kernel_rfl) (by kernel_rfl) (fun _ _ _ h => h) (Or.inl ⟨by rfl, (by intro w' hSw; obtain ⟨s1, s2, s3, s4, s5, s6⟩ := hSw; go_simp)⟩) (unhide HSY) ?_
              go_simp
              refine wpAnyH_take (i := 26) (oi := _) (v := .int .i64 (i : Int)) rfl (by kernel_rfl) (by kernel_rfl) (by kernel_rfl) (fun _ _ _ h => h) (Or.inl ⟨by rfl, (by intro w' hSw; obtain ⟨s1, s2, s3, s4, s5, s6⟩ := hSw; go_simp)⟩) (unhide HSY) ?_
              go_simp
              refine wpAnyH_take (i := 27) (oi := _) (v := .pointer (some ⟨ab, ao + i * 3, none⟩)) rfl (by kernel_rfl) (by kernel_rfl) (by kernel_rfl) (fun _ _ _ h => h) (Or.inl ⟨by rfl, (by intro w' hSw; obtain ⟨s1, s2, s3, s4, s5, s6⟩ := hSw; go_simp)⟩) (unhide HSY) ?_
              go_simp
              refine wpAnyH_take (i := 28) (oi := _) (v := .pointer (some ⟨ab, ao + i * 3 + 2, none⟩)) rfl (by kernel_rfl) (by kernel_rfl) (by kernel_rfl) (fun _ _ _ h => h) (Or.inl ⟨by rfl, (by intro w' hSw; obtain ⟨s1, s2, s3, s4, s5, s6⟩ := hSw; go_simp)⟩) (unhide HSY) ?_
              go_simp
              refine wpAnyH_take (i := 29) (oi := _) (v := .slice xa SL xc) rfl (by kernel_rfl) (by kernel_rfl) (by kernel_rfl) (fun _ _ _ h => h) (Or.inl ⟨by rfl, (by intro w' hSw; obtain ⟨s1, s2, s3, s4, s5, s6⟩ := hSw; go_simp)⟩) (unhide HSY) ?_
              go_simp
              refine wpAnyH_take (i := 30) (oi := _) (v := .slice (some ⟨bb, bo, none⟩) L bcap) rfl (by kernel_rfl) (by kernel_rfl) (by kernel_rfl) (fun _ _ _ h => h) (Or.inl ⟨by rfl, (by intro w' hSw; obtain ⟨s1, s2, s3, s4, s5, s6⟩ := hSw; go_simp)⟩) (unhide HSY) ?_
              go_simp
              refine wpAnyH_take (i := 31) (oi := _) (v := .int .i64 (i : Int)) rfl (by kernel_rfl) (by kernel_rfl) (by kernel_rfl) (fun _ _ _ h => h) (Or.inl ⟨by rfl, (by intro w' hSw; obtain ⟨s1, s2, s3, s4, s5, s6⟩ := hSw; go_simp)⟩) (unhide HSY) ?_
              go_simp
              refine wpAnyH_take (i := 32) (oi := _) (v := .pointer (some ⟨bb, bo + i * 3, none⟩)) rfl (by kernel_rfl) (by kernel_rfl) (by kernel_rfl) (fun _ _ _ h => h) (Or.inl ⟨by rfl, (by intro w' hSw; obtain ⟨s1, s2, s3, s4, s5, s6⟩ := hSw; go_simp)⟩) (unhide HSY) ?_
              go_simp
              refine wpAnyH_take (i := 33) (oi := _) (v := .pointer (some ⟨bb, bo + i * 3 + 2, none⟩)) rfl (by kernel_rfl) (by kernel_rfl) (by kernel_rfl) (fun _ _ _ h => h) (Or.inl ⟨by rfl, (by intro w' hSw; obtain ⟨s1, s2, s3, s4, s5, s6⟩ := hSw; go_simp)⟩) (unhide HSY) ?_
              go_simp
              refine wpAnyH_take (i := 34) (oi := _) (v := .slice ya TL yc) rfl (by kernel_rfl) (by kernel_rfl) (by kernel_rfl) (fun _ _ _ h => h) (Or.inl ⟨by rfl, (by intro w' hSw; obtain ⟨s1, s2, s3, s4, s5, s6⟩ := hSw; go_simp)⟩) (unhide HSY) ?_
              go_simp
              have HC := hide (unhide HCS Y (unhide HBY))
              refine wpAnyH_ready (rs := [35]) (by kernel_rfl) (by simp) ?_
              refine AllReadyH.cons (o := _) rfl (fun K hK => ?_) AllReadyH.nil
              go_simp
              refine (unhide HC).mono ?_
              rintro e Y2 ⟨rfl, b2⟩
              have HBZ : Hid (Below w.heap.size w Y2) := bl_past (unhide HBY) b2
              clear b2 HC HSY
              have HSY := hide (unhide HSW Y2 (unhide HBZ))
              refine hK.out _ _ (unhide HSY) (fun _ => ?_)
              clear hK K
              go_simp
              refine wpAnyH_take (i := 36) (oi := _) (v := .bool true) rfl (by kernel_rfl) (by kernel_rfl) (by kernel_rfl) (fun _ _ _ h => h) (Or.inl ⟨by rfl, (by intro w' hSw; obtain ⟨s1, s2, s3, s4, s5, s6⟩ := hSw; go_simp)⟩) (unhide HSY) ?_
              go_simp
              refine wpAnyH_take (i := 37) (oi := _) (v := .bool true) rfl (by kernel_rfl) (by kernel_rfl) (by kernel_rfl) (fun _ _ _ h => h) (Or.inl ⟨by rfl, (by intro w' hSw; obtain ⟨s1, s2, s3, s4, s5, s6⟩ := hSw; go_simp)⟩) (unhide HSY) ?_
              go_simp
              refine wpAnyH_done (by kernel_rfl) ?_ _
              clear HSY HSW HCS
              go_wp2_with fail
              go_ret
              exact ⟨by rw [unhide HDC]; first | done | rfl, unhide HBZ⟩
          · have HDC : Hid (Dc (l = m) = false) := Dc_false (fun e => hpc (by have h1 := unhide HP; have h2 := unhide HQ; rw [e, h2] at h1; cases h1; rw [← unhide hsp, ← unhide htp]))
            go_wp2_with fail
            obtain ⟨Y, hY⟩ : ∃ W, Hid (wr.drew = W) := ⟨_, hide rfl⟩
            have HBY : Hid (Below w.heap.size w Y) := by rw [← unhide hY]; exact (unhide hB).1.trans ⟨rfl, rfl, rfl, Nat.le_refl _, fun _ _ => rfl⟩
            have HSY := hide (unhide HSW Y (unhide HBY))
            refine wp_region_held_drew (S := (fun W => W.cell? ⟨ab, ao + i * 3, none⟩ = some (.int .i64 sf) ∧ W.cell? ⟨ab, ao + i * 3 + 1, none⟩ = some (.int .i64 sp) ∧ W.cell? ⟨ab, ao + i * 3 + 2, none⟩ = some (.slice xa SL xc) ∧ W.cell? ⟨bb, bo + i * 3, none⟩ = some (.int .i64 sf) ∧ W.cell? ⟨bb, bo + i * 3 + 1, none⟩ = some (.int .i64 tp) ∧ W.cell? ⟨bb, bo + i * 3 + 2, none⟩ = some (.slice ya TL yc))) (by kernel_rfl) (by rw [unhide hY]; exact unhide HSY) (fun hHeld => ?_)
            clear hHeld
            rw [unhide hY]
            clear hY
            refine wpAnyH_take (i := 0) (oi := _) (v := .slice (some ⟨ab, ao, none⟩) L cap) rfl (by kernel_rfl) (by kernel_rfl) (by kernel_rfl) (fun _ _ _ h => h) (Or.inl ⟨by rfl, (by intro w' hSw; obtain ⟨s1, s2, s3, s4, s5, s6⟩ := hSw; go_simp)⟩) (unhide HSY) ?_
            go_simp
            refine wpAnyH_take (i := 1) (oi := _) (v := .int .i64 (i : Int)) rfl (by kernel_rfl) (by kernel_rfl) (by kernel_rfl) (fun _ _ _ h => h) (Or.inl ⟨by rfl, (by intro w' hSw; obtain ⟨s1, s2, s3, s4, s5, s6⟩ := hSw; go_simp)⟩) (unhide HSY) ?_
            go_simp
            refine wpAnyH_take (i := 2) (oi := _) (v := .pointer (some ⟨ab, ao + i * 3, none⟩)) rfl (by kernel_rfl) (by kernel_rfl) (by kernel_rfl) (fun _ _ _ h => h) (Or.inl ⟨by rfl, (by intro w' hSw; obtain ⟨s1, s2, s3, s4, s5, s6⟩ := hSw; go_simp)⟩) (unhide HSY) ?_
            go_simp
            refine wpAnyH_take (i := 3) (oi := _) (v := .pointer (some ⟨ab, ao + i * 3, none⟩)) rfl (by kernel_rfl) (by kernel_rfl) (by kernel_rfl) (fun _ _ _ h => h) (Or.inl ⟨by rfl, (by intro w' hSw; obtain ⟨s1, s2, s3, s4, s5, s6⟩ := hSw; go_simp)⟩) (unhide HSY) ?_
            go_simp
            refine wpAnyH_take (i := 4) (oi := _) (v := .int .i64 sf) rfl (by kernel_rfl) (by kernel_rfl) (by kernel_rfl) (fun _ _ _ h => h) (Or.inl ⟨by rfl, (by intro w' hSw; obtain ⟨s1, s2, s3, s4, s5, s6⟩ := hSw; go_simp)⟩) (unhide HSY) ?_
            go_simp
            refine wpAnyH_take (i := 5) (oi := _) (v := .slice (some ⟨bb, bo, none⟩) L bcap) rfl (by kernel_rfl) (by kernel_rfl) (by kernel_rfl) (fun _ _ _ h => h) (Or.inl ⟨by rfl, (by intro w' hSw; obtain ⟨s1, s2, s3, s4, s5, s6⟩ := hSw; go_simp)⟩) (unhide HSY) ?_
            go_simp
            refine wpAnyH_take (i := 6) (oi := _) (v := .int .i64 (i : Int)) rfl (by kernel_rfl) (by kernel_rfl) (by kernel_rfl) (fun _ _ _ h => h) (Or.inl ⟨by rfl, (by intro w' hSw; obtain ⟨s1, s2, s3, s4, s5, s6⟩ := hSw; go_simp)⟩) (unhide HSY) ?_
            go_simp
            refine wpAnyH_take (i := 7) (oi := _) (v := .pointer (some ⟨bb, bo + i * 3, none⟩)) rfl (by kernel_rfl) (by kernel_rfl) (by kernel_rfl) (fun _ _ _ h => h) (Or.inl ⟨by rfl, (by intro w' hSw; obtain ⟨s1, s2, s3, s4, s5, s6⟩ := hSw; go_simp)⟩) (unhide HSY) ?_
            go_simp
            refine wpAnyH_take (i := 8) (oi := _) (v := .pointer (some ⟨bb, bo + i * 3, none⟩)) rfl (by kernel_rfl) (by kernel_rfl) (by kernel_rfl) (fun _ _ _ h => h) (Or.inl ⟨by rfl, (by intro w' hSw; obtain ⟨s1, s2, s3, s4, s5, s6⟩ := hSw; go_simp)⟩) (unhide HSY) ?_
            go_simp
            refine wpAnyH_take (i := 9) (oi := _) (v := .int .i64 sf) rfl (by kernel_rfl) (by kernel_rfl) (by kernel_rfl) (fun _ _ _ h => h) (Or.inl ⟨by rfl, (by intro w' hSw; obtain ⟨s1, s2, s3, s4, s5, s6⟩ := hSw; go_simp)⟩) (unhide HSY) ?_
            go_simp
            refine wpAnyH_take (i := 10) (oi := _) (v := .bool false) rfl (by kernel_rfl) (by kernel_rfl) (by kernel_rfl) (fun _ _ _ h => h) (Or.inl ⟨by rfl, (by intro w' hSw; obtain ⟨s1, s2, s3, s4, s5, s6⟩ := hSw; go_simp)⟩) (unhide HSY) ?_
            go_simp
            refine wpAnyH_take (i := 11) (oi := _) (v := .bool false) rfl (by kernel_rfl) (by kernel_rfl) (by kernel_rfl) (fun _ _ _ h => h) (Or.inl ⟨by rfl, (by intro w' hSw; obtain ⟨s1, s2, s3, s4, s5, s6⟩ := hSw; go_simp)⟩) (unhide HSY) ?_
            go_simp
            refine wpAnyH_take (i := 12) (oi := _) (v := .slice (some ⟨ab, ao, none⟩) L cap) rfl (by kernel_rfl) (by kernel_rfl) (by kernel_rfl) (fun _ _ _ h => h) (Or.inl ⟨by rfl, (by intro w' hSw; obtain ⟨s1, s2, s3, s4, s5, s6⟩ := hSw; go_simp)⟩) (unhide HSY) ?_
            go_simp
            refine wpAnyH_take (i := 13) (oi := _) (v := .int .i64 (i : Int)) rfl (by kernel_rfl) (by kernel_rfl) (by kernel_rfl) (fun _ _ _ h => h) (Or.inl ⟨by rfl, (by intro w' hSw; obtain ⟨s1, s2, s3, s4, s5, s6⟩ := hSw; go_simp)⟩) (unhide HSY) ?_
            go_simp
            refine wpAnyH_take (i := 14) (oi := _) (v := .pointer (some ⟨ab, ao + i * 3, none⟩)) rfl (by kernel_rfl) (by kernel_rfl) (by kernel_rfl) (fun _ _ _ h => h) (Or.inl ⟨by rfl, (by intro w' hSw; obtain ⟨s1, s2, s3, s4, s5, s6⟩ := hSw; go_simp)⟩) (unhide HSY) ?_
            go_simp
            refine wpAnyH_take (i := 15) (oi := _) (v := .pointer (some ⟨ab, ao + i * 3 + 1, none⟩)) rfl (by kernel_rfl) (by kernel_rfl) (by kernel_rfl) (fun _ _ _ h => h) (Or.inl ⟨by rfl, (by intro w' hSw; obtain ⟨s1, s2, s3, s4, s5, s6⟩ := hSw; go_simp)⟩) (unhide HSY) ?_
            go_simp
            refine wpAnyH_take (i := 16) (oi := _) (v := .int .i64 sp) rfl (by kernel_rfl) (by kernel_rfl) (by kernel_rfl) (fun _ _ _ h => h) (Or.inl ⟨by rfl, (by intro w' hSw; obtain ⟨s1, s2, s3, s4, s5, s6⟩ := hSw; go_simp)⟩) (unhide HSY) ?_
            go_simp
            refine wpAnyH_take (i := 17) (oi := _) (v := .slice (some ⟨bb, bo, none⟩) L bcap) rfl (by kernel_rfl) (by kernel_rfl) (by kernel_rfl) (fun _ _ _ h => h) (Or.inl ⟨by rfl, (by intro w' hSw; obtain ⟨s1, s2, s3, s4, s5, s6⟩ := hSw; go_simp)⟩) (unhide HSY) ?_
            go_simp
            refine wpAnyH_take (i := 18) (oi := _) (v := .int .i64 (i : Int)) rfl (by kernel_rfl) (by kernel_rfl) (by kernel_rfl) (fun _ _ _ h => h) (Or.inl ⟨by rfl, (by intro w' hSw; obtain ⟨s1, s2, s3, s4, s5, s6⟩ := hSw; go_simp)⟩) (unhide HSY) ?_
            go_simp
            refine wpAnyH_take (i := 19) (oi := _) (v := .pointer (some ⟨bb, bo + i * 3, none⟩)) rfl (by kernel_rfl) (by kernel_rfl) (by kernel_rfl) (fun _ _ _ h => h) (Or.inl ⟨by rfl, (by intro w' hSw; obtain ⟨s1, s2, s3, s4, s5, s6⟩ := hSw; go_simp)⟩) (unhide HSY) ?_
            go_simp
            refine wpAnyH_take (i := 20) (oi := _) (v := .pointer (some ⟨bb, bo + i * 3 + 1, none⟩)) rfl (by kernel_rfl) (by kernel_rfl) (by kernel_rfl) (fun _ _ _ h => h) (Or.inl ⟨by rfl, (by intro w' hSw; obtain ⟨s1, s2, s3, s4, s5, s6⟩ := hSw; go_simp)⟩) (unhide HSY) ?_
            go_simp
            refine wpAnyH_take (i := 21) (oi := _) (v := .int .i64 tp) rfl (by kernel_rfl) (by kernel_rfl) (by kernel_rfl) (fun _ _ _ h => h) (Or.inl ⟨by rfl, (by intro w' hSw; obtain ⟨s1, s2, s3, s4, s5, s6⟩ := hSw; go_simp)⟩) (unhide HSY) ?_
            go_simp
            refine wpAnyH_take (i := 22) (oi := _) (v := .bool true) rfl (by kernel_rfl) (by kernel_rfl) (by kernel_rfl) (fun _ _ _ h => h) (Or.inl ⟨by rfl, (by intro w' hSw; obtain ⟨s1, s2, s3, s4, s5, s6⟩ := hSw; go_simp)⟩) (unhide HSY) ?_
            go_simp
            refine wpAnyH_take (i := 23) (oi := _) (v := .bool true) rfl (by kernel_rfl) (by kernel_rfl) (by kernel_rfl) (fun _ _ _ h => h) (Or.inl ⟨by rfl, (by intro w' hSw; obtain ⟨s1, s2, s3, s4, s5, s6⟩ := hSw; go_simp)⟩) (unhide HSY) ?_
            go_simp
            refine wpAnyH_take (i := 24) (oi := _) (v := .bool true) rfl (by kernel_rfl) (by kernel_rfl) (by kernel_rfl) (fun _ _ _ h => h) (Or.inl ⟨by rfl, (by intro w' hSw; obtain ⟨s1, s2, s3, s4, s5, s6⟩ := hSw; go_simp)⟩) (unhide HSY) ?_
            go_simp
            refine wpAnyH_take (i := 25) (oi := _) (v := undef) rfl (by kernel_rfl) (by kernel_rfl) (by kernel_rfl) (fun _ _ _ h => h) (Or.inr ⟨by rfl, rfl⟩) (unhide HSY) ?_
            go_simp
            refine wpAnyH_take (i := 26) (oi := _) (v := undef) rfl (by kernel_rfl) (by kernel_rfl) (by kernel_rfl) (fun _ _ _ h => h) (Or.inr ⟨by rfl, rfl⟩) (unhide HSY) ?_
            go_simp
            refine wpAnyH_take (i := 27) (oi := _) (v := undef) rfl (by kernel_rfl) (by kernel_rfl) (by kernel_rfl) (fun _ _ _ h => h) (Or.inr ⟨by rfl, rfl⟩) (unhide HSY) ?_
            go_simp
            refine wpAnyH_take (i := 28) (oi := _) (v := undef) rfl (by kernel_rfl) (by kernel_rfl) (by kernel_rfl) (fun _ _ _ h => h) (Or.inr ⟨by rfl, rfl⟩) (unhide HSY) ?_
            go_simp
            refine wpAnyH_take (i := 29) (oi := _) (v := undef) rfl (by kernel_rfl) (by kernel_rfl) (by kernel_rfl) (fun _ _ _ h => h) (Or.inr ⟨by rfl, rfl⟩) (unhide HSY) ?_
            go_simp
            refine wpAnyH_take (i := 30) (oi := _) (v := undef) rfl (by kernel_rfl) (by kernel_rfl) (by kernel_rfl) (fun _ _ _ h => h) (Or.inr ⟨by rfl, rfl⟩) (unhide HSY) ?_
            go_simp
            refine wpAnyH_take (i := 31) (oi := _) (v := undef) rfl (by kernel_rfl) (by kernel_rfl) (by kernel_rfl) (fun _ _ _ h => h) (Or.inr ⟨by rfl, rfl⟩) (unhide HSY) ?_
            go_simp
            refine wpAnyH_take (i := 32) (oi := _) (v := undef) rfl (by kernel_rfl) (by kernel_rfl) (by kernel_rfl) (fun _ _ _ h => h) (Or.inr ⟨by rfl, rfl⟩) (unhide HSY) ?_
            go_simp
            refine wpAnyH_take (i := 33) (oi := _) (v := undef) rfl (by kernel_rfl) (by kernel_rfl) (by kernel_rfl) (fun _ _ _ h => h) (Or.inr ⟨by rfl, rfl⟩) (unhide HSY) ?_
            go_simp
            refine wpAnyH_take (i := 34) (oi := _) (v := undef) rfl (by kernel_rfl) (by kernel_rfl) (by kernel_rfl) (fun _ _ _ h => h) (Or.inr ⟨by rfl, rfl⟩) (unhide HSY) ?_
            go_simp
            refine wpAnyH_ready (rs := [35]) (by kernel_rfl) (by simp) ?_
            refine AllReadyH.cons (o := _) rfl (fun K hK => ?_) AllReadyH.nil
            go_simp
            refine hK.out _ _ (unhide HSY) (fun _ => ?_)
            clear hK K
            go_simp
            refine wpAnyH_take (i := 36) (oi := _) (v := undef) rfl (by kernel_rfl) (by kernel_rfl) (by kernel_rfl) (fun _ _ _ h => h) (Or.inr ⟨by rfl, rfl⟩) (unhide HSY) ?_
            go_simp
            refine wpAnyH_take (i := 37) (oi := _) (v := .bool true) rfl (by kernel_rfl) (by kernel_rfl) (by kernel_rfl) (fun _ _ _ h => h) (Or.inl ⟨by rfl, (by intro w' hSw; obtain ⟨s1, s2, s3, s4, s5, s6⟩ := hSw; go_simp)⟩) (unhide HSY) ?_
            go_simp
            refine wpAnyH_done (by kernel_rfl) ?_ _
            clear HSY HSW HCS
            go_wp2_with fail
            go_ret
            exact ⟨by rw [unhide HDC]; first | done | rfl, unhide HBY⟩
        · have HDC : Hid (Dc (l = m) = false) := Dc_false (fun e => hfn (by have h1 := unhide HP; have h2 := unhide HQ; rw [e, h2] at h1; cases h1; rw [← unhide hsf, ← unhide htf]))
          go_wp2_with fail
          obtain ⟨Y, hY⟩ : ∃ W, Hid (wr.drew = W) := ⟨_, hide rfl⟩
          have HBY : Hid (Below w.heap.size w Y) := by rw [← unhide hY]; exact (unhide hB).1.trans ⟨rfl, rfl, rfl, Nat.le_refl _, fun _ _ => rfl⟩
          have HSY := hide (unhide HSW Y (unhide HBY))
          refine wp_region_held_drew (S := (fun W => W.cell? ⟨ab, ao + i * 3, none⟩ = some (.int .i64 sf) ∧ W.cell? ⟨ab, ao + i * 3 + 1, none⟩ = some (.int .i64 sp) ∧ W.cell? ⟨ab, ao + i * 3 + 2, none⟩ = some (.slice xa SL xc) ∧ W.cell? ⟨bb, bo + i * 3, none⟩ = some (.int .i64 tf) ∧ W.cell? ⟨bb, bo + i * 3 + 1, none⟩ = some (.int .i64 tp) ∧ W.cell? ⟨bb, bo + i * 3 + 2, none⟩ = some (.slice ya TL yc))) (by kernel_rfl) (by rw [unhide hY]; exact unhide HSY) (fun hHeld => ?_)
          clear hHeld
          rw [unhide hY]
          clear hY
          refine wpAnyH_take (i := 0) (oi := _) (v := .slice (some ⟨ab, ao, none⟩) L cap) rfl (by kernel_rfl) (by kernel_rfl) (by kernel_rfl) (fun _ _ _ h => h) (Or.inl ⟨by rfl, (by intro w' hSw; obtain ⟨s1, s2, s3, s4, s5, s6⟩ := hSw; go_simp)⟩) (unhide HSY) ?_
          go_simp
          refine wpAnyH_take (i := 1) (oi := _) (v := .int .i64 (i : Int)) rfl (by kernel_rfl) (by kernel_rfl) (by kernel_rfl) (fun _ _ _ h => h) (Or.inl ⟨by rfl, (by intro w' hSw; obtain ⟨s1, s2, s3, s4, s5, s6⟩ := hSw; go_simp)⟩) (unhide HSY) ?_
          go_simp
          refine wpAnyH_take (i := 2) (oi := _) (v := .pointer (some ⟨ab, ao + i * 3, none⟩)) rfl (by kernel_rfl) (by kernel_rfl) (by kernel_rfl) (fun _ _ _ h => h) (Or.inl ⟨by rfl, (by intro w' hSw; obtain ⟨s1, s2, s3, s4, s5, s6⟩ := hSw; go_simp)⟩) (unhide HSY) ?_
          go_simp
          refine wpAnyH_take (i := 3) (oi := _) (v := .pointer (some ⟨ab, ao + i * 3, none⟩)) rfl (by kernel_rfl) (by kernel_rfl) (by kernel_rfl) (fun _ _ _ h => h) (Or.inl ⟨by rfl, (by intro w' hSw; obtain ⟨s1, s2, s3, s4, s5, s6⟩ := hSw; go_simp)⟩) (unhide HSY) ?_
          go_simp
          refine wpAnyH_take (i := 4) (oi := _) (v := .int .i64 sf) rfl (by kernel_rfl) (by kernel_rfl) (by kernel_rfl) (fun _ _ _ h => h) (Or.inl ⟨by rfl, (by intro w' hSw; obtain ⟨s1, s2, s3, s4, s5, s6⟩ := hSw; go_simp)⟩) (unhide HSY) ?_
          go_simp
          refine wpAnyH_take (i := 5) (oi := _) (v := .slice (some ⟨bb, bo, none⟩) L bcap) rfl (by kernel_rfl) (by kernel_rfl) (by kernel_rfl) (fun _ _ _ h => h) (Or.inl ⟨by rfl, (by intro w' hSw; obtain ⟨s1, s2, s3, s4, s5, s6⟩ := hSw; go_simp)⟩) (unhide HSY) ?_
          go_simp
          refine wpAnyH_take (i := 6) (oi := _) (v := .int .i64 (i : Int)) rfl (by kernel_rfl) (by kernel_rfl) (by kernel_rfl) (fun _ _ _ h => h) (Or.inl ⟨by rfl, (by intro w' hSw; obtain ⟨s1, s2, s3, s4, s5, s6⟩ := hSw; go_simp)⟩) (unhide HSY) ?_
          go_simp
          refine wpAnyH_take (i := 7) (oi := _) (v := .pointer (some ⟨bb, bo + i * 3, none⟩)) rfl (by kernel_rfl) (by kernel_rfl) (by kernel_rfl) (fun _ _ _ h => h) (Or.inl ⟨by rfl, (by intro w' hSw; obtain ⟨s1, s2, s3, s4, s5, s6⟩ := hSw; go_simp)⟩) (unhide HSY) ?_
          go_simp
          refine wpAnyH_take (i := 8) (oi := _) (v := .pointer (some ⟨bb, bo + i * 3, none⟩)) rfl (by kernel_rfl) (by kernel_rfl) (by kernel_rfl) (fun _ _ _ h => h) (Or.inl ⟨by rfl, (by intro w' hSw; obtain ⟨s1, s2, s3, s4, s5, s6⟩ := hSw; go_simp)⟩) (unhide HSY) ?_
          go_simp
          refine wpAnyH_take (i := 9) (oi := _) (v := .int .i64 tf) rfl (by kernel_rfl) (by kernel_rfl) (by kernel_rfl) (fun _ _ _ h => h) (Or.inl ⟨by rfl, (by intro w' hSw; obtain ⟨s1, s2, s3, s4, s5, s6⟩ := hSw; go_simp)⟩) (unhide HSY) ?_
          go_simp
          refine wpAnyH_take (i := 10) (oi := _) (v := .bool true) rfl (by kernel_rfl) (by kernel_rfl) (by kernel_rfl) (fun _ _ _ h => h) (Or.inl ⟨by rfl, (by intro w' hSw; obtain ⟨s1, s2, s3, s4, s5, s6⟩ := hSw; go_simp)⟩) (unhide HSY) ?_
          go_simp
          refine wpAnyH_take (i := 11) (oi := _) (v := .bool true) rfl (by kernel_rfl) (by kernel_rfl) (by kernel_rfl) (fun _ _ _ h => h) (Or.inl ⟨by rfl, (by intro w' hSw; obtain ⟨s1, s2, s3, s4, s5, s6⟩ := hSw; go_simp)⟩) (unhide HSY) ?_
          go_simp
          refine wpAnyH_take (i := 12) (oi := _) (v := undef) rfl (by kernel_rfl) (by kernel_rfl) (by kernel_rfl) (fun _ _ _ h => h) (Or.inr ⟨by rfl, rfl⟩) (unhide HSY) ?_
          go_simp
          refine wpAnyH_take (i := 13) (oi := _) (v := undef) rfl (by kernel_rfl) (by kernel_rfl) (by kernel_rfl) (fun _ _ _ h => h) (Or.inr ⟨by rfl, rfl⟩) (unhide HSY) ?_
          go_simp
          refine wpAnyH_take (i := 14) (oi := _) (v := undef) rfl (by kernel_rfl) (by kernel_rfl) (by kernel_rfl) (fun _ _ _ h => h) (Or.inr ⟨by rfl, rfl⟩) (unhide HSY) ?_
          go_simp
          refine wpAnyH_take (i := 15) (oi := _) (v := undef) rfl (by kernel_rfl) (by kernel_rfl) (by kernel_rfl) (fun _ _ _ h => h) (Or.inr ⟨by rfl, rfl⟩) (unhide HSY) ?_
          go_simp
          refine wpAnyH_take (i := 16) (oi := _) (v := undef) rfl (by kernel_rfl) (by kernel_rfl) (by kernel_rfl) (fun _ _ _ h => h) (Or.inr ⟨by rfl, rfl⟩) (unhide HSY) ?_
          go_simp
          refine wpAnyH_take (i := 17) (oi := _) (v := undef) rfl (by kernel_rfl) (by kernel_rfl) (by kernel_rfl) (fun _ _ _ h => h) (Or.inr ⟨by rfl, rfl⟩) (unhide HSY) ?_
          go_simp
          refine wpAnyH_take (i := 18) (oi := _) (v := undef) rfl (by kernel_rfl) (by kernel_rfl) (by kernel_rfl) (fun _ _ _ h => h) (Or.inr ⟨by rfl, rfl⟩) (unhide HSY) ?_
          go_simp
          refine wpAnyH_take (i := 19) (oi := _) (v := undef) rfl (by kernel_rfl) (by kernel_rfl) (by kernel_rfl) (fun _ _ _ h => h) (Or.inr ⟨by rfl, rfl⟩) (unhide HSY) ?_
          go_simp
          refine wpAnyH_take (i := 20) (oi := _) (v := undef) rfl (by kernel_rfl) (by kernel_rfl) (by kernel_rfl) (fun _ _ _ h => h) (Or.inr ⟨by rfl, rfl⟩) (unhide HSY) ?_
          go_simp
          refine wpAnyH_take (i := 21) (oi := _) (v := undef) rfl (by kernel_rfl) (by kernel_rfl) (by kernel_rfl) (fun _ _ _ h => h) (Or.inr ⟨by rfl, rfl⟩) (unhide HSY) ?_
          go_simp
          refine wpAnyH_take (i := 22) (oi := _) (v := undef) rfl (by kernel_rfl) (by kernel_rfl) (by kernel_rfl) (fun _ _ _ h => h) (Or.inr ⟨by rfl, rfl⟩) (unhide HSY) ?_
          go_simp
          refine wpAnyH_take (i := 23) (oi := _) (v := .bool true) rfl (by kernel_rfl) (by kernel_rfl) (by kernel_rfl) (fun _ _ _ h => h) (Or.inl ⟨by rfl, (by intro w' hSw; obtain ⟨s1, s2, s3, s4, s5, s6⟩ := hSw; go_simp)⟩) (unhide HSY) ?_
          go_simp
          refine wpAnyH_take (i := 24) (oi := _) (v := .bool true) rfl (by kernel_rfl) (by kernel_rfl) (by kernel_rfl) (fun _ _ _ h => h) (Or.inl ⟨by rfl, (by intro w' hSw; obtain ⟨s1, s2, s3, s4, s5, s6⟩ := hSw; go_simp)⟩) (unhide HSY) ?_
          go_simp
          refine wpAnyH_take (i := 25) (oi := _) (v := undef) rfl (by kernel_rfl) (by kernel_rfl) (by kernel_rfl) (fun _ _ _ h => h) (Or.inr ⟨by rfl, rfl⟩) (unhide HSY) ?_
          go_simp
          refine wpAnyH_take (i := 26) (oi := _) (v := undef) rfl (by kernel_rfl) (by kernel_rfl) (by kernel_rfl) (fun _ _ _ h => h) (Or.inr ⟨by rfl, rfl⟩) (unhide HSY) ?_
          go_simp
          refine wpAnyH_take (i := 27) (oi := _) (v := undef) rfl (by kernel_rfl) (by kernel_rfl) (by kernel_rfl) (fun _ _ _ h => h) (Or.inr ⟨by rfl, rfl⟩) (unhide HSY) ?_
          go_simp
          refine wpAnyH_take (i := 28) (oi := _) (v := undef) rfl (by kernel_rfl) (by kernel_rfl) (by kernel_rfl) (fun _ _ _ h => h) (Or.inr ⟨by rfl, rfl⟩) (unhide HSY) ?_
          go_simp
          refine wpAnyH_take (i := 29) (oi := _) (v := undef) rfl (by kernel_rfl) (by kernel_rfl) (by kernel_rfl) (fun _ _ _ h => h) (Or.inr ⟨by rfl, rfl⟩) (unhide HSY) ?_
          go_simp
          refine wpAnyH_take (i := 30) (oi := _) (v := undef) rfl (by kernel_rfl) (by kernel_rfl) (by kernel_rfl) (fun _ _ _ h => h) (Or.inr ⟨by rfl, rfl⟩) (unhide HSY) ?_
          go_simp
          refine wpAnyH_take (i := 31) (oi := _) (v := undef) rfl (by kernel_rfl) (by kernel_rfl) (by kernel_rfl) (fun _ _ _ h => h) (Or.inr ⟨by rfl, rfl⟩) (unhide HSY) ?_
          go_simp
          refine wpAnyH_take (i := 32) (oi := _) (v := undef) rfl (by kernel_rfl) (by kernel_rfl) (by kernel_rfl) (fun _ _ _ h => h) (Or.inr ⟨by rfl, rfl⟩) (unhide HSY) ?_
          go_simp
          refine wpAnyH_take (i := 33) (oi := _) (v := undef) rfl (by kernel_rfl) (by kernel_rfl) (by kernel_rfl) (fun _ _ _ h => h) (Or.inr ⟨by rfl, rfl⟩) (unhide HSY) ?_
          go_simp
          refine wpAnyH_take (i := 34) (oi := _) (v := undef) rfl (by kernel_rfl) (by kernel_rfl) (by kernel_rfl) (fun _ _ _ h => h) (Or.inr ⟨by rfl, rfl⟩) (unhide HSY) ?_
          go_simp
          refine wpAnyH_ready (rs := [35]) (by kernel_rfl) (by simp) ?_
          refine AllReadyH.cons (o := _) rfl (fun K hK => ?_) AllReadyH.nil
          go_simp
          refine hK.out _ _ (unhide HSY) (fun _ => ?_)
          clear hK K
          go_simp
          refine wpAnyH_take (i := 36) (oi := _) (v := undef) rfl (by kernel_rfl) (by kernel_rfl) (by kernel_rfl) (fun _ _ _ h => h) (Or.inr ⟨by rfl, rfl⟩) (unhide HSY) ?_
          go_simp
          refine wpAnyH_take (i := 37) (oi := _) (v := .bool true) rfl (by kernel_rfl) (by kernel_rfl) (by kernel_rfl) (fun _ _ _ h => h) (Or.inl ⟨by rfl, (by intro w' hSw; obtain ⟨s1, s2, s3, s4, s5, s6⟩ := hSw; go_simp)⟩) (unhide HSY) ?_
          go_simp
          refine wpAnyH_done (by kernel_rfl) ?_ _
          clear HSY HSW HCS
          go_wp2_with fail
          go_ret
          exact ⟨by rw [unhide HDC]; first | done | rfl, unhide HBY⟩
      · have hiL : i = L := by have := unhide hi; omega
        subst hiL
        have HDC : Hid (Dc (l = m) = true) := Dc_true (pre_ext (by rw [unhide hL, unhide hL2]) (fun j x y hx hy => (unhide hB).2 j x y (by rw [← unhide hL]; exact (List.getElem?_eq_some_iff.1 hx).1) hx hy))
        have hB3 := hide (unhide hB).1
        clear HA HB hB
        go_wp2_with fail
        go_ret
        exact ⟨by rw [unhide HDC]; first | done | rfl, unhide hB3⟩
  · have HDC : Hid (Dc (l = m) = false) := Dc_false (fun e => hlm (by rw [e]))
    obtain ⟨L, hL⟩ : ∃ L, Hid (l.length = L) := ⟨_, hide rfl⟩
    obtain ⟨M, hL2⟩ : ∃ L, Hid (m.length = L) := ⟨_, hide rfl⟩
    rw [unhide hL] at hN HA hac hlm ⊢
    rw [unhide hL2] at hN2 HB hbc hlm ⊢
    have hne : ¬ (L : Int) = (M : Int) := by omega
    go_enter Tryd.func57, Tryd.ntmps57
    go_wp2_with fail
    go_ret
    exact ⟨by rw [unhide HDC]; first | done | rfl, Below.refl _ _⟩
end Go.Proofs.YtpbdmbmafjkinaaDoor
