/-
  fits, of the statements, for any list.
-/
import Derived.Test.YtbphddocgdihjaaDoorVTake
namespace Go.Proofs.YtbphddocgdihjaaDoor
open Go.RowKit
set_option linter.unusedVariables false
set_option linter.unusedSimpArgs false
/-- What fits answers. -/
def FitR (f : Fc) (hts : List Int) (p : Nat) (op a h : Int) (w : World) (e : Ending) (w' : World) : Prop := ∃ b, e = .returned (.bool b) ∧ (b = true ↔ FitO f hts p op a h) ∧ Below w.heap.size w w'
set_option maxRecDepth 100000 in
set_option maxHeartbeats 6400000 in
theorem fits_any' {w : World} {f : Fc} {x : Fv} {hv : Value} {hts : List Int} {p : Nat} {op a h : Int} (hx : FnV w f x) (hr : Rn w hv hts) (hf : OkF f) (hi : f.code[p]? = some (op, a)) (hh : hts[p]? = some h) (hbd : ∀ y ∈ hts, -10000 ≤ y ∧ y ≤ 10000) (hl : hts.length = f.code.length) :
    Calls Tryd.prog 18 #[.agg #[.string x.name, .int .i64 x.params, .int .i64 x.locals, x.cv, x.hv], hv, .int .i64 (p : Int)] w fun e w' => FitR f hts p op a h w e w' := by
  obtain ⟨hokb, hjmp⟩ := hf.ins p op a hi
  have hN := hf.nm
  have hH := hf.hm
  have hok : ∀ k ∈ f.hs, 0 ≤ k.height ∧ k.height < 64 ∧ 0 ≤ k.target ∧ k.target < (f.code.length : Int) := fun k hk => by have := hf.hd k hk; omega
  have hhb := hbd h (List.mem_of_getElem? hh)
  have HHI := hide hi
  have HHH := hide hh
  have HOB := hide hokb
  have hnr : ∀ y ∈ nxl f.code.length op a p, 0 ≤ y ∧ y < (f.code.length : Int) := fun y hy => by
    unfold nxl at hy
    rw [List.mem_append] at hy
    rcases hy with hy | hy
    · split at hy
      · rename_i hj
        simp at hy; subst hy; exact hjmp hj
      · simp at hy
    · split at hy
      · rename_i hc
        simp at hy; subst hy; have := hc.2; omega
      · simp at hy
  have HNR := hide hnr
  obtain ⟨cb, co, cc, ecv, _, _, lc, hc⟩ := Rx.elem zI hx.2.2.2.1 hi
  obtain ⟨N, hNN⟩ : ∃ N, Hid (f.code.length = N) := ⟨_, rfl⟩
  obtain ⟨H, hHH⟩ : ∃ N, Hid (f.hs.length = N) := ⟨_, rfl⟩
  have hp : p < N := by rw [← unhide hNN]; exact (List.getElem?_eq_some_iff.1 hi).1
  have HX := hide hx
  have HR := hide hr
  have HOK := hide hok
  rw [unhide hNN] at ecv hN hl
  rw [unhide hHH] at hH
  have k0 := hc 0 _ rfl
  have k1 := hc 1 _ rfl
  rw [Nat.add_zero] at k0
  obtain ⟨_, ha2, hc2, ehv, hhl, hhm, _⟩ := hx.2.2.2.2
  rw [unhide hHH] at ehv hhl
  obtain ⟨hb, ho, hcap, ehts, _, kh⟩ := hr.at hh
  rw [hl] at ehts
  have lh := World.block_lt_of_cell? _ _ kh
  obtain ⟨T, hT⟩ : ∃ T, Hid (tkI op a = T) := ⟨_, rfl⟩
  obtain ⟨U, hU⟩ : ∃ U, Hid (ptI op a = U) := ⟨_, rfl⟩
  have hTB : 0 ≤ T ∧ T ≤ 66 ∧ 0 ≤ U ∧ U ≤ 2 := by rw [← unhide hT, ← unhide hU]; exact tp_bounds' hokb
  obtain ⟨kp, hKP⟩ : ∃ kp, Hid (h - T = kp) := ⟨_, rfl⟩
  obtain ⟨bh, hBH⟩ : ∃ bh, Hid (h - T + U = bh) := ⟨_, rfl⟩
  have hkb : Hid (kp = h - T ∧ bh = kp + U) := by have := unhide hKP; have := unhide hBH; unfold Hid; omega
  have hw1 : IntKind.i64.wrap (h - T) = kp := by have := unhide hkb; rw [IntKind.wrap_i64]; omega
  have hw2 : IntKind.i64.wrap (kp + U) = bh := by have := unhide hkb; rw [IntKind.wrap_i64]; omega
  have HEF : Hid (∀ w, Calls Tryd.prog 21 #[.agg #[.int .i64 op, .int .i64 a]] w fun e w' => e = .returned (.tuple #[.int .i64 T, .int .i64 U, .bool true]) ∧ Below w.heap.size w w') := fun w => by
    have := effect_any w op a
    rw [unhide hT, unhide hU, hokb] at this
    exact this
  have p0 : (0 : Int) ≤ (p : Int) := by omega
  have p1 : (p : Int) < (N : Int) := by omega
  obtain ⟨X1, eX1⟩ : ∃ X1, X1 = w.alloc (.cells #[.string x.name, .int .i64 x.params, .int .i64 x.locals, x.cv, x.hv] 40) := ⟨_, rfl⟩
  have b1 : Below w.heap.size w X1 := by rw [eX1]; exact (Below.refl _ w).alloc (Nat.le_refl _) _
  have nb := fun j z (hz : #[Value.string x.name, .int .i64 x.params, .int .i64 x.locals, x.cv, x.hv].toList[j]? = some z) => new_cells w #[.string x.name, .int .i64 x.params, .int .i64 x.locals, x.cv, x.hv] 40 j z hz
  have HBX : Hid (∀ j z, [Value.string x.name, .int .i64 x.params, .int .i64 x.locals, x.cv, x.hv][j]? = some z → X1.cell? ⟨w.heap.size, j, none⟩ = some z) := fun j z hz => by
    have := nb j z hz; rw [Go.WideShapes.add_plain, Nat.zero_add] at this; rw [eX1]; exact this
  have lx : w.heap.size < X1.heap.size := by rw [eX1]; simp
  obtain ⟨nm, pr, lcl, cv', hv'⟩ := x
  simp only at ecv ehv eX1
  subst ecv ehv ehts
  have HB1 := hide b1
  clear hx hr hc nb b1 hok hi hh hokb hjmp hnr hbd hf
  go_enter Tryd.func18, Tryd.ntmps18
  go_wp2_with fail
  rw [← eX1]
  refine (unhide HEF _).mono ?_
  rintro e X2 ⟨rfl, hb2⟩
  have HBX2 : Hid (∀ j z, [Value.string nm, .int .i64 pr, .int .i64 lcl, .slice (some ⟨cb, co, none⟩) N cc, .slice ha2 H hc2][j]? = some z → X2.cell? ⟨w.heap.size, j, none⟩ = some z) := fun j z hz => (hb2.cell (p := ⟨w.heap.size, j, none⟩) lx).trans (unhide HBX j z hz)
  have HB2 : Hid (Below w.heap.size w X2) := (unhide HB1).trans (hb2.mono (unhide HB1).size)
  have lx2 := Nat.lt_of_lt_of_le lx hb2.size
  have HC := hide (next_any ((unhide HX).below (unhide HB2) (Nat.le_refl _)) (unhide HHI) (by rw [unhide hNN]; exact hN))
  obtain ⟨ys, hys⟩ : ∃ ys, Hid (nxl f.code.length op a p = ys) := ⟨_, rfl⟩
  rw [unhide hys] at HC
  have d0 := unhide HBX2 0 _ rfl
  have d1 := unhide HBX2 1 _ rfl
  have d2 := unhide HBX2 2 _ rfl
  have d3 := unhide HBX2 3 _ rfl
  have d4 := unhide HBX2 4 _ rfl
  clear hb2 HEF HBX k0 k1 kh eX1 lc
  by_cases c1 : h < 0
  · go_wp2_with fail
    go_ret
    exact ⟨false, rfl, ⟨(fun e => by cases e), fun F => absurd F.h0 (by omega)⟩, unhide HB2⟩
  by_cases c2 : 64 < h
  · go_wp2_with fail
    go_ret
    exact ⟨false, rfl, ⟨(fun e => by cases e), fun F => absurd F.h1 (by omega)⟩, unhide HB2⟩
  by_cases c3 : h < T
  · go_wp2_with fail
    go_ret
    exact ⟨false, rfl, ⟨(fun e => by cases e), fun F => by have := F.tk; rw [unhide hT] at this; omega⟩, unhide HB2⟩
  by_cases c4 : 64 < bh
  · go_wp2_with fail
    go_ret
    exact ⟨false, rfl, ⟨(fun e => by cases e), fun F => by have := F.pt; rw [unhide hT, unhide hU, unhide hBH] at this; omega⟩, unhide HB2⟩
  go_wp2_with fail
  refine (unhide HC).mono ?_
  rintro e X3 ⟨v, rfl, hG⟩
  have HB3 : Hid (Below w.heap.size w X3) := (unhide HB2).trans (hG.2.1.mono (unhide HB2).size)
  have d4 := hG.2.1.cell (p := ⟨w.heap.size, 4, none⟩) lx2 |>.trans d4
  have lx3 := Nat.lt_of_lt_of_le lx2 hG.2.1.size
  have hyl : ys.length ≤ 2 := by rw [← unhide hys]; exact nxl_len _ _ _ _
  have HYR := hide (show Rn X3 v ys from Rx.of_ro hG.1)
  have HHR := hide ((unhide HR).below (unhide HB3) (Nat.le_refl _))
  obtain ⟨va, vc, ev, _, _⟩ := hG.1.shape
  obtain ⟨L, hL⟩ : ∃ L, Hid (ys.length = L) := ⟨_, rfl⟩
  rw [unhide hL] at ev hyl
  subst ev
  clear hG HC d0 d1 d2 d3 HBX2
  go_wp2_with fail
  go_loopg [13] L (fun gg t13 wi => ∃ (i : Nat), Hid (i + gg = L) ∧ t13 = .int .i64 (i : Int) ∧ wi = X3 ∧ Hid (∀ y ∈ ys.take i, hts[y.toNat]? = some bh))
  case atStart => exact ⟨0, by unfold Hid; omega, rfl, rfl, fun y hy => by simp at hy⟩
  case round =>
    obtain ⟨i, hi, rfl, hX, hQ⟩ := hrel
    obtain rfl := hX.symm
    clear hX
    have i0 : (0 : Int) ≤ (i : Int) := by omega
    by_cases hlt : i < L
    · have i1 : (i : Int) < (L : Int) := by omega
      obtain ⟨y, hy⟩ : ∃ y, ys[i]? = some y := ⟨_, List.getElem?_eq_getElem (by rw [unhide hL]; exact hlt)⟩
      have hym : y ∈ nxl f.code.length op a p := by rw [unhide hys]; exact List.mem_of_getElem? hy
      obtain ⟨y0, y1⟩ := unhide HNR y hym
      rw [unhide hNN] at y1
      have HY := hide hy
      have HYM := hide hym
      obtain ⟨gb, go, gc, eg, _, gk1⟩ := (unhide HYR).at hy
      rw [unhide hL] at eg
      cases eg
      obtain ⟨yn, rfl⟩ : ∃ yn : Nat, y = (yn : Int) := ⟨y.toNat, by omega⟩
      obtain ⟨z, y2⟩ : ∃ z, hts[yn]? = some z := ⟨_, List.getElem?_eq_getElem (by omega)⟩
      obtain ⟨_, _, _, eg, _, gk2⟩ := (unhide HHR).at y2
      rw [hl] at eg
      cases eg
      have g1 := World.block_lt_of_cell? _ _ gk1
      have g2 := World.block_lt_of_cell? _ _ gk2
      have y3 : ¬ (N : Int) ≤ (yn : Int) := by omega
      have y4 : ¬ (yn : Int) < 0 := by omega
      have HY2 := hide y2
      clear hy y2 hym
      by_cases hz : z = bh
      · subst hz
        have HQ2 : Hid (∀ y ∈ ys.take (i + 1), hts[y.toNat]? = some z) := fun y' hy' => by
          rw [take_push (unhide HY)] at hy'
          rcases List.mem_append.1 hy' with q | q
          · exact unhide hQ y' q
          · simp at q; subst q; simpa using unhide HY2
        go_wp2_with fail
        go_roundg (gk - 1)
        case measure => have := unhide hi; omega
        case rel => exact ⟨i + 1, by have := unhide hi; unfold Hid; omega, by go_num, rfl, HQ2⟩
      · go_wp2_with fail
        go_ret
        refine ⟨false, rfl, ⟨(fun e => by cases e), fun F => ?_⟩, unhide HB3⟩
        have := (F.nx _ (unhide HYM)).2.2
        rw [unhide hT, unhide hU, unhide hBH, Int.toNat_natCast, unhide HY2] at this
        exact absurd (Option.some.inj this) hz
    · have hi1 : ¬ (i : Int) < (L : Int) := by omega
      have HQA : Hid (∀ y ∈ ys, hts[y.toNat]? = some bh) := by have := unhide hQ; rw [List.take_of_length_le (by rw [unhide hL]; omega)] at this; exact this
      go_wp2_with fail
      clear hi1 i0
      go_loopg [14] H (fun gg t14 wi => ∃ (j : Nat), Hid (j + gg = H) ∧ t14 = .int .i64 (j : Int) ∧ Hid (Below X3.heap.size X3 wi) ∧ Hid (∀ k ∈ f.hs.take j, k.frm ≤ (p : Int) → (p : Int) < k.to → k.height ≤ kp ∧ hts[k.target.toNat]? = some (k.height + 1)))
      case atStart => exact ⟨0, by unfold Hid; omega, rfl, Below.refl _ _, fun k hk => by simp at hk⟩
      case round =>
        obtain ⟨j, hj, rfl, hB, hP⟩ := hrel
        have j0 : (0 : Int) ≤ (j : Int) := by omega
        have e4 := (unhide hB).cell (p := ⟨w.heap.size, 4, none⟩) lx3 |>.trans d4
        have lx4 := World.block_lt_of_cell? _ _ e4
        have HBw : Hid (Below w.heap.size w wr) := (unhide HB3).trans ((unhide hB).mono (unhide HB3).size)
        by_cases hjl : j < H
        · have j1 : (j : Int) < (H : Int) := by omega
          obtain ⟨k, hk⟩ : ∃ k, f.hs[j]? = some k := ⟨_, List.getElem?_eq_getElem (by rw [unhide hHH]; exact hjl)⟩
          obtain ⟨qb, qo, qc, eq, _, _, lq, hq⟩ := Rx.elem zH (unhide HX).2.2.2.2 hk
          simp only at eq
          rw [unhide hHH] at eq
          cases eq
          have q0 := (unhide HBw).cell (p := ⟨qb, qo + j * 4 + 0, none⟩) lq |>.trans (hq 0 _ rfl)
          have q1 := (unhide HBw).cell (p := ⟨qb, qo + j * 4 + 1, none⟩) lq |>.trans (hq 1 _ rfl)
          have q2 := (unhide HBw).cell (p := ⟨qb, qo + j * 4 + 2, none⟩) lq |>.trans (hq 2 _ rfl)
          have q3 := (unhide HBw).cell (p := ⟨qb, qo + j * 4 + 3, none⟩) lq |>.trans (hq 3 _ rfl)
          rw [Nat.add_zero] at q0
          have lqw := World.block_lt_of_cell? _ _ q0
          have HK := hide hk
          have hko := unhide HOK k (List.mem_of_getElem? hk)
          obtain ⟨fr, to, tg, hg⟩ := k
          simp only at q0 q1 q2 q3 hko
          rw [unhide hNN] at hko
          have HPX : Hid ((fr ≤ (p : Int) → (p : Int) < to → hg ≤ kp ∧ hts[tg.toNat]? = some (hg + 1)) → ∀ k ∈ f.hs.take (j + 1), k.frm ≤ (p : Int) → (p : Int) < k.to → k.height ≤ kp ∧ hts[k.target.toNat]? = some (k.height + 1)) := fun hq k hk => by
            rw [take_push (unhide HK)] at hk
            rcases List.mem_append.1 hk with q | q
            · exact unhide hP k q
            · simp at q; subst q; exact hq
          have HBn : Hid (Below X3.heap.size X3 (wr.alloc (.cells #[.int .i64 fr, .int .i64 to, .int .i64 tg, .int .i64 hg] 65))) := (unhide hB).alloc (unhide hB).size _
          have nc := fun j z (hz : #[Value.int .i64 fr, .int .i64 to, .int .i64 tg, .int .i64 hg].toList[j]? = some z) => new_cells wr #[.int .i64 fr, .int .i64 to, .int .i64 tg, .int .i64 hg] 65 j z hz
          obtain ⟨Wn, eWn⟩ : ∃ Wn, Wn = wr.alloc (.cells #[.int .i64 fr, .int .i64 to, .int .i64 tg, .int .i64 hg] 65) := ⟨_, rfl⟩
          have r0 : Wn.cell? ⟨wr.heap.size, 0, none⟩ = some (.int .i64 fr) := by have := nc 0 _ rfl; rw [Go.WideShapes.add_plain] at this; rw [eWn]; exact this
          have r1 : Wn.cell? ⟨wr.heap.size, 1, none⟩ = some (.int .i64 to) := by have := nc 1 _ rfl; rw [Go.WideShapes.add_plain] at this; rw [eWn]; exact this
          have r2 : Wn.cell? ⟨wr.heap.size, 2, none⟩ = some (.int .i64 tg) := by have := nc 2 _ rfl; rw [Go.WideShapes.add_plain] at this; rw [eWn]; exact this
          have r3 : Wn.cell? ⟨wr.heap.size, 3, none⟩ = some (.int .i64 hg) := by have := nc 3 _ rfl; rw [Go.WideShapes.add_plain] at this; rw [eWn]; exact this
          have lr := World.block_lt_of_cell? _ _ r0
          rw [← eWn] at HBn
          have HBN : Hid (∀ n, Below X3.heap.size X3 (Wn.drewN n)) := fun n => Go.Proofs.YtbphddocgdihjaaDoor.Below.drewN (unhide HBn) n
          have hwg : IntKind.i64.wrap (hg + 1) = hg + 1 := by rw [IntKind.wrap_i64]; omega
          have hwk : IntKind.i64.wrap (h - T) = kp := hw1
          clear hq nc hk
          go_wp2_with fail
          rw [← eWn]
          clear eWn q0 q1 q2 q3
          by_cases ha : fr ≤ (p : Int)
          · by_cases hb' : (p : Int) < to
            · obtain ⟨tn, rfl⟩ : ∃ tn : Nat, tg = (tn : Int) := ⟨tg.toNat, by omega⟩
              obtain ⟨z, z4⟩ : ∃ z, hts[tn]? = some z := ⟨_, List.getElem?_eq_getElem (by omega)⟩
              obtain ⟨_, _, _, eg, _, gk2⟩ := ((unhide HHR).below (unhide HBn) (Nat.le_refl _)).at z4
              rw [hl] at eg
              cases eg
              have g2 := World.block_lt_of_cell? _ _ gk2
              have z6 : ¬ (N : Int) ≤ (tn : Int) := by omega
              have z7 : ¬ (tn : Int) < 0 := by omega
              have HZ4 := hide z4
              have HBe : Hid (∀ n, Below w.heap.size w (Wn.drewN n)) := fun n => (unhide HB3).trans ((unhide HBN n).mono (unhide HB3).size)
              clear z4
              by_cases z5 : kp < hg
              · go_quiet (fail)
                go_wp2_with fail
                go_ret
                refine ⟨false, rfl, ⟨(fun e => by cases e), fun F => ?_⟩, unhide HBe _⟩
                have := (F.hd _ (List.mem_of_getElem? (unhide HK)) ha hb').1
                rw [unhide hT, unhide hKP] at this
                simp only at this
                omega
              · by_cases z8 : z = hg + 1
                · subst z8
                  have HPN : Hid (∀ k ∈ f.hs.take (j + 1), k.frm ≤ (p : Int) → (p : Int) < k.to → k.height ≤ kp ∧ hts[k.target.toNat]? = some (k.height + 1)) := unhide HPX (fun _ _ => ⟨by omega, by simpa using unhide HZ4⟩)
                  go_quiet (fail)
                  go_wp2_with fail
                  go_roundg (gk - 1)
                  case measure => have := unhide hj; omega
                  case rel => exact ⟨j + 1, by have := unhide hj; unfold Hid; omega, by go_num, unhide HBN _, HPN⟩
                · go_quiet (fail)
                  go_wp2_with fail
                  go_ret
                  refine ⟨false, rfl, ⟨(fun e => by cases e), fun F => ?_⟩, unhide HBe _⟩
                  have := (F.hd _ (List.mem_of_getElem? (unhide HK)) ha hb').2.2.2
                  simp only [Int.toNat_natCast] at this
                  rw [unhide HZ4] at this
                  exact absurd (Option.some.inj this) z8
            · have HPN : Hid (∀ k ∈ f.hs.take (j + 1), k.frm ≤ (p : Int) → (p : Int) < k.to → k.height ≤ kp ∧ hts[k.target.toNat]? = some (k.height + 1)) := unhide HPX (fun _ q => absurd q hb')
              go_quiet (fail)
              go_wp2_with fail
              go_roundg (gk - 1)
              case measure => have := unhide hj; omega
              case rel => exact ⟨j + 1, by have := unhide hj; unfold Hid; omega, by go_num, unhide HBN _, HPN⟩
          · have HPN : Hid (∀ k ∈ f.hs.take (j + 1), k.frm ≤ (p : Int) → (p : Int) < k.to → k.height ≤ kp ∧ hts[k.target.toNat]? = some (k.height + 1)) := unhide HPX (fun q => absurd q ha)
            go_quiet (fail)
            go_wp2_with fail
            go_roundg (gk - 1)
            case measure => have := unhide hj; omega
            case rel => exact ⟨j + 1, by have := unhide hj; unfold Hid; omega, by go_num, unhide HBN _, HPN⟩
        · have j1 : ¬ (j : Int) < (H : Int) := by omega
          have HPA := unhide hP
          rw [List.take_of_length_le (by rw [unhide hHH]; omega)] at HPA
          have HFF : Hid (FitO f hts p op a h) := by
            refine ⟨unhide HHI, unhide HOB, unhide HHH, by omega, by omega, by rw [unhide hT]; omega, by rw [unhide hT, unhide hU, unhide hBH]; omega, fun y hy => ?_, fun k hk ha hb' => ?_⟩
            · obtain ⟨g1, g2⟩ := unhide HNR y hy
              refine ⟨g1, g2, ?_⟩
              rw [unhide hT, unhide hU, unhide hBH]
              exact unhide HQA y (by rw [← unhide hys]; exact hy)
            · obtain ⟨g1, g2⟩ := HPA k hk ha hb'
              have := unhide HOK k hk
              exact ⟨by rw [unhide hT, unhide hKP]; exact g1, this.2.2.1, this.2.2.2, g2⟩
          clear HPA
          go_wp2_with fail
          go_ret
          exact ⟨true, rfl, ⟨fun _ => unhide HFF, fun _ => rfl⟩, unhide HBw⟩
end Go.Proofs.YtbphddocgdihjaaDoor
