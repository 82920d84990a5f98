/-
  ProgramGrows.
-/
import Derived.Test.YtfaafamdjcojlaaDoorGrow2
namespace Go.Proofs.YtfaafamdjcojlaaDoor
open Go.RowKit
set_option linter.unusedVariables false
set_option linter.unusedSimpArgs false
set_option maxRecDepth 100000
noncomputable section
set_option maxHeartbeats 25600000 in
theorem growsLaw {w : World} {v : Value} {p : Pg} (z : Int) (s : ByteArray) (c : Cn) (hs : s.size ≤ 9223372036854775807) (hoc : OkC c) (h : PgV w v p) (hin : InQ p) (hla : Laid w) : Calls Tryd.prog 7 #[v, .agg #[.int .i64 z, .string s, .int .i64 c.kind, .int .i64 c.n, .string c.text]] w fun e w' => e = .returned (.bool true) ∧ Below w.heap.size w w' := by
  have HSS := hide hs
  have HOC := hide hoc
  clear hs hoc
  have HPV := hide h
  have HIN := hide hin
  have HLA := hide hla
  obtain ⟨cv0, fv0, rfl, hcc, hf⟩ := h
  have hfat := hf.at
  obtain ⟨fa, fcp, rfl, hf1, hf2, hfat⟩ := hfat
  obtain ⟨_, ca, ccap, rfl, hc1, hc2, _⟩ := hcc
  clear hf hin hla
  have hncm := (unhide HIN).nc
  obtain ⟨NC, hNC⟩ : ∃ L, Hid (p.consts.length = L) := ⟨_, rfl⟩
  obtain ⟨NF, hNF⟩ : ∃ L, Hid (p.funcs.length = L) := ⟨_, rfl⟩
  rw [unhide hNC] at HPV hncm ⊢
  rw [unhide hNF] at HPV hf1 ⊢
  obtain ⟨W0, hW0⟩ : ∃ x, Hid (((w.alloc (.cells #[.slice ca NC ccap, .slice fa NF fcp] 25)).alloc (.cells #[.int .i64 z, .string s, .int .i64 c.kind, .int .i64 c.n, .string c.text] 52)).alloc (.cells #[.int .i64 c.kind, .int .i64 c.n, .string c.text] 39) = x) := ⟨_, rfl⟩
  have HB3 := hide (boxes3 _ _ _ _ _ _ _ (unhide hW0))
  have hBW : Hid (Below w.heap.size w W0 ∧ W0.heap.size = w.heap.size + 3) := ⟨(unhide HB3).2.2.2.1, (unhide HB3).2.2.2.2⟩
  have HF : Hid (∀ wr, Below W0.heap.size W0 wr → wr.cell? ⟨w.heap.size, 0, none⟩ = some (.slice ca NC ccap) ∧ wr.cell? ⟨w.heap.size, 1, none⟩ = some (.slice fa NF fcp) ∧ w.heap.size < wr.heap.size ∧ PgV wr (.agg #[.slice ca NC ccap, .slice fa NF fcp]) p ∧ Laid wr ∧ Below w.heap.size w wr) := by
    intro wr hb
    obtain ⟨b1, b2⟩ := unhide hBW
    have e0 := (hb.block w.heap.size (by omega)).trans (unhide HB3).1
    have hw := b1.trans (hb.mono (by omega))
    have := hb.size
    exact ⟨by simp [World.cell?, e0], by simp [World.cell?, e0], by omega, (unhide HPV).below hw (Nat.le_refl _), (unhide HLA).below hw, hw⟩
  have HCC : Hid (∀ wr, Below W0.heap.size W0 wr → wr.cell? ⟨w.heap.size + 1 + 1, 0, none⟩ = some (.int .i64 c.kind) ∧ wr.cell? ⟨w.heap.size + 1 + 1, 1, none⟩ = some (.int .i64 c.n) ∧ wr.cell? ⟨w.heap.size + 1 + 1, 2, none⟩ = some (.string c.text) ∧ w.heap.size + 1 + 1 < wr.heap.size) := by
    intro wr hb
    have e0 := (hb.block (w.heap.size + 1 + 1) (by have := (unhide hBW).2; omega)).trans (unhide HB3).2.2.1
    exact ⟨by simp [World.cell?, e0], by simp [World.cell?, e0], by simp [World.cell?, e0], (Array.getElem?_eq_some_iff.1 e0).1⟩
  have HFI := hide (fun wr (hb : Below W0.heap.size W0 wr) => fit15_any (unhide HF wr hb).2.2.2.1 (unhide HIN).nc (unhide HIN).okf)
  go_enter Tryd.func7, Tryd.ntmps7
  go_wp2_with fail
  rw [unhide hW0]
  refine (unhide HFI W0 (Below.refl _ _)).mono ?_
  rintro e w1 ⟨rfl, hb1⟩
  obtain ⟨p0, p1, pl, _⟩ := unhide HF w1 hb1
  cases hfit : fitV p with
  | false =>
    go_wp2_with fail
    refine (unhide HFI w1 hb1).mono ?_
    rintro e w2 ⟨rfl, hb2⟩
    rw [hfit]
    go_wp2_with fail
    go_ret
    exact ⟨rfl, (unhide HF w2 (hb1.trans (hb2.mono hb1.size))).2.2.2.2.2⟩
  | true =>
    have hgd : ckF p = none := by unfold fitV at hfit; exact Option.isNone_iff_eq_none.1 hfit
    have HGD := hide hgd
    obtain ⟨s1, s2, s3, s4⟩ := small_of hgd
    have HSM := hide s4
    have HCP := hide (fun wr (hb : Below W0.heap.size W0 wr) => cpP_any (unhide HF wr hb).2.2.2.1 (by omega) (by omega) (fun i f hf => by have := s4 i f hf; omega))
    rw [unhide hNC] at s1
    rw [unhide hNF] at s2 s3
    clear s4 hgd hfit HFI
    go_wp2_with fail
    refine (unhide HCP w1 hb1).mono ?_
    rintro e w2 ⟨cv1, fv1, xs1, rfl, hO1, hb2⟩
    have hb02 := hb1.trans (hb2.mono hb1.size)
    clear p0 p1 pl
    obtain ⟨p0, p1, pl, _, hl2, _⟩ := unhide HF w2 hb02
    go_wp2_with fail
    refine (found_any 0 0 0 hO1.pgv (unhide HIN).okp hl2).mono ?_
    rintro e w3 ⟨rfl, hb3⟩
    rw [fouV_none (unhide HGD)]
    have hb03 := hb02.trans (hb3.mono hb02.size)
    clear p0 p1 pl hO1 hl2 hb2 hb1 hb02 hb3
    obtain ⟨p0, p1, pl, _, _, hw3⟩ := unhide HF w3 hb03
    have hzl : p.consts.length = NC := unhide hNC
    have hzf : p.funcs.length = NF := unhide hNF
    have hpk := pick_lt z (n := NF) (by omega)
    obtain ⟨k, hk⟩ : ∃ k, pick z NF = k := ⟨_, rfl⟩
    rw [hk] at hpk
    go_wp2_with fail
    refine (unhide HCP w3 hb03).mono ?_
    rintro e w4 ⟨cv, fv, xs, rfl, hO4, hb4⟩
    obtain ⟨cc, cca, rfl, hcap, hcap2⟩ := hO4.co.shape
    have hx4 := hO4.pt.xl
    obtain ⟨fg, fo, fcc, rfl, hfcap, hfcap2, hgl, _⟩ := hO4.fo.full (by omega)
    rw [hx4, hzf] at hfcap
    have hxz : xs.length = NF := hx4.trans hzf
    rw [hzl, hxz] at hO4
    rw [hzl, hxz]
    obtain ⟨wr, hwr⟩ : ∃ x, Hid (w4.alloc (.cells #[.slice cc NC cca, .slice (some ⟨fg, fo, none⟩) NF fcc] 25) = x) := ⟨_, rfl⟩
    have hb4r : Below w4.heap.size w4 wr := by rw [← unhide hwr]; exact (Below.refl _ _).alloc (Nat.le_refl _) _
    have HBX : Hid (w4.heap.size < wr.heap.size ∧ wr.heap[w4.heap.size]? = some (.cells #[.slice cc NC cca, .slice (some ⟨fg, fo, none⟩) NF fcc] 25 (0, 0))) := by rw [← unhide hwr]; exact ⟨by simp, heap_alloc_new _ _⟩
    have HQI : Hid (∀ b, inO (.slice cc NC cca) (.slice (some ⟨fg, fo, none⟩) NF fcc) xs b → b ≠ w4.heap.size ∧ W0.heap.size ≤ b) := fun b e => by have := hO4.ge e; have := hb03.size; exact ⟨by omega, by omega⟩
    have HO4 := hide (hO4.keep hb4r)
    have h0r : Below W0.heap.size W0 wr := (hb03.trans (hb4.mono hb03.size)).trans (hb4r.mono (by have := hb03.size; have := hb4.size; omega))
    have hB4 : w3.heap.size ≤ wr.heap.size := by have := hb4.size; have := hb4r.size; omega
    have q0 : wr.cell? ⟨w4.heap.size, 0, none⟩ = some (.slice cc NC cca) := by simp [World.cell?, (unhide HBX).2]
    have q1 : wr.cell? ⟨w4.heap.size, 1, none⟩ = some (.slice (some ⟨fg, fo, none⟩) NF fcc) := by simp [World.cell?, (unhide HBX).2]
    have qf1 : wr.frozen? ⟨w4.heap.size, 1, none⟩ = false := by simp [World.frozen?, (unhide HBX).2]
    have qf0 : wr.frozen? ⟨w4.heap.size, 0, none⟩ = false := by simp [World.frozen?, (unhide HBX).2]
    have ql := (unhide HBX).1
    have hgq : fg ≠ w4.heap.size := (unhide HQI fg (.inr (.inl rfl))).1
    obtain ⟨f, hfk⟩ : ∃ f, p.funcs[k]? = some f := ⟨_, List.getElem?_eq_getElem (by omega)⟩
    obtain ⟨x, hxk⟩ : ∃ x, xs[k]? = some x := ⟨_, List.getElem?_eq_getElem (by omega)⟩
    have hFk := (unhide HO4).pt.rows k f x hfk hxk
    obtain ⟨ia, ic, ha, hcq, rfl⟩ := hFk.fnv.parts
    have hfo4 : Ro wr 5 (.slice (some ⟨fg, fo, none⟩) NF fcc) xs.length (flt enF xs) := (unhide HO4).fo
    have hfzz : ∀ o, wr.frozen? ⟨fg, o, none⟩ = false := fun o => by rw [hxz] at hfo4; exact hfo4.free rfl o
    obtain ⟨_, _, _, e, _, _, hgr, hcs⟩ := (Rx.of_ro hfo4).elem zF hxk
    rw [hxz] at e
    cases e
    have c0 := hcs 0 _ rfl
    have c1 := hcs 1 _ rfl
    have c2 := hcs 2 _ rfl
    have c3 := hcs 3 _ rfl
    have c4 := hcs 4 _ rfl
    rw [Nat.add_zero] at c0
    have z0 := hfzz (fo + k * 5)
    have z1 := hfzz (fo + k * 5 + 1)
    have z2 := hfzz (fo + k * 5 + 2)
    have z3 := hfzz (fo + k * 5 + 3)
    have z4 := hfzz (fo + k * 5 + 4)
    have k0 : (0 : Int) ≤ (k : Int) := by omega
    have k1 : (k : Int) < (NF : Int) := by omega
    have hQW : w.heap.size < w4.heap.size := by have := hb4.size; omega
    have HPK := hide (pick_any wr z NF (by omega) (by omega))
    rw [hk] at HPK
    obtain ⟨CL, hCL⟩ : ∃ n, Hid (f.code.length = n) := ⟨_, rfl⟩
    obtain ⟨m, hML⟩ : ∃ n, Hid (f.hs.length = n) := ⟨_, rfl⟩
    have sk := unhide HSM k f hfk
    have hIk := hFk.2.2.2.1
    rw [unhide hCL] at sk c3 hIk hxk
    rw [unhide hML] at sk c4 hxk
    obtain ⟨cg, co, _, eia, _, _, hcl, hcells⟩ := hIk.full (by omega)
    cases eia
    have HPC := hide (pick_any wr z CL (by omega) (by omega))
    have hpc1 := pick_lt z (n := CL) (by omega)
    obtain ⟨pc, hpcE⟩ : ∃ j, pick z CL = j := ⟨_, rfl⟩
    rw [hpcE] at HPC hpc1
    have ifz : ∀ o, wr.frozen? ⟨cg, o, none⟩ = false := fun o => hIk.free rfl o
    have iz0 := ifz (co + pc * 2)
    have iz1 := ifz (co + pc * 2 + 1)
    obtain ⟨i0v, hi0v⟩ : ∃ u, wr.cell? ⟨cg, co + pc * 2, none⟩ = some u := by
      rw [hcells (pc * 2) (by omega)]; exact ⟨_, List.getElem?_eq_getElem (by rw [flt_length zI, unhide hCL]; omega)⟩
    obtain ⟨i1v, hi1v⟩ : ∃ u, wr.cell? ⟨cg, co + pc * 2 + 1, none⟩ = some u := by
      rw [show co + pc * 2 + 1 = co + (pc * 2 + 1) by omega, hcells (pc * 2 + 1) (by omega)]; exact ⟨_, List.getElem?_eq_getElem (by rw [flt_length zI, unhide hCL]; omega)⟩
    obtain ⟨qq, hqq⟩ : ∃ q, f.code[pc]? = some q := ⟨_, List.getElem?_eq_getElem (by rw [unhide hCL]; exact hpc1)⟩
    have hcI : inO (.slice cc NC cca) (.slice (some ⟨fg, fo, none⟩) NF fcc) xs cg := .inr (.inr ⟨k, _, hxk, .inl rfl⟩)
    have hcgq : cg ≠ w4.heap.size := (unhide HQI cg hcI).1
    have hcgf : cg ≠ fg := fun e => ((unhide HO4).pt.apart k _ cg hxk (.inl rfl)).2.2 (by rw [e]; rfl)
    obtain ⟨W9, hW9⟩ : ∃ x, Hid ((wr.setCell ⟨cg, co + pc * 2, none⟩ (.int .i64 0)).setCell ⟨cg, co + pc * 2 + 1, none⟩ (.int .i64 0) = x) := ⟨_, rfl⟩
    have hF9 : Fr (fun b => b = cg) wr W9 := by rw [← unhide hW9]; exact ((Fr.refl (fun b => b = cg) wr).setCell ⟨cg, co + pc * 2, none⟩ (.inr rfl) _).setCell ⟨cg, co + pc * 2 + 1, none⟩ (.inr rfl) _
    have HO9 : Hid (OP w3.heap.size { p with funcs := p.funcs.set k { f with code := f.code.set pc (0, 0) } } xs (.slice cc NC cca) (.slice (some ⟨fg, fo, none⟩) NF fcc) W9) := by
      rw [← unhide hW9]; exact (unhide HO4).setI (q' := (0, 0)) hxk hfk hqq rfl
    have HBX9 : Hid (W9.heap[w4.heap.size]? = some (.cells #[.slice cc NC cca, .slice (some ⟨fg, fo, none⟩) NF fcc] 25 (0, 0))) := (hF9.block _ ql (fun e => hcgq e.symm)).trans (unhide HBX).2
    have H09 := hide (h0r.trans (hF9.below h0r.size (fun b hb (e : b = cg) => by have := (unhide HQI cg hcI).2; omega)))
    have e4 := Fr.heldIn hF9 (p := ⟨fg, fo + k * 5 + 4, none⟩) hgr (fun e => hcgf e.symm) c4
    have ez4 : W9.frozen? ⟨fg, fo + k * 5 + 4, none⟩ = false := (World.frozen?_of_block (hF9.block fg hgr (fun e => hcgf e.symm))).trans z4
    have e1 := Fr.heldIn hF9 ql (fun e => hcgq e.symm) q1
    have el := Nat.lt_of_lt_of_le ql hF9.size
    have eg := Nat.lt_of_lt_of_le hgr hF9.size
    have hB9 : w3.heap.size ≤ W9.heap.size := Nat.le_trans hB4 hF9.size
    have pi0 : (0 : Int) ≤ (pc : Int) := by omega
    have pi1 : (pc : Int) < (CL : Int) := by omega
    have HFK9 := hide ((unhide HO9).pt.rows k { f with code := f.code.set pc (0, 0) } _ (List.getElem?_set_self (by rw [hzf]; exact hpk)) hxk)
    clear p0 p1 pl hcs hfzz hO4 hfo4 hcells ifz hIk
    go_wp2_with fail
    rw [unhide hwr]
    refine (unhide HPK).mono ?_
    rintro e wq ⟨rfl, ew⟩
    have ew' := ew.symm
    subst ew'
    go_wp2_with fail
    refine (unhide HPC).mono ?_
    rintro e wq ⟨rfl, ew⟩
    have ew' := ew.symm
    subst ew'
    go_upto_region 9 with fail
    go_cut [] from 17 (fun wc => Hid (wc = W9))
    case first =>
      go_wp2_with fail
      go_meet
      case rel => exact unhide hW9
    case rest =>
    have ewc := (unhide hcut).symm
    subst ewc
    go_upto_if 68 with fail
    clear c0 c1 c2 c3 c4 z0 z1 z2 z3 z4 q0 q1 qf0 qf1 hi0v hi1v iz0 iz1
    go_cut [] from 17 (fun wc => ∃ (hs : List Hd) (xs' : List Fv), Hid (∀ h ∈ hs, h ∈ f.hs) ∧ Hid (hs.length ≤ f.hs.length) ∧ Hid (OP w3.heap.size { p with funcs := p.funcs.set k { f with code := f.code.set pc (0, 0), hs := hs } } xs' (.slice cc NC cca) (.slice (some ⟨fg, fo, none⟩) NF fcc) wc) ∧ Hid (wc.heap[w4.heap.size]? = some (.cells #[.slice cc NC cca, .slice (some ⟨fg, fo, none⟩) NF fcc] 25 (0, 0))) ∧ Hid (Below W0.heap.size W0 wc) ∧ Hid (∀ b, inO (.slice cc NC cca) (.slice (some ⟨fg, fo, none⟩) NF fcc) xs' b → b ≠ w4.heap.size ∧ W0.heap.size ≤ b))
    case first =>
      by_cases hm0 : m = 0
      · subst hm0
        go_wp2_with fail
        go_meet
        case rel =>
          refine ⟨f.hs, xs, (fun h hh => hh), Nat.le_refl _, unhide HO9, unhide HBX9, unhide H09, unhide HQI⟩
      · have hmp : decide ((0 : Int) < (m : Int)) = true := decide_eq_true (by omega)
        have HPM := hide (pick_any W9 z m (by omega) (by omega))
        obtain ⟨at', hat'⟩ : ∃ j, pick z m = j := ⟨_, rfl⟩
        rw [hat'] at HPM
        have hR9 := (unhide HFK9).2.2.2.2
        obtain ⟨hg, ho, _, eha, _, _, hhl, _⟩ := hR9.full (by show 0 < f.hs.length; rw [unhide hML]; omega)
        simp only [unhide hML] at eha
        cases eha
        have HHC := hide (fun i h (hp : f.hs[i]? = some h) => (Rx.of_ro hR9).elem zH hp)
        clear hR9
        go_wp2_with fail
        refine (unhide HPM).mono ?_
        rintro e wq ⟨rfl, ew⟩
        have ew' := ew.symm
        subst ew'
        go_wp2_with fail
        go_loopg [13, 14] m (fun g t13 t14 wx => ∃ (i : Nat) (v : Value) (hs : List Hd), Hid (i + g = m) ∧ t13 = v ∧ t14 = .int .i64 (i : Int) ∧ Hid (Gx W9 4 enH hs v wx) ∧ Hid (∀ h ∈ hs, h ∈ f.hs) ∧ Hid (hs.length ≤ i))
        case atStart => exact ⟨0, _, [], by unfold Hid; omega, rfl, rfl, ⟨by simpa [flt] using Ro.nil _ _, Below.refl _ _, by simp [Value.ownBlock]⟩, (fun h hh => by simp at hh), Nat.le_refl _⟩
        case round =>
          obtain ⟨i, v, hs, hi, rfl, rfl, hG, hGm, hGl⟩ := hrel
          have hbw := (unhide hG).2.1
          have y1 := Below.heldIn hbw el e1
          have y4 := Below.heldIn hbw eg e4
          have yl := Nat.lt_of_lt_of_le el hbw.size
          have yg := Nat.lt_of_lt_of_le eg hbw.size
          by_cases hlt : i < m
          · obtain ⟨h', hh'⟩ : ∃ h', f.hs[i]? = some h' := ⟨_, List.getElem?_eq_getElem (by rw [unhide hML]; exact hlt)⟩
            obtain ⟨_, _, _, e', _, _, hb', hcs⟩ := unhide HHC i h' hh'
            simp only [unhide hML] at e'
            cases e'
            have g0 := Below.heldIn hbw hb' (hcs 0 _ rfl)
            have g1 := Below.heldIn hbw hb' (hcs 1 _ rfl)
            have g2 := Below.heldIn hbw hb' (hcs 2 _ rfl)
            have g3 := Below.heldIn hbw hb' (hcs 3 _ rfl)
            rw [Nat.add_zero] at g0
            have hbr := Nat.lt_of_lt_of_le hb' hbw.size
            have i0 : (0 : Int) ≤ (i : Int) := by omega
            have i1 : (i : Int) < (m : Int) := by omega
            have HH := hide hh'
            have HRo := hide (unhide hG).1
            clear hcs hbw hh'
            by_cases hia : i = at'
            · have f1 : ((i : Int) == (at' : Int)) = true := by simp [hia]
              have f2 : ((i : Int) != (at' : Int)) = false := by simp [bne, f1]
              clear hia
              go_wp2_with fail
              go_roundg (gk - 1)
              case measure => have := unhide hi; omega
              case rel => exact ⟨i + 1, _, hs, by have := unhide hi; unfold Hid; omega, rfl, by go_num, hG, hGm, Nat.le_succ_of_le (unhide hGl)⟩
            · have f1 : ((i : Int) == (at' : Int)) = false := by simp; omega
              have f2 : ((i : Int) != (at' : Int)) = true := by simp [bne, f1]
              clear hia
              go_wp2_with (first | (at_builtin; refine appH rfl _ _ rfl _ hs rfl ((unhide HRo).keep (fun g hg => Below.heap_alloc _ _ _ ((unhide HRo).lt g hg))) ⟨wr.heap.size, 0, none⟩ 1 h' rfl (new_cells _ _ _) (by have := unhide hGl; omega) ?_))
              intro v' w' hr hg hat
              have hG2 := (unhide hG).push hr rfl hg (by simpa using hat)
              have HG3 := hide hG2
              clear hr hg hat hG2
              go_wp2_with fail
              go_roundg (gk - 1)
              case measure => have := unhide hi; omega
              case rel => exact ⟨i + 1, v', hs ++ [h'], by have := unhide hi; unfold Hid; omega, rfl, by go_num, HG3, (fun h hh => by
                rcases List.mem_append.1 hh with q | q
                · exact unhide hGm h q
                · rw [List.mem_singleton.1 q]; exact List.mem_of_getElem? (unhide HH)), by unfold Hid; rw [List.length_append]; have := unhide hGl; simp; omega⟩
          · have hiL : i = m := by have := unhide hi; omega
            subst hiL
            have yz4 := (World.frozen?_of_block (hbw.block fg eg)).trans ez4
            obtain ⟨va, vcap, rfl, _⟩ := (unhide hG).1.shape
            have hset := (unhide HO9).setF (w5 := wr) (x' := ⟨f.name, f.params, f.locals, .slice (some ⟨cg, co, none⟩) CL ic, .slice va hs.length vcap⟩) (f' := { f with code := f.code.set pc (0, 0), hs := hs }) (vs := [.slice va hs.length vcap]) (j := 4) rfl hxk (List.getElem?_set_self (by rw [hzf]; exact hpk)) (Fr.of_below hbw) ⟨rfl, rfl, rfl, (unhide HFK9).2.2.2.1.fr (S := fun _ => False) (Fr.of_below hbw) (fun _ _ e => e), (unhide hG).1⟩ (fun b hb => by
              rcases hb with hb | hb
              · exact .inl (.inl hb)
              · exact .inr ((unhide hG).2.2 b hb)) (fun b hb hb2 => by
              have h1 := (unhide HFK9).2.2.2.1.lt b hb
              have h2 := (unhide hG).2.2 b hb2
              omega) hB9 (by simp) (fun i hi => by
              match i, hi with
              | 0, _ => rfl
              | 1, _ => rfl
              | 2, _ => rfl
              | 3, _ => rfl
              | 4, _ => rfl)
            rw [set_setF] at hset
            have HSET := hide hset
            have HBWW := hide hbw
            clear hset hbw
            go_wp2_with fail
            go_meet
            case rel =>
              have hF2 : Fr (fun b => b = fg) wr (wr.setCell ⟨fg, fo + k * 5 + 4, none⟩ (.slice va hs.length vcap)) := (Fr.refl (fun b => b = fg) wr).setCell ⟨fg, fo + k * 5 + 4, none⟩ (.inr rfl) _
              refine ⟨hs, _, unhide hGm, by have := unhide hGl; have := unhide hML; unfold Hid; omega, unhide HSET, ?_, ?_, ?_⟩
              · exact (hF2.block _ yl (fun e => hgq e.symm)).trans (((unhide HBWW).block _ el).trans (unhide HBX9))
              · have hb := (unhide H09).trans ((unhide HBWW).mono (unhide H09).size)
                exact hb.trans (hF2.below hb.size (fun b hb2 (e : b = fg) => by have := (unhide HQI fg (.inr (.inl rfl))).2; omega))
              · intro b hb
                rcases hb with hb | hb | ⟨i, xi, hxi, hb⟩
                · exact unhide HQI b (.inl hb)
                · exact unhide HQI b (.inr (.inl hb))
                · by_cases q : k = i
                  · subst q
                    rw [List.getElem?_set_self (List.getElem?_eq_some_iff.1 hxk).1] at hxi
                    cases hxi
                    rcases hb with hb | hb
                    · exact unhide HQI b (.inr (.inr ⟨k, _, hxk, .inl hb⟩))
                    · have := (unhide hG).2.2 b hb
                      have := (unhide H09).size
                      exact ⟨by omega, by omega⟩
                  · rw [List.getElem?_set_ne q] at hxi
                    exact unhide HQI b (.inr (.inr ⟨i, xi, hxi, hb⟩))
    case rest =>
      obtain ⟨hs2, xs2, HM2, HL2, HO2, HBX2, H02, HN2⟩ := hcut
      obtain ⟨p2, hp2⟩ : ∃ x, Hid (({ p with funcs := p.funcs.set k { f with code := f.code.set pc (0, 0), hs := hs2 } } : Pg) = x) := ⟨_, rfl⟩
      have HG2 := hide (ckF_nop (pc := pc) (unhide HGD) hfk (unhide HM2) (unhide HL2))
      rw [unhide hp2] at HO2 HG2
      have HOK2 : Hid (OkP p2) := by
        rw [← unhide hp2]
        exact okp_setF (unhide HIN).okp (by simp only [List.length_set]; exact ((unhide HIN).okf k f hfk).1) ((unhide HIN).okf k f hfk).2.1
      have HC2 : Hid (p2.consts = p.consts) := by rw [← unhide hp2]; rfl
      have HN2F : Hid (p2.funcs.length = NF) := by rw [← unhide hp2]; show (p.funcs.set k _).length = NF; rw [List.length_set, hzf]
      have HXL2 : Hid (xs2.length = NF) := (unhide HO2).pt.xl.trans (unhide HN2F)
      clear e4 ez4 e1 el eg hFk hF9 HFK9 HO9 HBX9 H09 HO4 HBX hpc1 hcI hcgq hcgf hqq hcl hB9 hB4 h0r hgr hgl hb4r HQI hwr hW9
      have q0 : wc.cell? ⟨w4.heap.size, 0, none⟩ = some (.slice cc NC cca) := by simp [World.cell?, unhide HBX2]
      have q1 : wc.cell? ⟨w4.heap.size, 1, none⟩ = some (.slice (some ⟨fg, fo, none⟩) NF fcc) := by simp [World.cell?, unhide HBX2]
      have ql2 : w4.heap.size < wc.heap.size := (Array.getElem?_eq_some_iff.1 (unhide HBX2)).1
      have HCQ := hide (cpP_any (unhide HO2).pgv (by have := (small_of (unhide HG2)).2.2.1; omega) (by have := (small_of (unhide HG2)).1; omega) (fun i g hg => by have := (small_of (unhide HG2)).2.2.2 i g hg; omega))
      go_wp2_with fail
      refine (unhide HCQ).mono ?_
      clear HCQ
      rintro e w7 ⟨cv7, fv7, xs7, rfl, hO7, hb7⟩
      have HFO := hide (found_any 0 0 0 hO7.pgv (unhide HOK2) ((unhide HF wc (unhide H02)).2.2.2.2.1.below hb7))
      rw [fouV_none (unhide HG2)] at HFO
      clear hO7
      go_wp2_with fail
      refine (unhide HFO).mono ?_
      clear HFO
      rintro e w8 ⟨rfl, hb8⟩
      have h28 : Below wc.heap.size wc w8 := hb7.trans (hb8.mono hb7.size)
      have v0 := Below.heldIn h28 ql2 q0
      have v1 := Below.heldIn h28 ql2 q1
      have vl := Nat.lt_of_lt_of_le ql2 h28.size
      have HFN := hide (refFind_any s ((unhide HO2).keep h28).pgv.pgn (by rw [List.length_map, unhide HN2F]; omega))
      obtain ⟨rN, hrN⟩ : ∃ x, fndN (p2.funcs.map (·.name)) s = x := ⟨_, rfl⟩
      obtain ⟨tb, htb⟩ : ∃ x, Hid (fndB (p2.funcs.map (·.name)) s = x) := ⟨_, rfl⟩
      rw [hrN, unhide htb] at HFN
      clear q0 q1 hb7 hb8
      go_wp2_with fail
      refine (unhide HFN).mono ?_
      clear HFN
      rintro e w9 ⟨rfl, hb9⟩
      have h29 : Below wc.heap.size wc w9 := h28.trans (hb9.mono h28.size)
      have HO9 := hide ((unhide HO2).keep h29)
      have H09 := hide ((unhide H02).trans (h29.mono (unhide H02).size))
      have HBX9 := hide ((h29.block _ ql2).trans (unhide HBX2))
      have y0 := Below.heldIn hb9 vl v0
      have y1 := Below.heldIn hb9 vl v1
      have yl := Nat.lt_of_lt_of_le vl hb9.size
      clear v0 v1 vl h28 h29 hb9 ql2 HO2 H02 HBX2 hrN
      go_upto_region 23 with fail
      go_cut [119] from 120 (fun t wx => Hid (wx = w9) ∧ ∃ b, t = .bool b ∧ Hid (b = true → spB s = true ∧ s.size ≤ 32 ∧ tb = false ∧ NF < 128))
      case first =>
        have HRN := hide (rname_any s (unhide HSS) w9)
        obtain ⟨rb, hrb⟩ : ∃ x, Hid ((spB s && decide (s.size ≤ 32)) = x) := ⟨_, rfl⟩
        rw [unhide hrb] at HRN
        go_wp2_with fail
        refine (unhide HRN).mono ?_
        rintro e wq ⟨rfl, ew⟩
        have ew' := ew.symm
        subst ew'
        cases rb with
        | false =>
          go_wp2_with fail
          go_meet
          case rel => exact ⟨rfl, _, rfl, (fun q => by cases q)⟩
        | true =>
          have hsp : Hid (spB s = true ∧ s.size ≤ 32) := by have := unhide hrb; simp only [Bool.and_eq_true, decide_eq_true_eq] at this; exact this
          cases tb with
          | true =>
            go_wp2_with fail
            go_meet
            case rel => exact ⟨rfl, _, rfl, (fun q => by cases q)⟩
          | false =>
            by_cases hlt : NF < 128
            · have hl1 : decide ((NF : Int) < 128) = true := decide_eq_true (by omega)
              go_wp2_with fail
              go_meet
              case rel => exact ⟨rfl, _, rfl, (fun _ => ⟨(unhide hsp).1, (unhide hsp).2, by first | rfl | trivial, hlt⟩)⟩
            · have hl1 : decide ((NF : Int) < 128) = false := decide_eq_false (by omega)
              go_wp2_with fail
              go_meet
              case rel => exact ⟨rfl, _, rfl, (fun q => by simp [hl1] at q)⟩
      case rest =>
        obtain ⟨ewx, b, rfl, Hb⟩ := hcut
        have ewx' := (unhide ewx).symm
        subst ewx'
        go_upto_if 119 with fail
        go_cut [] from 17 (fun wx => ∃ (p3 : Pg) (xs3 : List Fv) (fg3 fo3 n3 fc3 : Nat), Hid (ckF p3 = none) ∧ Hid (OkP p3) ∧ Hid (p3.consts = p.consts) ∧ Hid (xs3.length = n3) ∧ Hid (OP w3.heap.size p3 xs3 (.slice cc NC cca) (.slice (some ⟨fg3, fo3, none⟩) n3 fc3) wx) ∧ Hid (wx.heap[w4.heap.size]? = some (.cells #[.slice cc NC cca, .slice (some ⟨fg3, fo3, none⟩) n3 fc3] 25 (0, 0))) ∧ Hid (Below W0.heap.size W0 wx) ∧ Hid (∀ b, inO (.slice cc NC cca) (.slice (some ⟨fg3, fo3, none⟩) n3 fc3) xs3 b → b ≠ w4.heap.size ∧ W0.heap.size ≤ b))
        case first =>
          cases b with
          | false =>
            go_wp2_with fail
            go_meet
            case rel => exact ⟨p2, xs2, fg, fo, NF, fcc, unhide HG2, unhide HOK2, unhide HC2, unhide HXL2, unhide HO9, unhide HBX9, unhide H09, unhide HN2⟩
          | true =>
            obtain ⟨b1, b2, b3, b4⟩ := unhide Hb rfl
            have hnm : ∀ g ∈ p2.funcs, g.name ≠ s := fun g hg => fndB_false (by rw [unhide htb]; exact b3) g.name (List.mem_map.2 ⟨g, hg, rfl⟩)
            have HG3 := hide (ckF_moreF (unhide HG2) (by rw [unhide HN2F]; exact b4) b1 b2 hnm)
            have HOK3 : Hid (OkP { p2 with funcs := p2.funcs ++ [⟨s, 0, 0, [(0, 0)], []⟩] }) := ⟨(unhide HOK2).1, fun i g hg => by
              rcases snoc_at (show (p2.funcs ++ [(⟨s, 0, 0, [(0, 0)], []⟩ : Fc)])[i]? = some g from hg) with q | ⟨_, q⟩
              · exact (unhide HOK2).2 i g q
              · subst q; exact ⟨by simp, by simp only; omega⟩⟩
            obtain ⟨w1, hw1⟩ : ∃ x, Hid ((w9.alloc (.cells #[.int .i64 0, .int .i64 0] 50)).alloc (.cells #[.string s, .int .i64 0, .int .i64 0, .slice (some ⟨w9.heap.size, 0, none⟩) 1 1, .slice none 0 0] 47) = x) := ⟨_, rfl⟩
            have hbw : Below w9.heap.size w9 w1 := by rw [← unhide hw1]; exact ((Below.refl _ _).alloc (Nat.le_refl _) _).alloc (by simp) _
            have hA1 : w1.heap[w9.heap.size]? = some (.cells #[.int .i64 0, .int .i64 0] 50 (0, 0)) := by rw [← unhide hw1]; exact (Below.heap_alloc _ _ _ (by simp)).trans (heap_alloc_new _ _)
            have HFN1 : Hid (FnO w1 ⟨s, 0, 0, [(0, 0)], []⟩ ⟨s, 0, 0, .slice (some ⟨w9.heap.size, 0, none⟩) 1 1, .slice none 0 0⟩) := by
              refine ⟨rfl, rfl, rfl, ⟨rfl, .inr ⟨w9.heap.size, 0, 1, _, 50, rfl, hA1, Nat.le_refl _, by unfold maxLen; decide, by simp, fun j hj => ?_⟩⟩, by simpa [flt] using Ro.nil w1 4⟩
              match j, hj with
              | 0, _ => rfl
              | 1, _ => rfl
            have HRo := hide (show Ro w1 5 (.slice (some ⟨fg, fo, none⟩) NF fcc) NF (flt enF xs2) by have := ((unhide HO9).keep hbw).fo; rw [unhide HXL2] at this; exact this)
            have hnew : ∀ j u, (enF ⟨s, 0, 0, .slice (some ⟨w9.heap.size, 0, none⟩) 1 1, .slice none 0 0⟩)[j]? = some u → w1.cell? ((⟨w9.heap.size + 1, 0, none⟩ : Addr).add j) = some u := by rw [← unhide hw1]; exact new_cells2 _ _ _ _
            have HNEW := hide hnew
            have HBW1 := hide hbw
            have hNFb : NF ≤ 1759218604440 := by omega
            clear hnm hbw hA1 hnew b1 b2 b3
            go_wp2_with (first | (at_builtin; rw [unhide hw1]; refine wpList_appF rfl _ _ rfl (.slice (some ⟨fg, fo, none⟩) NF fcc) xs2 NF (unhide HXL2) rfl (unhide HRo) ⟨w9.heap.size + 1, 0, none⟩ 1 ⟨s, 0, 0, .slice (some ⟨w9.heap.size, 0, none⟩) 1 1, .slice none 0 0⟩ rfl (unhide HNEW) rfl rfl hNFb ?_))
            intro v' w5 hr5 hg5 hat5
            obtain ⟨fg3, fo3, fc3, rfl, _, _, _, _⟩ := hr5.full (by omega)
            have f5 : Fr (fun b => (Value.slice (some ⟨fg, fo, none⟩) NF fcc).ownBlock = some b) w1 w5 := (Fr.refl _ w1).grown hg5 (fun k e => .inr e)
            have hO5 := (unhide HO9).pushF (unhide HBW1) (unhide HFN1) (by have := (unhide HO9).fb fg rfl; have := (unhide HO9).fo.lt fg rfl; omega) (fun b hb => by
              rcases hb with hb | hb
              · have e : w9.heap.size = b := Option.some.inj hb
                omega
              · cases hb) (fun b hb e => by cases e) hr5 (by rw [unhide HXL2]) f5 (by rcases hat5 with e | e; exact .inl e; exact .inr ⟨_, e, Nat.le_refl _⟩)
            have hfgq := (unhide HN2 fg (.inr (.inl rfl))).1
            have hw19 := (unhide HBW1).size
            have hbx5 := (f5.block w4.heap.size (by omega) (fun e => hfgq (Option.some.inj e))).trans (((unhide HBW1).block _ yl).trans (unhide HBX9))
            have kq : w5.cell? ⟨w4.heap.size, 1, none⟩ = some (.slice (some ⟨fg, fo, none⟩) NF fcc) := by simp [World.cell?, hbx5]
            have kf : w5.frozen? ⟨w4.heap.size, 1, none⟩ = false := by simp [World.frozen?, hbx5]
            have kl : w4.heap.size < w5.heap.size := (Array.getElem?_eq_some_iff.1 hbx5).1
            have hqn : ∀ b, inO (.slice cc NC cca) (.slice (some ⟨fg3, fo3, none⟩) (NF + 1) fc3) (xs2 ++ [⟨s, 0, 0, .slice (some ⟨w9.heap.size, 0, none⟩) 1 1, .slice none 0 0⟩]) b → b ≠ w4.heap.size ∧ W0.heap.size ≤ b := fun b hb => by
              have h09 := (unhide H09).size
              rcases hb with hb | hb | ⟨i, xi, hxi, hb⟩
              · exact unhide HN2 b (.inl hb)
              · have e3 : fg3 = b := Option.some.inj hb
                subst e3
                rcases hat5 with e | e
                · have e4 : fg3 = fg := Option.some.inj e
                  rw [e4]; exact unhide HN2 fg (.inr (.inl rfl))
                · have e4 : fg3 = w1.heap.size := Option.some.inj e
                  exact ⟨by omega, by omega⟩
              · rcases snoc_at hxi with q | ⟨_, q⟩
                · exact unhide HN2 b (.inr (.inr ⟨i, xi, q, hb⟩))
                · subst q
                  rcases hb with hb | hb
                  · have e3 : w9.heap.size = b := Option.some.inj hb
                    exact ⟨by omega, by omega⟩
                  · cases hb
            have HQ5 := hide hqn
            have HO5 := hide hO5
            have HB5 := hide hbx5
            have HF5 := hide f5
            clear hr5 hg5 hat5 hO5 hbx5 hqn f5
            go_wp2_with fail
            go_meet
            case rel =>
              have hF6 : Fr (fun b => b = w4.heap.size) w5 (w5.setCell ⟨w4.heap.size, 1, none⟩ (.slice (some ⟨fg3, fo3, none⟩) (NF + 1) fc3)) := (Fr.refl (fun b => b = w4.heap.size) w5).setCell ⟨w4.heap.size, 1, none⟩ (.inr rfl) _
              have hb1 := (unhide H09).trans ((unhide HBW1).mono (unhide H09).size)
              have hb5 := hb1.trans ((unhide HF5).below hb1.size (fun b hb e => by
                have e3 : fg = b := Option.some.inj e
                have := (unhide HN2 fg (.inr (.inl rfl))).2; omega))
              refine ⟨{ p2 with funcs := p2.funcs ++ [(⟨s, 0, 0, [(0, 0)], []⟩ : Fc)] }, xs2 ++ [(⟨s, 0, 0, .slice (some ⟨w9.heap.size, 0, none⟩) 1 1, .slice none 0 0⟩ : Fv)], fg3, fo3, NF + 1, fc3, unhide HG3, unhide HOK3, unhide HC2, by unfold Hid; rw [List.length_append, unhide HXL2]; rfl, ?_, ?_, ?_, HQ5⟩
              · exact (unhide HO5).fr hF6 (fun b hb e => (unhide HQ5 b hb).1 e)
              · show (w5.setCell ⟨w4.heap.size, 1, none⟩ (.slice (some ⟨fg3, fo3, none⟩) (NF + 1) fc3)).heap[w4.heap.size]? = _
                rw [setCell_block (unhide HB5)]; rfl
              · exact hb5.trans (hF6.below hb5.size (fun b hb (e : b = w4.heap.size) => by have := hb03.size; have := hb4.size; omega))
        case rest =>
          obtain ⟨p3, xs3, fg3, fo3, n3, fc3, HG3, HOK3, HC3, HXL3, HO3, HBX3, H03, HN3⟩ := hcut
          obtain ⟨wB, ewB⟩ : ∃ x, x = wc := ⟨_, rfl⟩
          subst ewB
          clear y0 y1 yl HO9 H09 HBX9 HG2 HOK2 HC2 HXL2 HN2 HN2F hp2 htb Hb HM2 HL2
          have q0 : wB.cell? ⟨w4.heap.size, 0, none⟩ = some (.slice cc NC cca) := by simp [World.cell?, unhide HBX3]
          have q1 : wB.cell? ⟨w4.heap.size, 1, none⟩ = some (.slice (some ⟨fg3, fo3, none⟩) n3 fc3) := by simp [World.cell?, unhide HBX3]
          have ql3 : w4.heap.size < wB.heap.size := (Array.getElem?_eq_some_iff.1 (unhide HBX3)).1
          obtain ⟨t0, t1, t2, tl⟩ := unhide HCC wB (unhide H03)
          have hz3 : p3.consts.length = NC := by rw [unhide HC3]; exact hzl
          go_upto_region 25 with fail
          go_cut [138] from 139 (fun t wx => Hid (Below wB.heap.size wB wx) ∧ ∃ b, t = .bool b ∧ Hid (b = true → NC < 512 ∧ conE c p3.consts = 0))
          case first =>
            by_cases hlt : NC < 512
            · have hl1 : decide ((NC : Int) < 512) = true := decide_eq_true (by omega)
              have HRG := hide (rgt_any (w := wB) c (Rx.of_ro (unhide HO3).co) (by omega))
              go_wp2_with fail
              refine (unhide HRG).mono ?_
              rintro e wq ⟨b, rfl, hb, hbel⟩
              have HBE := hide hbel
              have HBB := hide hb
              clear hbel hb
              cases b with
              | false =>
                go_wp2_with fail
                go_meet
                case rel => exact ⟨unhide HBE, _, rfl, (fun q => by cases q)⟩
              | true =>
                go_wp2_with fail
                go_meet
                case rel => exact ⟨unhide HBE, _, rfl, (fun _ => ⟨hlt, unhide HBB (by first | rfl | trivial)⟩)⟩
            · have hl1 : decide ((NC : Int) < 512) = false := decide_eq_false (by omega)
              go_wp2_with fail
              go_meet
              case rel => exact ⟨Below.refl _ _, _, rfl, (fun q => by cases q)⟩
          case rest =>
            obtain ⟨HBE, b, rfl, Hb⟩ := hcut
            have h03c := (unhide H03).trans ((unhide HBE).mono (unhide H03).size)
            have HOc := hide ((unhide HO3).keep (unhide HBE))
            have HBc := hide (((unhide HBE).block _ ql3).trans (unhide HBX3))
            have H0c := hide h03c
            have hlB := Nat.lt_of_lt_of_le ql3 (unhide HBE).size
            obtain ⟨t0, t1, t2, tl⟩ := unhide HCC wc h03c
            have q0c : wc.cell? ⟨w4.heap.size, 0, none⟩ = some (.slice cc NC cca) := by simp [World.cell?, unhide HBc]
            obtain ⟨wD, ewD⟩ : ∃ x, x = wc := ⟨_, rfl⟩
            subst ewD
            clear q0 q1 HO3 HBX3 H03 h03c
            go_upto_if 138 with fail
            go_cut [] from 17 (fun wx => ∃ (p4 : Pg) (ca4 : Option Addr) (n4 cc4 : Nat), Hid (ckF p4 = none) ∧ Hid (OkP p4) ∧ Hid (p4.consts.length = n4) ∧ Hid (OP w3.heap.size p4 xs3 (.slice ca4 n4 cc4) (.slice (some ⟨fg3, fo3, none⟩) n3 fc3) wx) ∧ Hid (wx.heap[w4.heap.size]? = some (.cells #[.slice ca4 n4 cc4, .slice (some ⟨fg3, fo3, none⟩) n3 fc3] 25 (0, 0))) ∧ Hid (Below W0.heap.size W0 wx) ∧ Hid (∀ b, inO (.slice ca4 n4 cc4) (.slice (some ⟨fg3, fo3, none⟩) n3 fc3) xs3 b → b ≠ w4.heap.size ∧ W0.heap.size ≤ b))
            case first =>
              cases b with
              | false =>
                go_wp2_with fail
                go_meet
                case rel => exact ⟨p3, cc, NC, cca, unhide HG3, unhide HOK3, hz3, unhide HOc, unhide HBc, unhide H0c, unhide HN3⟩
              | true =>
                obtain ⟨d1, d2⟩ := unhide Hb (by first | rfl | trivial)
                have HG4 := hide (ckF_moreC (unhide HG3) (by rw [hz3]; exact d1) d2)
                have HOK4 := hide (okp_pushC (unhide HOK3) (unhide HOC))
                have HRo := hide (show Ro wD 3 (.slice cc NC cca) NC (flt enC p3.consts) by have := (unhide HOc).co; rw [hz3] at this; exact this)
                have hNCb : NC ≤ 4398046511103 := by omega
                clear d1 d2
                go_wp2_with (first | (at_builtin; refine wpList_appC rfl _ _ rfl (.slice cc NC cca) p3.consts NC hz3 rfl ((unhide HRo).keep (fun g hg => Below.heap_alloc _ _ _ ((unhide HRo).lt g hg))) ⟨wD.heap.size, 0, none⟩ 1 c rfl (new_cells _ _ _) hNCb ?_))
                intro v' w5 hr5 hg5 hat5
                obtain ⟨ca4, cc4, rfl, _, _⟩ := hr5.shape
                have f5 : Fr (fun b => (Value.slice cc NC cca).ownBlock = some b) wD w5 := ((Fr.refl _ wD).alloc _).grown hg5 (fun k e => .inr e)
                have hat6 : (Value.slice ca4 (NC + 1) cc4).ownBlock = (Value.slice cc NC cca).ownBlock ∨ ∃ b, (Value.slice ca4 (NC + 1) cc4).ownBlock = some b ∧ wD.heap.size < b := by
                  rcases hat5 with e | e
                  · exact .inl e
                  · exact .inr ⟨_, e, by simp⟩
                have hO5 := (unhide HOc).pushC (c := c) hr5 (by rw [hz3]) f5 (by rcases hat6 with e | ⟨b, e, hb⟩; exact .inl e; exact .inr ⟨b, e, by omega⟩) (by have := (unhide HOc).fb fg3 rfl; have := (unhide HOc).fo.lt fg3 rfl; omega)
                have hbx5 := (f5.block w4.heap.size hlB (fun e => (unhide HN3 _ (.inl e)).1 rfl)).trans (unhide HBc)
                have kq : w5.cell? ⟨w4.heap.size, 0, none⟩ = some (.slice cc NC cca) := by simp [World.cell?, hbx5]
                have kf : w5.frozen? ⟨w4.heap.size, 0, none⟩ = false := by simp [World.frozen?, hbx5]
                have kl : w4.heap.size < w5.heap.size := (Array.getElem?_eq_some_iff.1 hbx5).1
                have hqn : ∀ b, inO (.slice ca4 (NC + 1) cc4) (.slice (some ⟨fg3, fo3, none⟩) n3 fc3) xs3 b → b ≠ w4.heap.size ∧ W0.heap.size ≤ b := fun b hb => by
                  rcases hb with hb | hb
                  · rcases hat6 with e | ⟨b', e, hb'⟩
                    · exact unhide HN3 b (.inl (e ▸ hb))
                    · rw [e] at hb
                      have e3 : b' = b := Option.some.inj hb
                      have := (unhide H0c).size
                      exact ⟨by omega, by omega⟩
                  · exact unhide HN3 b (.inr hb)
                have HQ5 := hide hqn
                have HO5 := hide hO5
                have HB5 := hide hbx5
                have HF5 := hide f5
                clear hr5 hg5 hat5 hat6 hO5 hbx5 hqn f5
                go_wp2_with fail
                go_meet
                case rel =>
                  have hF6 : Fr (fun b => b = w4.heap.size) w5 (w5.setCell ⟨w4.heap.size, 0, none⟩ (.slice ca4 (NC + 1) cc4)) := (Fr.refl (fun b => b = w4.heap.size) w5).setCell ⟨w4.heap.size, 0, none⟩ (.inr rfl) _
                  have hb5 := (unhide H0c).trans ((unhide HF5).below (unhide H0c).size (fun b hb e => by have := (unhide HN3 b (.inl e)).2; omega))
                  refine ⟨{ p3 with consts := p3.consts ++ [c] }, ca4, NC + 1, cc4, unhide HG4, unhide HOK4, by unfold Hid; rw [List.length_append, hz3]; rfl, ?_, ?_, ?_, unhide HQ5⟩
                  · exact (unhide HO5).fr hF6 (fun b hb e => (unhide HQ5 b hb).1 e)
                  · show (w5.setCell ⟨w4.heap.size, 0, none⟩ (.slice ca4 (NC + 1) cc4)).heap[w4.heap.size]? = _
                    rw [setCell_block (unhide HB5)]; rfl
                  · exact hb5.trans (hF6.below hb5.size (fun b hb (e : b = w4.heap.size) => by have := hb03.size; have := hb4.size; omega))
            case rest =>
              obtain ⟨p4, ca4, n4, cc4, HG4, HOK4, HL4, HO4, HBX4, H04, HN4⟩ := hcut
              clear t0 t1 t2 tl q0c hlB ql3 HOc HBc H0c HN3 HG3 HOK3 HC3 hz3 Hb HBE
              have q0 : wc.cell? ⟨w4.heap.size, 0, none⟩ = some (.slice ca4 n4 cc4) := by simp [World.cell?, unhide HBX4]
              have q1 : wc.cell? ⟨w4.heap.size, 1, none⟩ = some (.slice (some ⟨fg3, fo3, none⟩) n3 fc3) := by simp [World.cell?, unhide HBX4]
              have ql4 : w4.heap.size < wc.heap.size := (Array.getElem?_eq_some_iff.1 (unhide HBX4)).1
              have HCQ := hide (cpP_any (unhide HO4).pgv (by have := (small_of (unhide HG4)).2.2.1; omega) (by have := (small_of (unhide HG4)).1; omega) (fun i g hg => by have := (small_of (unhide HG4)).2.2.2 i g hg; omega))
              go_wp2_with fail
              refine (unhide HCQ).mono ?_
              clear HCQ
              rintro e w7 ⟨cv7, fv7, xs7, rfl, hO7, hb7⟩
              have HFO := hide (found_any 0 0 0 hO7.pgv (unhide HOK4) ((unhide HF wc (unhide H04)).2.2.2.2.1.below hb7))
              rw [fouV_none (unhide HG4)] at HFO
              clear hO7
              go_wp2_with fail
              refine (unhide HFO).mono ?_
              clear HFO
              rintro e w8 ⟨rfl, hb8⟩
              have h48 : Below wc.heap.size wc w8 := hb7.trans (hb8.mono hb7.size)
              have v0 := Below.heldIn h48 ql4 q0
              have v1 := Below.heldIn h48 ql4 q1
              have vl := Nat.lt_of_lt_of_le ql4 h48.size
              have hO8 := (unhide HO4).keep h48
              have hp4 := (small_of (unhide HG4)).2.1
              obtain ⟨f0, hf0⟩ : ∃ f, p4.funcs[0]? = some f := ⟨_, List.getElem?_eq_getElem hp4⟩
              have hxl8 := hO8.pt.xl
              obtain ⟨x0, hx0⟩ : ∃ x, xs3[0]? = some x := ⟨_, List.getElem?_eq_getElem (by omega)⟩
              have hF0 := hO8.pt.rows 0 f0 x0 hf0 hx0
              obtain ⟨_, _, _, e, _, _, g8, hcs⟩ := (Rx.of_ro hO8.fo).elem zF hx0
              rw [unhide HXL3] at e
              cases e
              have c1 := hcs 1 _ rfl
              simp only [Nat.zero_mul, Nat.add_zero] at c1
              have z1 : w8.frozen? ⟨fg3, fo3 + 1, none⟩ = false := by have := hO8.fo; rw [unhide HXL3] at this; exact this.free rfl _
              have hset := hO8.setF (x' := { x0 with params := 1 }) (f' := { f0 with params := 1 }) (vs := [.int .i64 1]) (j := 1) rfl hx0 hf0 (Fr.refl _ w8) ⟨hF0.1, rfl, hF0.2.2.1, hF0.2.2.2.1, hF0.2.2.2.2⟩ (fun b hb => .inl hb) (fun b hb => (hO8.pt.each 0 0 _ _ b hx0 hx0).1 hb |>.1) (by have := hO8.fb fg3 rfl; omega) (by simp) (fun i hi => by
                match i, hi with
                | 0, _ => rfl
                | 1, _ => rfl
                | 2, _ => rfl
                | 3, _ => rfl
                | 4, _ => rfl)
              rw [Nat.zero_mul, Nat.add_zero] at hset
              have hn3 : 0 < n3 := by rw [← unhide HXL3]; omega
              have hF6 : Fr (fun b => b = fg3) w8 (w8.setCell ⟨fg3, fo3 + 1, none⟩ (.int .i64 1)) := (Fr.refl (fun b => b = fg3) w8).setCell ⟨fg3, fo3 + 1, none⟩ (.inr rfl) _
              have hb08 := (unhide H04).trans (h48.mono (unhide H04).size)
              have hb06 := hb08.trans (hF6.below hb08.size (fun b hb (e : b = fg3) => by have := (unhide HN4 fg3 (.inr (.inl rfl))).2; omega))
              have HS := hide (found_any (w := w8.setCell ⟨fg3, fo3 + 1, none⟩ (.int .i64 1)) 1 0 0 hset.pgv (okp_setF (unhide HOK4) ((unhide HOK4).2 0 f0 hf0).1 ((unhide HOK4).2 0 f0 hf0).2) (unhide HF _ hb06).2.2.2.2.1)
              rw [fouV_some (ckF_main (unhide HG4) hf0)] at HS
              have HWA := hide (unhide HF _ hb06).2.2.2.2.2
              have hgq3 : fg3 ≠ w4.heap.size := (unhide HN4 fg3 (.inr (.inl rfl))).1
              have hn3i : (0 : Int) < (n3 : Int) := by omega
              clear hset hcs hF0 hO8 hF6 hb08 hb06 hx0 hf0 hxl8 q0 q1 hb7 hb8 h48 HXL3
              go_wp2_with fail
              refine (unhide HS).mono ?_
              rintro e w10 ⟨rfl, hw10⟩
              go_wp2_with fail
              go_ret
              exact ⟨rfl, (unhide HWA).trans (hw10.mono (unhide HWA).size)⟩
end
end Go.Proofs.YtfaafamdjcojlaaDoor
