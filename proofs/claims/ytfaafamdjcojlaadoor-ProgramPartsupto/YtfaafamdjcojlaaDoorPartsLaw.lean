/-
  ProgramParts.
-/
import Derived.Test.YtfaafamdjcojlaaDoorHFound
namespace Go.Proofs.YtfaafamdjcojlaaDoor
open Go.RowKit
set_option linter.unusedVariables false
set_option linter.unusedSimpArgs false
set_option maxRecDepth 100000
noncomputable section
set_option maxHeartbeats 25600000 in
theorem partsLaw {w : World} {v : Value} {p : Pg} (z y : Int) (h : PgV w v p) (hin : InQ p) (hla : Laid w) : Calls Tryd.prog 6 #[v, .int .i64 z, .int .i64 y] w fun e w' => e = .returned (.bool true) ∧ Below w.heap.size w w' := by
  have HPV := hide h
  have HIN := hide hin
  have HLA := hide hla
  obtain ⟨cv0, fv0, rfl, hcc, hf⟩ := h
  have hfat := hf.at
  obtain ⟨fa, fcp, rfl, hf1, hf2, hfat⟩ := hfat
  obtain ⟨_, ca, ccap, rfl, hc1, hc2, _⟩ := hcc
  clear hf hin hla
  have hncm := (unhide HIN).nc
  obtain ⟨NC, hNC⟩ : ∃ L, Hid (p.consts.length = L) := ⟨_, rfl⟩
  obtain ⟨NF, hNF⟩ : ∃ L, Hid (p.funcs.length = L) := ⟨_, rfl⟩
  rw [unhide hNC] at HPV hncm ⊢
  rw [unhide hNF] at HPV hf1 ⊢
  obtain ⟨W0, hW0⟩ : ∃ x, Hid (w.alloc (.cells #[.slice ca NC ccap, .slice fa NF fcp] 25) = x) := ⟨_, rfl⟩
  have hBW : Hid (Below w.heap.size w W0 ∧ W0.heap.size = w.heap.size + 1) := by rw [← unhide hW0]; exact ⟨(Below.refl _ _).alloc (Nat.le_refl _) _, by simp⟩
  have hP0 : Hid (W0.heap[w.heap.size]? = some (.cells #[.slice ca NC ccap, .slice fa NF fcp] 25 (0, 0))) := by
    rw [← unhide hW0]; exact heap_alloc_new _ _
  have HF : Hid (∀ wr, Below W0.heap.size W0 wr → wr.cell? ⟨w.heap.size, 0, none⟩ = some (.slice ca NC ccap) ∧ wr.cell? ⟨w.heap.size, 1, none⟩ = some (.slice fa NF fcp) ∧ w.heap.size < wr.heap.size ∧ PgV wr (.agg #[.slice ca NC ccap, .slice fa NF fcp]) p ∧ Laid wr ∧ Below w.heap.size w wr) := by
    intro wr hb
    obtain ⟨b1, b2⟩ := unhide hBW
    have e0 := (hb.block w.heap.size (by omega)).trans (unhide hP0)
    have hw := b1.trans (hb.mono (by omega))
    have := hb.size
    exact ⟨by simp [World.cell?, e0], by simp [World.cell?, e0], by omega, (unhide HPV).below hw (Nat.le_refl _), (unhide HLA).below hw, hw⟩
  have HFI := hide (fun wr (hb : Below W0.heap.size W0 wr) => fit15_any (unhide HF wr hb).2.2.2.1 (unhide HIN).nc (unhide HIN).okf)
  go_enter Tryd.func6, Tryd.ntmps6
  go_wp2_with fail
  rw [unhide hW0]
  refine (unhide HFI W0 (Below.refl _ _)).mono ?_
  rintro e w1 ⟨rfl, hb1⟩
  obtain ⟨p0, p1, pl, _⟩ := unhide HF w1 hb1
  cases hfit : fitV p with
  | false =>
    go_wp2_with fail
    refine (unhide HFI w1 hb1).mono ?_
    rintro e w2 ⟨rfl, hb2⟩
    rw [hfit]
    go_wp2_with fail
    go_ret
    exact ⟨rfl, (unhide HF w2 (hb1.trans (hb2.mono hb1.size))).2.2.2.2.2⟩
  | true =>
    have hgd : ckF p = none := by unfold fitV at hfit; exact Option.isNone_iff_eq_none.1 hfit
    have HGD := hide hgd
    obtain ⟨s1, s2, s3, s4⟩ := small_of hgd
    have HSM := hide s4
    have HCP := hide (fun wr (hb : Below W0.heap.size W0 wr) => cpP_any (unhide HF wr hb).2.2.2.1 (by omega) (by omega) (fun i f hf => by have := s4 i f hf; omega))
    rw [unhide hNC] at s1
    rw [unhide hNF] at s2 s3
    clear s4 hgd hfit HFI
    go_wp2_with fail
    refine (unhide HCP w1 hb1).mono ?_
    rintro e w2 ⟨cv1, fv1, xs1, rfl, hO1, hb2⟩
    have hb02 := hb1.trans (hb2.mono hb1.size)
    clear p0 p1 pl
    obtain ⟨p0, p1, pl, _, hl2, _⟩ := unhide HF w2 hb02
    go_wp2_with fail
    refine (found_any 0 0 0 hO1.pgv (unhide HIN).okp hl2).mono ?_
    rintro e w3 ⟨rfl, hb3⟩
    rw [fouV_none (unhide HGD)]
    have hb03 := hb02.trans (hb3.mono hb02.size)
    clear p0 p1 pl hO1 hl2 hb2 hb1 hb02 hb3
    obtain ⟨p0, p1, pl, _, _, hw3⟩ := unhide HF w3 hb03
    have hzl : p.consts.length = NC := unhide hNC
    have hzf : p.funcs.length = NF := unhide hNF
    have HPK := hide (pick_any w3 z NF (by omega) (by omega))
    have hpk := pick_lt z (n := NF) (by omega)
    obtain ⟨k, hk⟩ : ∃ k, pick z NF = k := ⟨_, rfl⟩
    rw [hk] at HPK hpk
    obtain ⟨f, hfk⟩ : ∃ f, p.funcs[k]? = some f := ⟨_, List.getElem?_eq_getElem (by omega)⟩
    obtain ⟨pb, po, xp, rfl, hpb, hFNp, hpc⟩ := hfat k f hfk
    obtain ⟨ja, jc, jb, jd, rfl⟩ := hFNp.parts
    obtain ⟨CL, hCL⟩ : ∃ n, Hid (f.code.length = n) := ⟨_, rfl⟩
    obtain ⟨HL, hHL⟩ : ∃ n, Hid (f.hs.length = n) := ⟨_, rfl⟩
    have sk := unhide HSM k f hfk
    rw [unhide hCL, unhide hHL] at sk
    go_wp2_with fail
    refine (unhide HPK).mono ?_
    rintro e w3x ⟨rfl, ew⟩
    subst ew
    go_wp2_with fail
    refine (unhide HCP w3x hb03).mono ?_
    rintro e w4 ⟨cv, fv, xs, rfl, hO4, hb4⟩
    have hb04 := hb03.trans (hb4.mono hb03.size)
    obtain ⟨_, r1, rl, _, _, hw4⟩ := unhide HF w4 hb04
    have p0' := Below.heldIn hw4 hpb (hpc 0 _ rfl)
    have p1' := Below.heldIn hw4 hpb (hpc 1 _ rfl)
    have p2' := Below.heldIn hw4 hpb (hpc 2 _ rfl)
    have p3' := Below.heldIn hw4 hpb (hpc 3 _ rfl)
    have p4' := Below.heldIn hw4 hpb (hpc 4 _ rfl)
    rw [Nat.add_zero] at p0'
    rw [unhide hCL] at p3'
    rw [unhide hHL] at p4'
    have hpb4 : pb < w4.heap.size := by have := hw4.size; omega
    obtain ⟨cc, cca, rfl, hcap, hcap2⟩ := hO4.co.shape
    have hx4 := hO4.pt.xl
    obtain ⟨fg, fo, fcc, rfl, hfcap, hfcap2, hgl, _⟩ := hO4.fo.full (by omega)
    rw [hx4, hzf] at hfcap
    have hxz : xs.length = NF := hx4.trans hzf
    rw [hzl, hxz] at hO4
    rw [hzl, hxz]
    obtain ⟨wr, hwr⟩ : ∃ x, Hid ((w4.alloc (.cells #[.slice cc NC cca, .slice (some ⟨fg, fo, none⟩) NF fcc] 25)).alloc (.cells #[.string f.name, .int .i64 f.params, .int .i64 f.locals, .slice ja CL jc, .slice jb HL jd] 47) = x) := ⟨_, rfl⟩
    have hb4r : Below w4.heap.size w4 wr := by rw [← unhide hwr]; exact ((Below.refl _ _).alloc (Nat.le_refl _) _).alloc (by simp) _
    have HBX : Hid (w4.heap.size < wr.heap.size ∧ wr.heap[w4.heap.size]? = some (.cells #[.slice cc NC cca, .slice (some ⟨fg, fo, none⟩) NF fcc] 25 (0, 0))) := by rw [← unhide hwr]; exact ⟨by simp; omega, (Below.heap_alloc _ _ _ (by simp)).trans (heap_alloc_new _ _)⟩
    have HQI : Hid (∀ b, inO (.slice cc NC cca) (.slice (some ⟨fg, fo, none⟩) NF fcc) xs b → b ≠ w4.heap.size ∧ W0.heap.size ≤ b) := fun b e => by have := hO4.ge e; have := hb03.size; exact ⟨by omega, by omega⟩
    have HO4 := hide (hO4.keep hb4r)
    have h0r : Below W0.heap.size W0 wr := (hb03.trans (hb4.mono hb03.size)).trans (hb4r.mono (by have := hb03.size; have := hb4.size; omega))
    have hB4 : w3x.heap.size ≤ wr.heap.size := by have := hb4.size; have := hb4r.size; omega
    have q0 : wr.cell? ⟨w4.heap.size, 0, none⟩ = some (.slice cc NC cca) := by simp [World.cell?, (unhide HBX).2]
    have q1 : wr.cell? ⟨w4.heap.size, 1, none⟩ = some (.slice (some ⟨fg, fo, none⟩) NF fcc) := by simp [World.cell?, (unhide HBX).2]
    have qf1 : wr.frozen? ⟨w4.heap.size, 1, none⟩ = false := by simp [World.frozen?, (unhide HBX).2]
    have qf0 : wr.frozen? ⟨w4.heap.size, 0, none⟩ = false := by simp [World.frozen?, (unhide HBX).2]
    have ql := (unhide HBX).1
    have hgq : fg ≠ w4.heap.size := (unhide HQI fg (.inr (.inl rfl))).1
    obtain ⟨x, hxk⟩ : ∃ x, xs[k]? = some x := ⟨_, List.getElem?_eq_getElem (by omega)⟩
    have hFk := (unhide HO4).pt.rows k f x hfk hxk
    obtain ⟨ia, ic, ha, hcq, rfl⟩ := hFk.fnv.parts
    have hfo4 : Ro wr 5 (.slice (some ⟨fg, fo, none⟩) NF fcc) xs.length (flt enF xs) := (unhide HO4).fo
    have hfzz : ∀ o, wr.frozen? ⟨fg, o, none⟩ = false := fun o => by rw [hxz] at hfo4; exact hfo4.free rfl o
    obtain ⟨_, _, _, e, _, _, hgr, hcs⟩ := (Rx.of_ro hfo4).elem zF hxk
    rw [hxz] at e
    cases e
    have c3 := hcs 3 _ rfl
    rw [unhide hCL] at c3
    have k0 : (0 : Int) ≤ (k : Int) := by omega
    have k1 : (k : Int) < (NF : Int) := by omega
    have hQW : w.heap.size < w4.heap.size := by have := hb4.size; omega
    have HFB : Hid (wr.heap[w4.heap.size + 1]? = some (.cells #[.string f.name, .int .i64 f.params, .int .i64 f.locals, .slice ja CL jc, .slice jb HL jd] 47 (0, 0)) ∧ wr.heap.size = w4.heap.size + 2) := by
      rw [← unhide hwr]
      have := heap_alloc_new (w4.alloc (.cells #[.slice cc NC cca, .slice (some ⟨fg, fo, none⟩) NF fcc] 25)) (.cells #[.string f.name, .int .i64 f.params, .int .i64 f.locals, .slice ja CL jc, .slice jb HL jd] 47)
      rw [World.size_alloc] at this
      exact ⟨this, by simp⟩
    have HPC := hide (pick_any wr y CL (by omega) (by omega))
    have hpc1 := pick_lt y (n := CL) (by omega)
    obtain ⟨pc, hpcE⟩ : ∃ j, pick y CL = j := ⟨_, rfl⟩
    rw [hpcE] at HPC hpc1
    obtain ⟨wr2, hwr2⟩ : ∃ x, Hid (wr.alloc (.cells #[.int .i64 0, .int .i64 0] 50) = x) := ⟨_, rfl⟩
    have hb2 : Below wr.heap.size wr wr2 := by rw [← unhide hwr2]; exact (Below.refl _ _).alloc (Nat.le_refl _) _
    have HB2 : Hid (wr2.heap[w4.heap.size + 2]? = some (.cells #[.int .i64 0, .int .i64 0] 50 (0, 0))) := by
      rw [← unhide hwr2, ← (unhide HFB).2]; exact heap_alloc_new _ _
    have HS2 : Hid (w3x.heap.size ≤ wr2.heap.size) := Nat.le_trans hB4 hb2.size
    have HO2 := hide ((unhide HO4).keep hb2)
    have H02 := hide (h0r.trans (hb2.mono h0r.size))
    have HNB : Hid (∀ b, inO (.slice cc NC cca) (.slice (some ⟨fg, fo, none⟩) NF fcc) xs b → b ≠ w4.heap.size + 2) := fun b hb e => by have := (unhide HO4).ge hb; have := (unhide HFB).2; omega
    have HQ2 := hide (And.intro (Below.heldIn hb2 ql q0) (Below.heldIn hb2 ql q1))
    have ql2 := Nat.lt_of_lt_of_le ql hb2.size
    have hg2 : fg < wr2.heap.size := Nat.lt_of_lt_of_le hgr hb2.size
    have hg4 : fg ≠ w4.heap.size + 2 := unhide HNB fg (.inr (.inl rfl))
    have hCLp : 0 < f.code.length := by rw [unhide hCL]; omega
    obtain ⟨cg, co, _, eia, _, _, _, _⟩ := hFk.2.2.2.1.full hCLp
    cases eia
    have HCI : Hid (inO (.slice cc NC cca) (.slice (some ⟨fg, fo, none⟩) NF fcc) xs cg) := .inr (.inr ⟨k, _, hxk, .inl rfl⟩)
    have HCF : Hid (cg ≠ fg) := fun e => ((unhide HO4).pt.apart k _ cg hxk (.inl rfl)).2.2 (by rw [e]; rfl)
    have HCS2 : Hid (∀ (j : Nat) u, (enF ⟨f.name, f.params, f.locals, .slice (some ⟨cg, co, none⟩) CL ic, .slice ha f.hs.length hcq⟩)[j]? = some u → wr2.cell? ⟨fg, fo + k * 5 + j, none⟩ = some u) := fun j u hu => Below.heldIn hb2 hgr (hcs j u (by rw [unhide hCL]; exact hu))
    have fb2 : wr2.cell? ⟨w4.heap.size + 1, 2, none⟩ = some (.int .i64 f.locals) := by simp [World.cell?, (hb2.block _ (by have := (unhide HFB).2; omega)).trans (unhide HFB).1]
    have fbl : w4.heap.size + 1 < wr2.heap.size := by have := (unhide HFB).2; have := hb2.size; omega
    have fb3 : wr.cell? ⟨w4.heap.size + 1, 3, none⟩ = some (.slice ja CL jc) := by simp [World.cell?, (unhide HFB).1]
    have bb0 : wr2.cell? ⟨w4.heap.size + 2, 0, none⟩ = some (.int .i64 0) := by simp [World.cell?, unhide HB2]
    have bb1 : wr2.cell? ⟨w4.heap.size + 2, 1, none⟩ = some (.int .i64 0) := by simp [World.cell?, unhide HB2]
    have bf0 : wr2.frozen? ⟨w4.heap.size + 2, 0, none⟩ = false := by simp [World.frozen?, unhide HB2]
    have bf1 : wr2.frozen? ⟨w4.heap.size + 2, 1, none⟩ = false := by simp [World.frozen?, unhide HB2]
    have bbl : w4.heap.size + 2 < wr2.heap.size := (Array.getElem?_eq_some_iff.1 (unhide HB2)).1
    obtain ⟨pp0, pp1, ppl, _⟩ := unhide HF wr2 (unhide H02)
    have hsl : fbl = fbl := rfl
    have HZ2 := hide (unhide HFB).2
    have pi0 : (0 : Int) ≤ (pc : Int) := by omega
    have pi1 : (pc : Int) < (CL : Int) := by omega
    clear p0 p1 pl hsl
    go_wp2_with fail
    rw [unhide hwr]
    refine (unhide HPC).mono ?_
    rintro e wq ⟨rfl, ew⟩
    have ew' := ew.symm
    subst ew'
    clear p0' p1' p2' p3' p4' r1 rl hpb4 q0 q1 qf0 qf1 hcs c3 hfzz hfo4 hO4 fb3 hfat
    go_upto_region 10 with fail
    rw [show wr.alloc (.cells #[.int .i64 0, .int .i64 0] 50) = wr2 from unhide hwr2]
    have hbz : wr.heap.size = w4.heap.size + 2 := unhide HZ2
    rw [hbz]
    clear hbz
    go_wp2_with fail
    obtain ⟨Z7, hZ7⟩ : ∃ Z, wrap64 (y.tdiv 7) = Z := ⟨_, rfl⟩
    rw [hZ7]
    have HP7 := hide (pick_any wr2 Z7 7 (by omega) (by omega))
    have hp7 := pick_lt Z7 (n := 7) (by omega)
    obtain ⟨D, hD⟩ : ∃ D : Int, ((pick Z7 7 : Nat) : Int) = D := ⟨_, rfl⟩
    rw [hD] at HP7
    have hD7 : D = 0 ∨ D = 1 ∨ D = 2 ∨ D = 3 ∨ D = 4 ∨ D = 5 ∨ D = 6 := by omega
    refine (unhide HP7).mono ?_
    rintro e wq ⟨rfl, ew⟩
    have ew' := ew.symm
    subst ew'
    have y0_ := (unhide HQ2).1
    clear hZ7 hwr2
    rcases hD7 with rfl | rfl | rfl | rfl | rfl | rfl | rfl
    · by_cases hfull : (CL : Int) = 2000
      · have hfb : ((CL : Int) == 2000) = true := by simp [hfull]
        have HE := hide (show ckF { p with funcs := p.funcs.set k { f with code := f.code.set pc (40, (CL : Int)) } } = some ((k : Int), (pc : Int), 7) from ins_bad (unhide HGD) hfk (by rw [unhide hCL]; exact hpc1) (by left; exact ⟨by rw [erN_kd (op := 40) (n := 40) rfl (by decide) (by decide)]; rw [if_neg (by rw [show lo (kd 40) = 0 by decide, show hi (kd 40) = 1999 by decide]; omega)]; decide, rfl⟩))
        clear hfull
        obtain ⟨W5, hW5⟩ : ∃ x, Hid ((wr2.setCell ⟨w4.heap.size + 2, 0, none⟩ (.int .i64 40)).setCell ⟨w4.heap.size + 2, 1, none⟩ (.int .i64 (CL : Int)) = x) := ⟨_, rfl⟩
        have hF5 : Fr (fun b => b = w4.heap.size + 2) wr2 W5 := by rw [← unhide hW5]; exact ((Fr.refl (fun b => b = w4.heap.size + 2) wr2).setCell ⟨w4.heap.size + 2, 0, none⟩ (.inr rfl) _).setCell ⟨w4.heap.size + 2, 1, none⟩ (.inr rfl) _
        have hB5 : W5.heap[w4.heap.size + 2]? = some (.cells #[.int .i64 40, .int .i64 (CL : Int)] 50 (0, 0)) := by rw [← unhide hW5, setCell_block (setCell_block (unhide HB2) _)]; rfl
        have hO5 := (unhide HO2).fr hF5 (fun b hb (e : b = w4.heap.size + 2) => unhide HNB b hb e)
        have hcs5 := fun (j : Nat) u (hu : (enF _)[j]? = some u) => Fr.heldIn hF5 (p := ⟨fg, fo + k * 5 + j, none⟩) hg2 (fun (e : fg = w4.heap.size + 2) => hg4 e) (unhide HCS2 j u hu)
        have y3 := hcs5 3 _ rfl
        have y1 := Fr.heldIn hF5 ql2 (by simp) (unhide HQ2).2
        have y0 := Fr.heldIn hF5 ql2 (by simp) (unhide HQ2).1
        have yl := Nat.lt_of_lt_of_le ql2 hF5.size
        have yfl : fg < W5.heap.size := Nat.lt_of_lt_of_le hg2 hF5.size
        have ybl : w4.heap.size + 2 < W5.heap.size := (Array.getElem?_eq_some_iff.1 hB5).1
        have u0 : W5.cell? ⟨w4.heap.size + 2, 0, none⟩ = some (.int .i64 40) := by simp [World.cell?, hB5]
        have u1 : W5.cell? ⟨w4.heap.size + 2, 1, none⟩ = some (.int .i64 (CL : Int)) := by simp [World.cell?, hB5]
        have hcB : cg ≠ w4.heap.size + 2 := unhide HNB cg (unhide HCI)
        have hcQ : cg ≠ w4.heap.size := (unhide HQI cg (unhide HCI)).1
        have hcF : cg ≠ fg := unhide HCF
        have hR5 := (hO5.pt.rows k f _ hfk hxk).2.2.2.1
        obtain ⟨qq, hqq⟩ : ∃ q, f.code[pc]? = some q := ⟨_, List.getElem?_eq_getElem (by rw [unhide hCL]; exact hpc1)⟩
        obtain ⟨_, _, _, e5, _, _, ygl, hci⟩ := (Rx.of_ro hR5).elem zI hqq
        simp only [unhide hCL] at e5
        cases e5
        have i0 := hci 0 _ rfl
        have i1 := hci 1 _ rfl
        rw [Nat.add_zero] at i0
        have iz : ∀ o, W5.frozen? ⟨cg, o, none⟩ = false := fun o => by have := hR5; simp only [unhide hCL] at this; exact this.free rfl o
        have iz0 := iz (co + pc * 2)
        have iz1 := iz (co + pc * 2 + 1)
        have hset := hO5.setI (q' := (40, (CL : Int))) hxk hfk hqq rfl
        have fA : Fr (fun b => b = cg) W5 ((W5.setCell ⟨cg, co + pc * 2, none⟩ (.int .i64 40)).setCell ⟨cg, co + pc * 2 + 1, none⟩ (.int .i64 (CL : Int))).drew := Fr.drew (((Fr.refl (fun b => b = cg) W5).setCell ⟨cg, co + pc * 2, none⟩ (.inr rfl) _).setCell ⟨cg, co + pc * 2 + 1, none⟩ (.inr rfl) _)
        have hb5 : Below W0.heap.size W0 W5 := (unhide H02).trans (hF5.below (unhide H02).size (fun b hb (e : b = w4.heap.size + 2) => by have := (unhide hBW).2; omega))
        have hbA := hb5.trans (fA.below hb5.size (fun b hb (e : b = cg) => by have := (unhide HQI cg (unhide HCI)).2; omega))
        have HS := hide (found_any 7 (k : Int) (pc : Int) (hset.fr (S := fun _ => False) (Fr.drawnW _) (fun _ _ e => e)).pgv (okp_setF (unhide HIN).okp (by simp only [List.length_set]; exact ((unhide HIN).okf k f hfk).1) ((unhide HIN).okf k f hfk).2.1) (unhide HF _ hbA).2.2.2.2.1)
        rw [fouV_some (unhide HE)] at HS
        have HWA := hide (unhide HF _ hbA).2.2.2.2.2
        clear hci iz hset fA hb5 hbA hR5 hcs5 hO5 HE hB5 hF5
        go_wp2_with fail
        rw [unhide hW5]
        refine wp_region_held_drew (S := fun wx => Fr (fun b => b = cg) W5 wx) (by kernel_rfl) (Fr.drawnW _) (fun hHeld => ?_)
        refine wpAnyH_take (i := 0) (oi := _) (v := .pointer (some ⟨w4.heap.size, 1, none⟩)) rfl (by kernel_rfl) (by kernel_rfl) (by kernel_rfl) (fun _ _ _ h => h) (Or.inl ⟨by rfl, (by intro w hSw; go_simp)⟩) (by assumption) ?_
        refine wpAnyH_take (i := 1) (oi := _) (v := .slice (some ⟨fg, fo, none⟩) NF fcc) rfl (by kernel_rfl) (by kernel_rfl) (by kernel_rfl) (fun _ _ _ h => h) (Or.inl ⟨by rfl, (by intro w hSw; have hs0 := Fr.heldIn hSw yl (fun e => hcQ e.symm) y1; go_simp)⟩) (by assumption) ?_
        go_simp
        refine wpAnyH_take (i := 2) (oi := _) (v := .int .i64 (k : Int)) rfl (by kernel_rfl) (by kernel_rfl) (by kernel_rfl) (fun _ _ _ h => h) (Or.inl ⟨by rfl, (by intro w hSw; go_simp)⟩) (by assumption) ?_
        refine wpAnyH_take (i := 3) (oi := _) (v := .pointer (some ⟨fg, fo + k * 5, none⟩)) rfl (by kernel_rfl) (by kernel_rfl) (by kernel_rfl) (fun _ _ _ h => h) (Or.inl ⟨by rfl, (by intro w hSw; go_simp)⟩) (by assumption) ?_
        go_simp
        refine wpAnyH_take (i := 4) (oi := _) (v := .pointer (some ⟨fg, fo + k * 5 + 3, none⟩)) rfl (by kernel_rfl) (by kernel_rfl) (by kernel_rfl) (fun _ _ _ h => h) (Or.inl ⟨by rfl, (by intro w hSw; go_simp)⟩) (by assumption) ?_
        go_simp
        refine wpAnyH_take (i := 5) (oi := _) (v := .slice (some ⟨cg, co, none⟩) CL ic) rfl (by kernel_rfl) (by kernel_rfl) (by kernel_rfl) (fun _ _ _ h => h) (Or.inl ⟨by rfl, (by intro w hSw; have hs0 := Fr.heldIn hSw yfl (fun e => hcF e.symm) y3; go_simp)⟩) (by assumption) ?_
        go_simp
        refine wpAnyH_take (i := 6) (oi := _) (v := .int .i64 (pc : Int)) rfl (by kernel_rfl) (by kernel_rfl) (by kernel_rfl) (fun _ _ _ h => h) (Or.inl ⟨by rfl, (by intro w hSw; go_simp)⟩) (by assumption) ?_
        refine wpAnyH_take (i := 7) (oi := _) (v := .agg #[.int .i64 40, .int .i64 (CL : Int)]) rfl (by kernel_rfl) (by kernel_rfl) (by kernel_rfl) (fun _ _ _ h => h) (Or.inl ⟨by rfl, (by intro w hSw; have hs0 := Fr.heldIn hSw ybl (fun e => hcB e.symm) u0; have hs1 := Fr.heldIn hSw ybl (fun e => hcB e.symm) u1; go_simp)⟩) (by assumption) ?_
        go_simp
        refine wpAnyH_take (i := 8) (oi := _) (v := .pointer (some ⟨cg, co + pc * 2, none⟩)) rfl (by kernel_rfl) (by kernel_rfl) (by kernel_rfl) (fun _ _ _ h => h) (Or.inl ⟨by rfl, (by intro w hSw; go_simp)⟩) (by assumption) ?_
        go_simp
        refine wpAnyH_ready (rs := [9]) (by kernel_rfl) (by simp) ?_
        refine AllReadyH.cons (o := _) rfl (fun K hK => ?_) AllReadyH.nil
        go_simp
        refine hK.out _ _ (Fr.drew (((Fr.refl (fun b => b = cg) W5).setCell ⟨cg, co + pc * 2, none⟩ (.inr rfl) _).setCell ⟨cg, co + pc * 2 + 1, none⟩ (.inr rfl) _)) (fun hHeld9x => ?_)
        clear hK K
        refine wpAnyH_done (by kernel_rfl) ?_ _
        go_wp2_with fail
        refine (unhide HS).mono ?_
        rintro e w10 ⟨rfl, hw10⟩
        go_wp2_with fail
        go_ret
        exact ⟨rfl, (unhide HWA).trans (hw10.mono (unhide HWA).size)⟩
      · have hfb : ((CL : Int) == 2000) = false := by simpa using hfull
        have HE := hide (show ckF { p with funcs := p.funcs.set k { f with code := f.code.set pc (40, (CL : Int)) } } = some ((k : Int), (pc : Int), 8) from ins_bad (unhide HGD) hfk (by rw [unhide hCL]; exact hpc1) (by right; exact ⟨by rw [erN_kd (op := 40) (n := 40) rfl (by decide) (by decide)]; rw [if_pos (by rw [show lo (kd 40) = 0 by decide, show hi (kd 40) = 1999 by decide]; omega)], by unfold nmB; rw [show kdI 40 = 2 by decide]; simp [unhide hCL], rfl⟩))
        clear hfull
        obtain ⟨W5, hW5⟩ : ∃ x, Hid ((wr2.setCell ⟨w4.heap.size + 2, 0, none⟩ (.int .i64 40)).setCell ⟨w4.heap.size + 2, 1, none⟩ (.int .i64 (CL : Int)) = x) := ⟨_, rfl⟩
        have hF5 : Fr (fun b => b = w4.heap.size + 2) wr2 W5 := by rw [← unhide hW5]; exact ((Fr.refl (fun b => b = w4.heap.size + 2) wr2).setCell ⟨w4.heap.size + 2, 0, none⟩ (.inr rfl) _).setCell ⟨w4.heap.size + 2, 1, none⟩ (.inr rfl) _
        have hB5 : W5.heap[w4.heap.size + 2]? = some (.cells #[.int .i64 40, .int .i64 (CL : Int)] 50 (0, 0)) := by rw [← unhide hW5, setCell_block (setCell_block (unhide HB2) _)]; rfl
        have hO5 := (unhide HO2).fr hF5 (fun b hb (e : b = w4.heap.size + 2) => unhide HNB b hb e)
        have hcs5 := fun (j : Nat) u (hu : (enF _)[j]? = some u) => Fr.heldIn hF5 (p := ⟨fg, fo + k * 5 + j, none⟩) hg2 (fun (e : fg = w4.heap.size + 2) => hg4 e) (unhide HCS2 j u hu)
        have y3 := hcs5 3 _ rfl
        have y1 := Fr.heldIn hF5 ql2 (by simp) (unhide HQ2).2
        have y0 := Fr.heldIn hF5 ql2 (by simp) (unhide HQ2).1
        have yl := Nat.lt_of_lt_of_le ql2 hF5.size
        have yfl : fg < W5.heap.size := Nat.lt_of_lt_of_le hg2 hF5.size
        have ybl : w4.heap.size + 2 < W5.heap.size := (Array.getElem?_eq_some_iff.1 hB5).1
        have u0 : W5.cell? ⟨w4.heap.size + 2, 0, none⟩ = some (.int .i64 40) := by simp [World.cell?, hB5]
        have u1 : W5.cell? ⟨w4.heap.size + 2, 1, none⟩ = some (.int .i64 (CL : Int)) := by simp [World.cell?, hB5]
        have hcB : cg ≠ w4.heap.size + 2 := unhide HNB cg (unhide HCI)
        have hcQ : cg ≠ w4.heap.size := (unhide HQI cg (unhide HCI)).1
        have hcF : cg ≠ fg := unhide HCF
        have hR5 := (hO5.pt.rows k f _ hfk hxk).2.2.2.1
        obtain ⟨qq, hqq⟩ : ∃ q, f.code[pc]? = some q := ⟨_, List.getElem?_eq_getElem (by rw [unhide hCL]; exact hpc1)⟩
        obtain ⟨_, _, _, e5, _, _, ygl, hci⟩ := (Rx.of_ro hR5).elem zI hqq
        simp only [unhide hCL] at e5
        cases e5
        have i0 := hci 0 _ rfl
        have i1 := hci 1 _ rfl
        rw [Nat.add_zero] at i0
        have iz : ∀ o, W5.frozen? ⟨cg, o, none⟩ = false := fun o => by have := hR5; simp only [unhide hCL] at this; exact this.free rfl o
        have iz0 := iz (co + pc * 2)
        have iz1 := iz (co + pc * 2 + 1)
        have hset := hO5.setI (q' := (40, (CL : Int))) hxk hfk hqq rfl
        have fA : Fr (fun b => b = cg) W5 ((W5.setCell ⟨cg, co + pc * 2, none⟩ (.int .i64 40)).setCell ⟨cg, co + pc * 2 + 1, none⟩ (.int .i64 (CL : Int))).drew := Fr.drew (((Fr.refl (fun b => b = cg) W5).setCell ⟨cg, co + pc * 2, none⟩ (.inr rfl) _).setCell ⟨cg, co + pc * 2 + 1, none⟩ (.inr rfl) _)
        have hb5 : Below W0.heap.size W0 W5 := (unhide H02).trans (hF5.below (unhide H02).size (fun b hb (e : b = w4.heap.size + 2) => by have := (unhide hBW).2; omega))
        have hbA := hb5.trans (fA.below hb5.size (fun b hb (e : b = cg) => by have := (unhide HQI cg (unhide HCI)).2; omega))
        have HS := hide (found_any 8 (k : Int) (pc : Int) (hset.fr (S := fun _ => False) (Fr.drawnW _) (fun _ _ e => e)).pgv (okp_setF (unhide HIN).okp (by simp only [List.length_set]; exact ((unhide HIN).okf k f hfk).1) ((unhide HIN).okf k f hfk).2.1) (unhide HF _ hbA).2.2.2.2.1)
        rw [fouV_some (unhide HE)] at HS
        have HWA := hide (unhide HF _ hbA).2.2.2.2.2
        clear hci iz hset fA hb5 hbA hR5 hcs5 hO5 HE hB5 hF5
        go_wp2_with fail
        rw [unhide hW5]
        refine wp_region_held_drew (S := fun wx => Fr (fun b => b = cg) W5 wx) (by kernel_rfl) (Fr.drawnW _) (fun hHeld => ?_)
        refine wpAnyH_take (i := 0) (oi := _) (v := .pointer (some ⟨w4.heap.size, 1, none⟩)) rfl (by kernel_rfl) (by kernel_rfl) (by kernel_rfl) (fun _ _ _ h => h) (Or.inl ⟨by rfl, (by intro w hSw; go_simp)⟩) (by assumption) ?_
        refine wpAnyH_take (i := 1) (oi := _) (v := .slice (some ⟨fg, fo, none⟩) NF fcc) rfl (by kernel_rfl) (by kernel_rfl) (by kernel_rfl) (fun _ _ _ h => h) (Or.inl ⟨by rfl, (by intro w hSw; have hs0 := Fr.heldIn hSw yl (fun e => hcQ e.symm) y1; go_simp)⟩) (by assumption) ?_
        go_simp
        refine wpAnyH_take (i := 2) (oi := _) (v := .int .i64 (k : Int)) rfl (by kernel_rfl) (by kernel_rfl) (by kernel_rfl) (fun _ _ _ h => h) (Or.inl ⟨by rfl, (by intro w hSw; go_simp)⟩) (by assumption) ?_
        refine wpAnyH_take (i := 3) (oi := _) (v := .pointer (some ⟨fg, fo + k * 5, none⟩)) rfl (by kernel_rfl) (by kernel_rfl) (by kernel_rfl) (fun _ _ _ h => h) (Or.inl ⟨by rfl, (by intro w hSw; go_simp)⟩) (by assumption) ?_
        go_simp
        refine wpAnyH_take (i := 4) (oi := _) (v := .pointer (some ⟨fg, fo + k * 5 + 3, none⟩)) rfl (by kernel_rfl) (by kernel_rfl) (by kernel_rfl) (fun _ _ _ h => h) (Or.inl ⟨by rfl, (by intro w hSw; go_simp)⟩) (by assumption) ?_
        go_simp
        refine wpAnyH_take (i := 5) (oi := _) (v := .slice (some ⟨cg, co, none⟩) CL ic) rfl (by kernel_rfl) (by kernel_rfl) (by kernel_rfl) (fun _ _ _ h => h) (Or.inl ⟨by rfl, (by intro w hSw; have hs0 := Fr.heldIn hSw yfl (fun e => hcF e.symm) y3; go_simp)⟩) (by assumption) ?_
        go_simp
        refine wpAnyH_take (i := 6) (oi := _) (v := .int .i64 (pc : Int)) rfl (by kernel_rfl) (by kernel_rfl) (by kernel_rfl) (fun _ _ _ h => h) (Or.inl ⟨by rfl, (by intro w hSw; go_simp)⟩) (by assumption) ?_
        refine wpAnyH_take (i := 7) (oi := _) (v := .agg #[.int .i64 40, .int .i64 (CL : Int)]) rfl (by kernel_rfl) (by kernel_rfl) (by kernel_rfl) (fun _ _ _ h => h) (Or.inl ⟨by rfl, (by intro w hSw; have hs0 := Fr.heldIn hSw ybl (fun e => hcB e.symm) u0; have hs1 := Fr.heldIn hSw ybl (fun e => hcB e.symm) u1; go_simp)⟩) (by assumption) ?_
        go_simp
        refine wpAnyH_take (i := 8) (oi := _) (v := .pointer (some ⟨cg, co + pc * 2, none⟩)) rfl (by kernel_rfl) (by kernel_rfl) (by kernel_rfl) (fun _ _ _ h => h) (Or.inl ⟨by rfl, (by intro w hSw; go_simp)⟩) (by assumption) ?_
        go_simp
        refine wpAnyH_ready (rs := [9]) (by kernel_rfl) (by simp) ?_
        refine AllReadyH.cons (o := _) rfl (fun K hK => ?_) AllReadyH.nil
        go_simp
        refine hK.out _ _ (Fr.drew (((Fr.refl (fun b => b = cg) W5).setCell ⟨cg, co + pc * 2, none⟩ (.inr rfl) _).setCell ⟨cg, co + pc * 2 + 1, none⟩ (.inr rfl) _)) (fun hHeld9x => ?_)
        clear hK K
        refine wpAnyH_done (by kernel_rfl) ?_ _
        go_wp2_with fail
        refine (unhide HS).mono ?_
        rintro e w10 ⟨rfl, hw10⟩
        go_wp2_with fail
        go_ret
        exact ⟨rfl, (unhide HWA).trans (hw10.mono (unhide HWA).size)⟩
    · by_cases hfull : f.locals = 64
      · have hfb : (f.locals == 64) = true := by simp [hfull]
        have HE := hide (show ckF { p with funcs := p.funcs.set k { f with code := f.code.set pc (10, f.locals) } } = some ((k : Int), (pc : Int), 7) from ins_bad (unhide HGD) hfk (by rw [unhide hCL]; exact hpc1) (by left; exact ⟨by rw [erN_kd (op := 10) (n := 10) rfl (by decide) (by decide)]; rw [if_neg (by rw [show lo (kd 10) = 0 by decide, show hi (kd 10) = 63 by decide]; omega)]; decide, rfl⟩))
        clear hfull
        obtain ⟨W5, hW5⟩ : ∃ x, Hid ((wr2.setCell ⟨w4.heap.size + 2, 0, none⟩ (.int .i64 10)).setCell ⟨w4.heap.size + 2, 1, none⟩ (.int .i64 f.locals) = x) := ⟨_, rfl⟩
        have hF5 : Fr (fun b => b = w4.heap.size + 2) wr2 W5 := by rw [← unhide hW5]; exact ((Fr.refl (fun b => b = w4.heap.size + 2) wr2).setCell ⟨w4.heap.size + 2, 0, none⟩ (.inr rfl) _).setCell ⟨w4.heap.size + 2, 1, none⟩ (.inr rfl) _
        have hB5 : W5.heap[w4.heap.size + 2]? = some (.cells #[.int .i64 10, .int .i64 f.locals] 50 (0, 0)) := by rw [← unhide hW5, setCell_block (setCell_block (unhide HB2) _)]; rfl
        have hO5 := (unhide HO2).fr hF5 (fun b hb (e : b = w4.heap.size + 2) => unhide HNB b hb e)
        have hcs5 := fun (j : Nat) u (hu : (enF _)[j]? = some u) => Fr.heldIn hF5 (p := ⟨fg, fo + k * 5 + j, none⟩) hg2 (fun (e : fg = w4.heap.size + 2) => hg4 e) (unhide HCS2 j u hu)
        have y3 := hcs5 3 _ rfl
        have y1 := Fr.heldIn hF5 ql2 (by simp) (unhide HQ2).2
        have y0 := Fr.heldIn hF5 ql2 (by simp) (unhide HQ2).1
        have yl := Nat.lt_of_lt_of_le ql2 hF5.size
        have yfl : fg < W5.heap.size := Nat.lt_of_lt_of_le hg2 hF5.size
        have ybl : w4.heap.size + 2 < W5.heap.size := (Array.getElem?_eq_some_iff.1 hB5).1
        have u0 : W5.cell? ⟨w4.heap.size + 2, 0, none⟩ = some (.int .i64 10) := by simp [World.cell?, hB5]
        have u1 : W5.cell? ⟨w4.heap.size + 2, 1, none⟩ = some (.int .i64 f.locals) := by simp [World.cell?, hB5]
        have hcB : cg ≠ w4.heap.size + 2 := unhide HNB cg (unhide HCI)
        have hcQ : cg ≠ w4.heap.size := (unhide HQI cg (unhide HCI)).1
        have hcF : cg ≠ fg := unhide HCF
        have hR5 := (hO5.pt.rows k f _ hfk hxk).2.2.2.1
        obtain ⟨qq, hqq⟩ : ∃ q, f.code[pc]? = some q := ⟨_, List.getElem?_eq_getElem (by rw [unhide hCL]; exact hpc1)⟩
        obtain ⟨_, _, _, e5, _, _, ygl, hci⟩ := (Rx.of_ro hR5).elem zI hqq
        simp only [unhide hCL] at e5
        cases e5
        have i0 := hci 0 _ rfl
        have i1 := hci 1 _ rfl
        rw [Nat.add_zero] at i0
        have iz : ∀ o, W5.frozen? ⟨cg, o, none⟩ = false := fun o => by have := hR5; simp only [unhide hCL] at this; exact this.free rfl o
        have iz0 := iz (co + pc * 2)
        have iz1 := iz (co + pc * 2 + 1)
        have hset := hO5.setI (q' := (10, f.locals)) hxk hfk hqq rfl
        have fA : Fr (fun b => b = cg) W5 ((W5.setCell ⟨cg, co + pc * 2, none⟩ (.int .i64 10)).setCell ⟨cg, co + pc * 2 + 1, none⟩ (.int .i64 f.locals)).drew := Fr.drew (((Fr.refl (fun b => b = cg) W5).setCell ⟨cg, co + pc * 2, none⟩ (.inr rfl) _).setCell ⟨cg, co + pc * 2 + 1, none⟩ (.inr rfl) _)
        have hb5 : Below W0.heap.size W0 W5 := (unhide H02).trans (hF5.below (unhide H02).size (fun b hb (e : b = w4.heap.size + 2) => by have := (unhide hBW).2; omega))
        have hbA := hb5.trans (fA.below hb5.size (fun b hb (e : b = cg) => by have := (unhide HQI cg (unhide HCI)).2; omega))
        have HS := hide (found_any 7 (k : Int) (pc : Int) (hset.fr (S := fun _ => False) (Fr.drawnW _) (fun _ _ e => e)).pgv (okp_setF (unhide HIN).okp (by simp only [List.length_set]; exact ((unhide HIN).okf k f hfk).1) ((unhide HIN).okf k f hfk).2.1) (unhide HF _ hbA).2.2.2.2.1)
        rw [fouV_some (unhide HE)] at HS
        have HWA := hide (unhide HF _ hbA).2.2.2.2.2
        clear hci iz hset fA hb5 hbA hR5 hcs5 hO5 HE hB5 hF5
        go_wp2_with fail
        rw [unhide hW5]
        refine wp_region_held_drew (S := fun wx => Fr (fun b => b = cg) W5 wx) (by kernel_rfl) (Fr.drawnW _) (fun hHeld => ?_)
        refine wpAnyH_take (i := 0) (oi := _) (v := .pointer (some ⟨w4.heap.size, 1, none⟩)) rfl (by kernel_rfl) (by kernel_rfl) (by kernel_rfl) (fun _ _ _ h => h) (Or.inl ⟨by rfl, (by intro w hSw; go_simp)⟩) (by assumption) ?_
        refine wpAnyH_take (i := 1) (oi := _) (v := .slice (some ⟨fg, fo, none⟩) NF fcc) rfl (by kernel_rfl) (by kernel_rfl) (by kernel_rfl) (fun _ _ _ h => h) (Or.inl ⟨by rfl, (by intro w hSw; have hs0 := Fr.heldIn hSw yl (fun e => hcQ e.symm) y1; go_simp)⟩) (by assumption) ?_
        go_simp
        refine wpAnyH_take (i := 2) (oi := _) (v := .int .i64 (k : Int)) rfl (by kernel_rfl) (by kernel_rfl) (by kernel_rfl) (fun _ _ _ h => h) (Or.inl ⟨by rfl, (by intro w hSw; go_simp)⟩) (by assumption) ?_
        refine wpAnyH_take (i := 3) (oi := _) (v := .pointer (some ⟨fg, fo + k * 5, none⟩)) rfl (by kernel_rfl) (by kernel_rfl) (by kernel_rfl) (fun _ _ _ h => h) (Or.inl ⟨by rfl, (by intro w hSw; go_simp)⟩) (by assumption) ?_
        go_simp
        refine wpAnyH_take (i := 4) (oi := _) (v := .pointer (some ⟨fg, fo + k * 5 + 3, none⟩)) rfl (by kernel_rfl) (by kernel_rfl) (by kernel_rfl) (fun _ _ _ h => h) (Or.inl ⟨by rfl, (by intro w hSw; go_simp)⟩) (by assumption) ?_
        go_simp
        refine wpAnyH_take (i := 5) (oi := _) (v := .slice (some ⟨cg, co, none⟩) CL ic) rfl (by kernel_rfl) (by kernel_rfl) (by kernel_rfl) (fun _ _ _ h => h) (Or.inl ⟨by rfl, (by intro w hSw; have hs0 := Fr.heldIn hSw yfl (fun e => hcF e.symm) y3; go_simp)⟩) (by assumption) ?_
        go_simp
        refine wpAnyH_take (i := 6) (oi := _) (v := .int .i64 (pc : Int)) rfl (by kernel_rfl) (by kernel_rfl) (by kernel_rfl) (fun _ _ _ h => h) (Or.inl ⟨by rfl, (by intro w hSw; go_simp)⟩) (by assumption) ?_
        refine wpAnyH_take (i := 7) (oi := _) (v := .agg #[.int .i64 10, .int .i64 f.locals]) rfl (by kernel_rfl) (by kernel_rfl) (by kernel_rfl) (fun _ _ _ h => h) (Or.inl ⟨by rfl, (by intro w hSw; have hs0 := Fr.heldIn hSw ybl (fun e => hcB e.symm) u0; have hs1 := Fr.heldIn hSw ybl (fun e => hcB e.symm) u1; go_simp)⟩) (by assumption) ?_
        go_simp
        refine wpAnyH_take (i := 8) (oi := _) (v := .pointer (some ⟨cg, co + pc * 2, none⟩)) rfl (by kernel_rfl) (by kernel_rfl) (by kernel_rfl) (fun _ _ _ h => h) (Or.inl ⟨by rfl, (by intro w hSw; go_simp)⟩) (by assumption) ?_
        go_simp
        refine wpAnyH_ready (rs := [9]) (by kernel_rfl) (by simp) ?_
        refine AllReadyH.cons (o := _) rfl (fun K hK => ?_) AllReadyH.nil
        go_simp
        refine hK.out _ _ (Fr.drew (((Fr.refl (fun b => b = cg) W5).setCell ⟨cg, co + pc * 2, none⟩ (.inr rfl) _).setCell ⟨cg, co + pc * 2 + 1, none⟩ (.inr rfl) _)) (fun hHeld9x => ?_)
        clear hK K
        refine wpAnyH_done (by kernel_rfl) ?_ _
        go_wp2_with fail
        refine (unhide HS).mono ?_
        rintro e w10 ⟨rfl, hw10⟩
        go_wp2_with fail
        go_ret
        exact ⟨rfl, (unhide HWA).trans (hw10.mono (unhide HWA).size)⟩
      · have hfb : (f.locals == 64) = false := by simpa using hfull
        have HE := hide (show ckF { p with funcs := p.funcs.set k { f with code := f.code.set pc (10, f.locals) } } = some ((k : Int), (pc : Int), 8) from ins_bad (unhide HGD) hfk (by rw [unhide hCL]; exact hpc1) (by right; exact ⟨by rw [erN_kd (op := 10) (n := 10) rfl (by decide) (by decide)]; rw [if_pos (by rw [show lo (kd 10) = 0 by decide, show hi (kd 10) = 63 by decide]; omega)], by unfold nmB; rw [show kdI 10 = 3 by decide]; simp, rfl⟩))
        clear hfull
        obtain ⟨W5, hW5⟩ : ∃ x, Hid ((wr2.setCell ⟨w4.heap.size + 2, 0, none⟩ (.int .i64 10)).setCell ⟨w4.heap.size + 2, 1, none⟩ (.int .i64 f.locals) = x) := ⟨_, rfl⟩
        have hF5 : Fr (fun b => b = w4.heap.size + 2) wr2 W5 := by rw [← unhide hW5]; exact ((Fr.refl (fun b => b = w4.heap.size + 2) wr2).setCell ⟨w4.heap.size + 2, 0, none⟩ (.inr rfl) _).setCell ⟨w4.heap.size + 2, 1, none⟩ (.inr rfl) _
        have hB5 : W5.heap[w4.heap.size + 2]? = some (.cells #[.int .i64 10, .int .i64 f.locals] 50 (0, 0)) := by rw [← unhide hW5, setCell_block (setCell_block (unhide HB2) _)]; rfl
        have hO5 := (unhide HO2).fr hF5 (fun b hb (e : b = w4.heap.size + 2) => unhide HNB b hb e)
        have hcs5 := fun (j : Nat) u (hu : (enF _)[j]? = some u) => Fr.heldIn hF5 (p := ⟨fg, fo + k * 5 + j, none⟩) hg2 (fun (e : fg = w4.heap.size + 2) => hg4 e) (unhide HCS2 j u hu)
        have y3 := hcs5 3 _ rfl
        have y1 := Fr.heldIn hF5 ql2 (by simp) (unhide HQ2).2
        have y0 := Fr.heldIn hF5 ql2 (by simp) (unhide HQ2).1
        have yl := Nat.lt_of_lt_of_le ql2 hF5.size
        have yfl : fg < W5.heap.size := Nat.lt_of_lt_of_le hg2 hF5.size
        have ybl : w4.heap.size + 2 < W5.heap.size := (Array.getElem?_eq_some_iff.1 hB5).1
        have u0 : W5.cell? ⟨w4.heap.size + 2, 0, none⟩ = some (.int .i64 10) := by simp [World.cell?, hB5]
        have u1 : W5.cell? ⟨w4.heap.size + 2, 1, none⟩ = some (.int .i64 f.locals) := by simp [World.cell?, hB5]
        have hcB : cg ≠ w4.heap.size + 2 := unhide HNB cg (unhide HCI)
        have hcQ : cg ≠ w4.heap.size := (unhide HQI cg (unhide HCI)).1
        have hcF : cg ≠ fg := unhide HCF
        have hR5 := (hO5.pt.rows k f _ hfk hxk).2.2.2.1
        obtain ⟨qq, hqq⟩ : ∃ q, f.code[pc]? = some q := ⟨_, List.getElem?_eq_getElem (by rw [unhide hCL]; exact hpc1)⟩
        obtain ⟨_, _, _, e5, _, _, ygl, hci⟩ := (Rx.of_ro hR5).elem zI hqq
        simp only [unhide hCL] at e5
        cases e5
        have i0 := hci 0 _ rfl
        have i1 := hci 1 _ rfl
        rw [Nat.add_zero] at i0
        have iz : ∀ o, W5.frozen? ⟨cg, o, none⟩ = false := fun o => by have := hR5; simp only [unhide hCL] at this; exact this.free rfl o
        have iz0 := iz (co + pc * 2)
        have iz1 := iz (co + pc * 2 + 1)
        have hset := hO5.setI (q' := (10, f.locals)) hxk hfk hqq rfl
        have fA : Fr (fun b => b = cg) W5 ((W5.setCell ⟨cg, co + pc * 2, none⟩ (.int .i64 10)).setCell ⟨cg, co + pc * 2 + 1, none⟩ (.int .i64 f.locals)).drew := Fr.drew (((Fr.refl (fun b => b = cg) W5).setCell ⟨cg, co + pc * 2, none⟩ (.inr rfl) _).setCell ⟨cg, co + pc * 2 + 1, none⟩ (.inr rfl) _)
        have hb5 : Below W0.heap.size W0 W5 := (unhide H02).trans (hF5.below (unhide H02).size (fun b hb (e : b = w4.heap.size + 2) => by have := (unhide hBW).2; omega))
        have hbA := hb5.trans (fA.below hb5.size (fun b hb (e : b = cg) => by have := (unhide HQI cg (unhide HCI)).2; omega))
        have HS := hide (found_any 8 (k : Int) (pc : Int) (hset.fr (S := fun _ => False) (Fr.drawnW _) (fun _ _ e => e)).pgv (okp_setF (unhide HIN).okp (by simp only [List.length_set]; exact ((unhide HIN).okf k f hfk).1) ((unhide HIN).okf k f hfk).2.1) (unhide HF _ hbA).2.2.2.2.1)
        rw [fouV_some (unhide HE)] at HS
        have HWA := hide (unhide HF _ hbA).2.2.2.2.2
        clear hci iz hset fA hb5 hbA hR5 hcs5 hO5 HE hB5 hF5
        go_wp2_with fail
        rw [unhide hW5]
        refine wp_region_held_drew (S := fun wx => Fr (fun b => b = cg) W5 wx) (by kernel_rfl) (Fr.drawnW _) (fun hHeld => ?_)
        refine wpAnyH_take (i := 0) (oi := _) (v := .pointer (some ⟨w4.heap.size, 1, none⟩)) rfl (by kernel_rfl) (by kernel_rfl) (by kernel_rfl) (fun _ _ _ h => h) (Or.inl ⟨by rfl, (by intro w hSw; go_simp)⟩) (by assumption) ?_
        refine wpAnyH_take (i := 1) (oi := _) (v := .slice (some ⟨fg, fo, none⟩) NF fcc) rfl (by kernel_rfl) (by kernel_rfl) (by kernel_rfl) (fun _ _ _ h => h) (Or.inl ⟨by rfl, (by intro w hSw; have hs0 := Fr.heldIn hSw yl (fun e => hcQ e.symm) y1; go_simp)⟩) (by assumption) ?_
        go_simp
        refine wpAnyH_take (i := 2) (oi := _) (v := .int .i64 (k : Int)) rfl (by kernel_rfl) (by kernel_rfl) (by kernel_rfl) (fun _ _ _ h => h) (Or.inl ⟨by rfl, (by intro w hSw; go_simp)⟩) (by assumption) ?_
        refine wpAnyH_take (i := 3) (oi := _) (v := .pointer (some ⟨fg, fo + k * 5, none⟩)) rfl (by kernel_rfl) (by kernel_rfl) (by kernel_rfl) (fun _ _ _ h => h) (Or.inl ⟨by rfl, (by intro w hSw; go_simp)⟩) (by assumption) ?_
        go_simp
        refine wpAnyH_take (i := 4) (oi := _) (v := .pointer (some ⟨fg, fo + k * 5 + 3, none⟩)) rfl (by kernel_rfl) (by kernel_rfl) (by kernel_rfl) (fun _ _ _ h => h) (Or.inl ⟨by rfl, (by intro w hSw; go_simp)⟩) (by assumption) ?_
        go_simp
        refine wpAnyH_take (i := 5) (oi := _) (v := .slice (some ⟨cg, co, none⟩) CL ic) rfl (by kernel_rfl) (by kernel_rfl) (by kernel_rfl) (fun _ _ _ h => h) (Or.inl ⟨by rfl, (by intro w hSw; have hs0 := Fr.heldIn hSw yfl (fun e => hcF e.symm) y3; go_simp)⟩) (by assumption) ?_
        go_simp
        refine wpAnyH_take (i := 6) (oi := _) (v := .int .i64 (pc : Int)) rfl (by kernel_rfl) (by kernel_rfl) (by kernel_rfl) (fun _ _ _ h => h) (Or.inl ⟨by rfl, (by intro w hSw; go_simp)⟩) (by assumption) ?_
        refine wpAnyH_take (i := 7) (oi := _) (v := .agg #[.int .i64 10, .int .i64 f.locals]) rfl (by kernel_rfl) (by kernel_rfl) (by kernel_rfl) (fun _ _ _ h => h) (Or.inl ⟨by rfl, (by intro w hSw; have hs0 := Fr.heldIn hSw ybl (fun e => hcB e.symm) u0; have hs1 := Fr.heldIn hSw ybl (fun e => hcB e.symm) u1; go_simp)⟩) (by assumption) ?_
        go_simp
        refine wpAnyH_take (i := 8) (oi := _) (v := .pointer (some ⟨cg, co + pc * 2, none⟩)) rfl (by kernel_rfl) (by kernel_rfl) (by kernel_rfl) (fun _ _ _ h => h) (Or.inl ⟨by rfl, (by intro w hSw; go_simp)⟩) (by assumption) ?_
        go_simp
        refine wpAnyH_ready (rs := [9]) (by kernel_rfl) (by simp) ?_
        refine AllReadyH.cons (o := _) rfl (fun K hK => ?_) AllReadyH.nil
        go_simp
        refine hK.out _ _ (Fr.drew (((Fr.refl (fun b => b = cg) W5).setCell ⟨cg, co + pc * 2, none⟩ (.inr rfl) _).setCell ⟨cg, co + pc * 2 + 1, none⟩ (.inr rfl) _)) (fun hHeld9x => ?_)
        clear hK K
        refine wpAnyH_done (by kernel_rfl) ?_ _
        go_wp2_with fail
        refine (unhide HS).mono ?_
        rintro e w10 ⟨rfl, hw10⟩
        go_wp2_with fail
        go_ret
        exact ⟨rfl, (unhide HWA).trans (hw10.mono (unhide HWA).size)⟩
    · by_cases hfull : (NC : Int) = 512
      · have hfb : ((NC : Int) == 512) = true := by simp [hfull]
        have HE := hide (show ckF { p with funcs := p.funcs.set k { f with code := f.code.set pc (5, (NC : Int)) } } = some ((k : Int), (pc : Int), 7) from ins_bad (unhide HGD) hfk (by rw [unhide hCL]; exact hpc1) (by left; exact ⟨by rw [erN_kd (op := 5) (n := 5) rfl (by decide) (by decide)]; rw [if_neg (by rw [show lo (kd 5) = 0 by decide, show hi (kd 5) = 511 by decide]; omega)]; decide, rfl⟩))
        clear hfull
        obtain ⟨W5, hW5⟩ : ∃ x, Hid ((wr2.setCell ⟨w4.heap.size + 2, 0, none⟩ (.int .i64 5)).setCell ⟨w4.heap.size + 2, 1, none⟩ (.int .i64 (NC : Int)) = x) := ⟨_, rfl⟩
        have hF5 : Fr (fun b => b = w4.heap.size + 2) wr2 W5 := by rw [← unhide hW5]; exact ((Fr.refl (fun b => b = w4.heap.size + 2) wr2).setCell ⟨w4.heap.size + 2, 0, none⟩ (.inr rfl) _).setCell ⟨w4.heap.size + 2, 1, none⟩ (.inr rfl) _
        have hB5 : W5.heap[w4.heap.size + 2]? = some (.cells #[.int .i64 5, .int .i64 (NC : Int)] 50 (0, 0)) := by rw [← unhide hW5, setCell_block (setCell_block (unhide HB2) _)]; rfl
        have hO5 := (unhide HO2).fr hF5 (fun b hb (e : b = w4.heap.size + 2) => unhide HNB b hb e)
        have hcs5 := fun (j : Nat) u (hu : (enF _)[j]? = some u) => Fr.heldIn hF5 (p := ⟨fg, fo + k * 5 + j, none⟩) hg2 (fun (e : fg = w4.heap.size + 2) => hg4 e) (unhide HCS2 j u hu)
        have y3 := hcs5 3 _ rfl
        have y1 := Fr.heldIn hF5 ql2 (by simp) (unhide HQ2).2
        have y0 := Fr.heldIn hF5 ql2 (by simp) (unhide HQ2).1
        have yl := Nat.lt_of_lt_of_le ql2 hF5.size
        have yfl : fg < W5.heap.size := Nat.lt_of_lt_of_le hg2 hF5.size
        have ybl : w4.heap.size + 2 < W5.heap.size := (Array.getElem?_eq_some_iff.1 hB5).1
        have u0 : W5.cell? ⟨w4.heap.size + 2, 0, none⟩ = some (.int .i64 5) := by simp [World.cell?, hB5]
        have u1 : W5.cell? ⟨w4.heap.size + 2, 1, none⟩ = some (.int .i64 (NC : Int)) := by simp [World.cell?, hB5]
        have hcB : cg ≠ w4.heap.size + 2 := unhide HNB cg (unhide HCI)
        have hcQ : cg ≠ w4.heap.size := (unhide HQI cg (unhide HCI)).1
        have hcF : cg ≠ fg := unhide HCF
        have hR5 := (hO5.pt.rows k f _ hfk hxk).2.2.2.1
        obtain ⟨qq, hqq⟩ : ∃ q, f.code[pc]? = some q := ⟨_, List.getElem?_eq_getElem (by rw [unhide hCL]; exact hpc1)⟩
        obtain ⟨_, _, _, e5, _, _, ygl, hci⟩ := (Rx.of_ro hR5).elem zI hqq
        simp only [unhide hCL] at e5
        cases e5
        have i0 := hci 0 _ rfl
        have i1 := hci 1 _ rfl
        rw [Nat.add_zero] at i0
        have iz : ∀ o, W5.frozen? ⟨cg, o, none⟩ = false := fun o => by have := hR5; simp only [unhide hCL] at this; exact this.free rfl o
        have iz0 := iz (co + pc * 2)
        have iz1 := iz (co + pc * 2 + 1)
        have hset := hO5.setI (q' := (5, (NC : Int))) hxk hfk hqq rfl
        have fA : Fr (fun b => b = cg) W5 ((W5.setCell ⟨cg, co + pc * 2, none⟩ (.int .i64 5)).setCell ⟨cg, co + pc * 2 + 1, none⟩ (.int .i64 (NC : Int))).drew := Fr.drew (((Fr.refl (fun b => b = cg) W5).setCell ⟨cg, co + pc * 2, none⟩ (.inr rfl) _).setCell ⟨cg, co + pc * 2 + 1, none⟩ (.inr rfl) _)
        have hb5 : Below W0.heap.size W0 W5 := (unhide H02).trans (hF5.below (unhide H02).size (fun b hb (e : b = w4.heap.size + 2) => by have := (unhide hBW).2; omega))
        have hbA := hb5.trans (fA.below hb5.size (fun b hb (e : b = cg) => by have := (unhide HQI cg (unhide HCI)).2; omega))
        have HS := hide (found_any 7 (k : Int) (pc : Int) (hset.fr (S := fun _ => False) (Fr.drawnW _) (fun _ _ e => e)).pgv (okp_setF (unhide HIN).okp (by simp only [List.length_set]; exact ((unhide HIN).okf k f hfk).1) ((unhide HIN).okf k f hfk).2.1) (unhide HF _ hbA).2.2.2.2.1)
        rw [fouV_some (unhide HE)] at HS
        have HWA := hide (unhide HF _ hbA).2.2.2.2.2
        clear hci iz hset fA hb5 hbA hR5 hcs5 hO5 HE hB5 hF5
        go_wp2_with fail
        rw [unhide hW5]
        refine wp_region_held_drew (S := fun wx => Fr (fun b => b = cg) W5 wx) (by kernel_rfl) (Fr.drawnW _) (fun hHeld => ?_)
        refine wpAnyH_take (i := 0) (oi := _) (v := .pointer (some ⟨w4.heap.size, 1, none⟩)) rfl (by kernel_rfl) (by kernel_rfl) (by kernel_rfl) (fun _ _ _ h => h) (Or.inl ⟨by rfl, (by intro w hSw; go_simp)⟩) (by assumption) ?_
        refine wpAnyH_take (i := 1) (oi := _) (v := .slice (some ⟨fg, fo, none⟩) NF fcc) rfl (by kernel_rfl) (by kernel_rfl) (by kernel_rfl) (fun _ _ _ h => h) (Or.inl ⟨by rfl, (by intro w hSw; have hs0 := Fr.heldIn hSw yl (fun e => hcQ e.symm) y1; go_simp)⟩) (by assumption) ?_
        go_simp
        refine wpAnyH_take (i := 2) (oi := _) (v := .int .i64 (k : Int)) rfl (by kernel_rfl) (by kernel_rfl) (by kernel_rfl) (fun _ _ _ h => h) (Or.inl ⟨by rfl, (by intro w hSw; go_simp)⟩) (by assumption) ?_
        refine wpAnyH_take (i := 3) (oi := _) (v := .pointer (some ⟨fg, fo + k * 5, none⟩)) rfl (by kernel_rfl) (by kernel_rfl) (by kernel_rfl) (fun _ _ _ h => h) (Or.inl ⟨by rfl, (by intro w hSw; go_simp)⟩) (by assumption) ?_
        go_simp
        refine wpAnyH_take (i := 4) (oi := _) (v := .pointer (some ⟨fg, fo + k * 5 + 3, none⟩)) rfl (by kernel_rfl) (by kernel_rfl) (by kernel_rfl) (fun _ _ _ h => h) (Or.inl ⟨by rfl, (by intro w hSw; go_simp)⟩) (by assumption) ?_
        go_simp
        refine wpAnyH_take (i := 5) (oi := _) (v := .slice (some ⟨cg, co, none⟩) CL ic) rfl (by kernel_rfl) (by kernel_rfl) (by kernel_rfl) (fun _ _ _ h => h) (Or.inl ⟨by rfl, (by intro w hSw; have hs0 := Fr.heldIn hSw yfl (fun e => hcF e.symm) y3; go_simp)⟩) (by assumption) ?_
        go_simp
        refine wpAnyH_take (i := 6) (oi := _) (v := .int .i64 (pc : Int)) rfl (by kernel_rfl) (by kernel_rfl) (by kernel_rfl) (fun _ _ _ h => h) (Or.inl ⟨by rfl, (by intro w hSw; go_simp)⟩) (by assumption) ?_
        refine wpAnyH_take (i := 7) (oi := _) (v := .agg #[.int .i64 5, .int .i64 (NC : Int)]) rfl (by kernel_rfl) (by kernel_rfl) (by kernel_rfl) (fun _ _ _ h => h) (Or.inl ⟨by rfl, (by intro w hSw; have hs0 := Fr.heldIn hSw ybl (fun e => hcB e.symm) u0; have hs1 := Fr.heldIn hSw ybl (fun e => hcB e.symm) u1; go_simp)⟩) (by assumption) ?_
        go_simp
        refine wpAnyH_take (i := 8) (oi := _) (v := .pointer (some ⟨cg, co + pc * 2, none⟩)) rfl (by kernel_rfl) (by kernel_rfl) (by kernel_rfl) (fun _ _ _ h => h) (Or.inl ⟨by rfl, (by intro w hSw; go_simp)⟩) (by assumption) ?_
        go_simp
        refine wpAnyH_ready (rs := [9]) (by kernel_rfl) (by simp) ?_
        refine AllReadyH.cons (o := _) rfl (fun K hK => ?_) AllReadyH.nil
        go_simp
        refine hK.out _ _ (Fr.drew (((Fr.refl (fun b => b = cg) W5).setCell ⟨cg, co + pc * 2, none⟩ (.inr rfl) _).setCell ⟨cg, co + pc * 2 + 1, none⟩ (.inr rfl) _)) (fun hHeld9x => ?_)
        clear hK K
        refine wpAnyH_done (by kernel_rfl) ?_ _
        go_wp2_with fail
        refine (unhide HS).mono ?_
        rintro e w10 ⟨rfl, hw10⟩
        go_wp2_with fail
        go_ret
        exact ⟨rfl, (unhide HWA).trans (hw10.mono (unhide HWA).size)⟩
      · have hfb : ((NC : Int) == 512) = false := by simpa using hfull
        have HE := hide (show ckF { p with funcs := p.funcs.set k { f with code := f.code.set pc (5, (NC : Int)) } } = some ((k : Int), (pc : Int), 8) from ins_bad (unhide HGD) hfk (by rw [unhide hCL]; exact hpc1) (by right; exact ⟨by rw [erN_kd (op := 5) (n := 5) rfl (by decide) (by decide)]; rw [if_pos (by rw [show lo (kd 5) = 0 by decide, show hi (kd 5) = 511 by decide]; omega)], by unfold nmB; rw [show kdI 5 = 4 by decide]; simp [hzl], rfl⟩))
        clear hfull
        obtain ⟨W5, hW5⟩ : ∃ x, Hid ((wr2.setCell ⟨w4.heap.size + 2, 0, none⟩ (.int .i64 5)).setCell ⟨w4.heap.size + 2, 1, none⟩ (.int .i64 (NC : Int)) = x) := ⟨_, rfl⟩
        have hF5 : Fr (fun b => b = w4.heap.size + 2) wr2 W5 := by rw [← unhide hW5]; exact ((Fr.refl (fun b => b = w4.heap.size + 2) wr2).setCell ⟨w4.heap.size + 2, 0, none⟩ (.inr rfl) _).setCell ⟨w4.heap.size + 2, 1, none⟩ (.inr rfl) _
        have hB5 : W5.heap[w4.heap.size + 2]? = some (.cells #[.int .i64 5, .int .i64 (NC : Int)] 50 (0, 0)) := by rw [← unhide hW5, setCell_block (setCell_block (unhide HB2) _)]; rfl
        have hO5 := (unhide HO2).fr hF5 (fun b hb (e : b = w4.heap.size + 2) => unhide HNB b hb e)
        have hcs5 := fun (j : Nat) u (hu : (enF _)[j]? = some u) => Fr.heldIn hF5 (p := ⟨fg, fo + k * 5 + j, none⟩) hg2 (fun (e : fg = w4.heap.size + 2) => hg4 e) (unhide HCS2 j u hu)
        have y3 := hcs5 3 _ rfl
        have y1 := Fr.heldIn hF5 ql2 (by simp) (unhide HQ2).2
        have y0 := Fr.heldIn hF5 ql2 (by simp) (unhide HQ2).1
        have yl := Nat.lt_of_lt_of_le ql2 hF5.size
        have yfl : fg < W5.heap.size := Nat.lt_of_lt_of_le hg2 hF5.size
        have ybl : w4.heap.size + 2 < W5.heap.size := (Array.getElem?_eq_some_iff.1 hB5).1
        have u0 : W5.cell? ⟨w4.heap.size + 2, 0, none⟩ = some (.int .i64 5) := by simp [World.cell?, hB5]
        have u1 : W5.cell? ⟨w4.heap.size + 2, 1, none⟩ = some (.int .i64 (NC : Int)) := by simp [World.cell?, hB5]
        have hcB : cg ≠ w4.heap.size + 2 := unhide HNB cg (unhide HCI)
        have hcQ : cg ≠ w4.heap.size := (unhide HQI cg (unhide HCI)).1
        have hcF : cg ≠ fg := unhide HCF
        have hR5 := (hO5.pt.rows k f _ hfk hxk).2.2.2.1
        obtain ⟨qq, hqq⟩ : ∃ q, f.code[pc]? = some q := ⟨_, List.getElem?_eq_getElem (by rw [unhide hCL]; exact hpc1)⟩
        obtain ⟨_, _, _, e5, _, _, ygl, hci⟩ := (Rx.of_ro hR5).elem zI hqq
        simp only [unhide hCL] at e5
        cases e5
        have i0 := hci 0 _ rfl
        have i1 := hci 1 _ rfl
        rw [Nat.add_zero] at i0
        have iz : ∀ o, W5.frozen? ⟨cg, o, none⟩ = false := fun o => by have := hR5; simp only [unhide hCL] at this; exact this.free rfl o
        have iz0 := iz (co + pc * 2)
        have iz1 := iz (co + pc * 2 + 1)
        have hset := hO5.setI (q' := (5, (NC : Int))) hxk hfk hqq rfl
        have fA : Fr (fun b => b = cg) W5 ((W5.setCell ⟨cg, co + pc * 2, none⟩ (.int .i64 5)).setCell ⟨cg, co + pc * 2 + 1, none⟩ (.int .i64 (NC : Int))).drew := Fr.drew (((Fr.refl (fun b => b = cg) W5).setCell ⟨cg, co + pc * 2, none⟩ (.inr rfl) _).setCell ⟨cg, co + pc * 2 + 1, none⟩ (.inr rfl) _)
        have hb5 : Below W0.heap.size W0 W5 := (unhide H02).trans (hF5.below (unhide H02).size (fun b hb (e : b = w4.heap.size + 2) => by have := (unhide hBW).2; omega))
        have hbA := hb5.trans (fA.below hb5.size (fun b hb (e : b = cg) => by have := (unhide HQI cg (unhide HCI)).2; omega))
        have HS := hide (found_any 8 (k : Int) (pc : Int) (hset.fr (S := fun _ => False) (Fr.drawnW _) (fun _ _ e => e)).pgv (okp_setF (unhide HIN).okp (by simp only [List.length_set]; exact ((unhide HIN).okf k f hfk).1) ((unhide HIN).okf k f hfk).2.1) (unhide HF _ hbA).2.2.2.2.1)
        rw [fouV_some (unhide HE)] at HS
        have HWA := hide (unhide HF _ hbA).2.2.2.2.2
        clear hci iz hset fA hb5 hbA hR5 hcs5 hO5 HE hB5 hF5
        go_wp2_with fail
        rw [unhide hW5]
        refine wp_region_held_drew (S := fun wx => Fr (fun b => b = cg) W5 wx) (by kernel_rfl) (Fr.drawnW _) (fun hHeld => ?_)
        refine wpAnyH_take (i := 0) (oi := _) (v := .pointer (some ⟨w4.heap.size, 1, none⟩)) rfl (by kernel_rfl) (by kernel_rfl) (by kernel_rfl) (fun _ _ _ h => h) (Or.inl ⟨by rfl, (by intro w hSw; go_simp)⟩) (by assumption) ?_
        refine wpAnyH_take (i := 1) (oi := _) (v := .slice (some ⟨fg, fo, none⟩) NF fcc) rfl (by kernel_rfl) (by kernel_rfl) (by kernel_rfl) (fun _ _ _ h => h) (Or.inl ⟨by rfl, (by intro w hSw; have hs0 := Fr.heldIn hSw yl (fun e => hcQ e.symm) y1; go_simp)⟩) (by assumption) ?_
        go_simp
        refine wpAnyH_take (i := 2) (oi := _) (v := .int .i64 (k : Int)) rfl (by kernel_rfl) (by kernel_rfl) (by kernel_rfl) (fun _ _ _ h => h) (Or.inl ⟨by rfl, (by intro w hSw; go_simp)⟩) (by assumption) ?_
        refine wpAnyH_take (i := 3) (oi := _) (v := .pointer (some ⟨fg, fo + k * 5, none⟩)) rfl (by kernel_rfl) (by kernel_rfl) (by kernel_rfl) (fun _ _ _ h => h) (Or.inl ⟨by rfl, (by intro w hSw; go_simp)⟩) (by assumption) ?_
        go_simp
        refine wpAnyH_take (i := 4) (oi := _) (v := .pointer (some ⟨fg, fo + k * 5 + 3, none⟩)) rfl (by kernel_rfl) (by kernel_rfl) (by kernel_rfl) (fun _ _ _ h => h) (Or.inl ⟨by rfl, (by intro w hSw; go_simp)⟩) (by assumption) ?_
        go_simp
        refine wpAnyH_take (i := 5) (oi := _) (v := .slice (some ⟨cg, co, none⟩) CL ic) rfl (by kernel_rfl) (by kernel_rfl) (by kernel_rfl) (fun _ _ _ h => h) (Or.inl ⟨by rfl, (by intro w hSw; have hs0 := Fr.heldIn hSw yfl (fun e => hcF e.symm) y3; go_simp)⟩) (by assumption) ?_
        go_simp
        refine wpAnyH_take (i := 6) (oi := _) (v := .int .i64 (pc : Int)) rfl (by kernel_rfl) (by kernel_rfl) (by kernel_rfl) (fun _ _ _ h => h) (Or.inl ⟨by rfl, (by intro w hSw; go_simp)⟩) (by assumption) ?_
        refine wpAnyH_take (i := 7) (oi := _) (v := .agg #[.int .i64 5, .int .i64 (NC : Int)]) rfl (by kernel_rfl) (by kernel_rfl) (by kernel_rfl) (fun _ _ _ h => h) (Or.inl ⟨by rfl, (by intro w hSw; have hs0 := Fr.heldIn hSw ybl (fun e => hcB e.symm) u0; have hs1 := Fr.heldIn hSw ybl (fun e => hcB e.symm) u1; go_simp)⟩) (by assumption) ?_
        go_simp
        refine wpAnyH_take (i := 8) (oi := _) (v := .pointer (some ⟨cg, co + pc * 2, none⟩)) rfl (by kernel_rfl) (by kernel_rfl) (by kernel_rfl) (fun _ _ _ h => h) (Or.inl ⟨by rfl, (by intro w hSw; go_simp)⟩) (by assumption) ?_
        go_simp
        refine wpAnyH_ready (rs := [9]) (by kernel_rfl) (by simp) ?_
        refine AllReadyH.cons (o := _) rfl (fun K hK => ?_) AllReadyH.nil
        go_simp
        refine hK.out _ _ (Fr.drew (((Fr.refl (fun b => b = cg) W5).setCell ⟨cg, co + pc * 2, none⟩ (.inr rfl) _).setCell ⟨cg, co + pc * 2 + 1, none⟩ (.inr rfl) _)) (fun hHeld9x => ?_)
        clear hK K
        refine wpAnyH_done (by kernel_rfl) ?_ _
        go_wp2_with fail
        refine (unhide HS).mono ?_
        rintro e w10 ⟨rfl, hw10⟩
        go_wp2_with fail
        go_ret
        exact ⟨rfl, (unhide HWA).trans (hw10.mono (unhide HWA).size)⟩
    · by_cases hfull : (NF : Int) = 128
      · have hfb : ((NF : Int) == 128) = true := by simp [hfull]
        have HE := hide (show ckF { p with funcs := p.funcs.set k { f with code := f.code.set pc (6, (NF : Int)) } } = some ((k : Int), (pc : Int), 7) from ins_bad (unhide HGD) hfk (by rw [unhide hCL]; exact hpc1) (by left; exact ⟨by rw [erN_kd (op := 6) (n := 6) rfl (by decide) (by decide)]; rw [if_neg (by rw [show lo (kd 6) = 0 by decide, show hi (kd 6) = 127 by decide]; omega)]; decide, rfl⟩))
        clear hfull
        obtain ⟨W5, hW5⟩ : ∃ x, Hid ((wr2.setCell ⟨w4.heap.size + 2, 0, none⟩ (.int .i64 6)).setCell ⟨w4.heap.size + 2, 1, none⟩ (.int .i64 (NF : Int)) = x) := ⟨_, rfl⟩
        have hF5 : Fr (fun b => b = w4.heap.size + 2) wr2 W5 := by rw [← unhide hW5]; exact ((Fr.refl (fun b => b = w4.heap.size + 2) wr2).setCell ⟨w4.heap.size + 2, 0, none⟩ (.inr rfl) _).setCell ⟨w4.heap.size + 2, 1, none⟩ (.inr rfl) _
        have hB5 : W5.heap[w4.heap.size + 2]? = some (.cells #[.int .i64 6, .int .i64 (NF : Int)] 50 (0, 0)) := by rw [← unhide hW5, setCell_block (setCell_block (unhide HB2) _)]; rfl
        have hO5 := (unhide HO2).fr hF5 (fun b hb (e : b = w4.heap.size + 2) => unhide HNB b hb e)
        have hcs5 := fun (j : Nat) u (hu : (enF _)[j]? = some u) => Fr.heldIn hF5 (p := ⟨fg, fo + k * 5 + j, none⟩) hg2 (fun (e : fg = w4.heap.size + 2) => hg4 e) (unhide HCS2 j u hu)
        have y3 := hcs5 3 _ rfl
        have y1 := Fr.heldIn hF5 ql2 (by simp) (unhide HQ2).2
        have y0 := Fr.heldIn hF5 ql2 (by simp) (unhide HQ2).1
        have yl := Nat.lt_of_lt_of_le ql2 hF5.size
        have yfl : fg < W5.heap.size := Nat.lt_of_lt_of_le hg2 hF5.size
        have ybl : w4.heap.size + 2 < W5.heap.size := (Array.getElem?_eq_some_iff.1 hB5).1
        have u0 : W5.cell? ⟨w4.heap.size + 2, 0, none⟩ = some (.int .i64 6) := by simp [World.cell?, hB5]
        have u1 : W5.cell? ⟨w4.heap.size + 2, 1, none⟩ = some (.int .i64 (NF : Int)) := by simp [World.cell?, hB5]
        have hcB : cg ≠ w4.heap.size + 2 := unhide HNB cg (unhide HCI)
        have hcQ : cg ≠ w4.heap.size := (unhide HQI cg (unhide HCI)).1
        have hcF : cg ≠ fg := unhide HCF
        have hR5 := (hO5.pt.rows k f _ hfk hxk).2.2.2.1
        obtain ⟨qq, hqq⟩ : ∃ q, f.code[pc]? = some q := ⟨_, List.getElem?_eq_getElem (by rw [unhide hCL]; exact hpc1)⟩
        obtain ⟨_, _, _, e5, _, _, ygl, hci⟩ := (Rx.of_ro hR5).elem zI hqq
        simp only [unhide hCL] at e5
        cases e5
        have i0 := hci 0 _ rfl
        have i1 := hci 1 _ rfl
        rw [Nat.add_zero] at i0
        have iz : ∀ o, W5.frozen? ⟨cg, o, none⟩ = false := fun o => by have := hR5; simp only [unhide hCL] at this; exact this.free rfl o
        have iz0 := iz (co + pc * 2)
        have iz1 := iz (co + pc * 2 + 1)
        have hset := hO5.setI (q' := (6, (NF : Int))) hxk hfk hqq rfl
        have fA : Fr (fun b => b = cg) W5 ((W5.setCell ⟨cg, co + pc * 2, none⟩ (.int .i64 6)).setCell ⟨cg, co + pc * 2 + 1, none⟩ (.int .i64 (NF : Int))).drew := Fr.drew (((Fr.refl (fun b => b = cg) W5).setCell ⟨cg, co + pc * 2, none⟩ (.inr rfl) _).setCell ⟨cg, co + pc * 2 + 1, none⟩ (.inr rfl) _)
        have hb5 : Below W0.heap.size W0 W5 := (unhide H02).trans (hF5.below (unhide H02).size (fun b hb (e : b = w4.heap.size + 2) => by have := (unhide hBW).2; omega))
        have hbA := hb5.trans (fA.below hb5.size (fun b hb (e : b = cg) => by have := (unhide HQI cg (unhide HCI)).2; omega))
        have HS := hide (found_any 7 (k : Int) (pc : Int) (hset.fr (S := fun _ => False) (Fr.drawnW _) (fun _ _ e => e)).pgv (okp_setF (unhide HIN).okp (by simp only [List.length_set]; exact ((unhide HIN).okf k f hfk).1) ((unhide HIN).okf k f hfk).2.1) (unhide HF _ hbA).2.2.2.2.1)
        rw [fouV_some (unhide HE)] at HS
        have HWA := hide (unhide HF _ hbA).2.2.2.2.2
        clear hci iz hset fA hb5 hbA hR5 hcs5 hO5 HE hB5 hF5
        go_wp2_with fail
        rw [unhide hW5]
        refine wp_region_held_drew (S := fun wx => Fr (fun b => b = cg) W5 wx) (by kernel_rfl) (Fr.drawnW _) (fun hHeld => ?_)
        refine wpAnyH_take (i := 0) (oi := _) (v := .pointer (some ⟨w4.heap.size, 1, none⟩)) rfl (by kernel_rfl) (by kernel_rfl) (by kernel_rfl) (fun _ _ _ h => h) (Or.inl ⟨by rfl, (by intro w hSw; go_simp)⟩) (by assumption) ?_
        refine wpAnyH_take (i := 1) (oi := _) (v := .slice (some ⟨fg, fo, none⟩) NF fcc) rfl (by kernel_rfl) (by kernel_rfl) (by kernel_rfl) (fun _ _ _ h => h) (Or.inl ⟨by rfl, (by intro w hSw; have hs0 := Fr.heldIn hSw yl (fun e => hcQ e.symm) y1; go_simp)⟩) (by assumption) ?_
        go_simp
        refine wpAnyH_take (i := 2) (oi := _) (v := .int .i64 (k : Int)) rfl (by kernel_rfl) (by kernel_rfl) (by kernel_rfl) (fun _ _ _ h => h) (Or.inl ⟨by rfl, (by intro w hSw; go_simp)⟩) (by assumption) ?_
        refine wpAnyH_take (i := 3) (oi := _) (v := .pointer (some ⟨fg, fo + k * 5, none⟩)) rfl (by kernel_rfl) (by kernel_rfl) (by kernel_rfl) (fun _ _ _ h => h) (Or.inl ⟨by rfl, (by intro w hSw; go_simp)⟩) (by assumption) ?_
        go_simp
        refine wpAnyH_take (i := 4) (oi := _) (v := .pointer (some ⟨fg, fo + k * 5 + 3, none⟩)) rfl (by kernel_rfl) (by kernel_rfl) (by kernel_rfl) (fun _ _ _ h => h) (Or.inl ⟨by rfl, (by intro w hSw; go_simp)⟩) (by assumption) ?_
        go_simp
        refine wpAnyH_take (i := 5) (oi := _) (v := .slice (some ⟨cg, co, none⟩) CL ic) rfl (by kernel_rfl) (by kernel_rfl) (by kernel_rfl) (fun _ _ _ h => h) (Or.inl ⟨by rfl, (by intro w hSw; have hs0 := Fr.heldIn hSw yfl (fun e => hcF e.symm) y3; go_simp)⟩) (by assumption) ?_
        go_simp
        refine wpAnyH_take (i := 6) (oi := _) (v := .int .i64 (pc : Int)) rfl (by kernel_rfl) (by kernel_rfl) (by kernel_rfl) (fun _ _ _ h => h) (Or.inl ⟨by rfl, (by intro w hSw; go_simp)⟩) (by assumption) ?_
        refine wpAnyH_take (i := 7) (oi := _) (v := .agg #[.int .i64 6, .int .i64 (NF : Int)]) rfl (by kernel_rfl) (by kernel_rfl) (by kernel_rfl) (fun _ _ _ h => h) (Or.inl ⟨by rfl, (by intro w hSw; have hs0 := Fr.heldIn hSw ybl (fun e => hcB e.symm) u0; have hs1 := Fr.heldIn hSw ybl (fun e => hcB e.symm) u1; go_simp)⟩) (by assumption) ?_
        go_simp
        refine wpAnyH_take (i := 8) (oi := _) (v := .pointer (some ⟨cg, co + pc * 2, none⟩)) rfl (by kernel_rfl) (by kernel_rfl) (by kernel_rfl) (fun _ _ _ h => h) (Or.inl ⟨by rfl, (by intro w hSw; go_simp)⟩) (by assumption) ?_
        go_simp
        refine wpAnyH_ready (rs := [9]) (by kernel_rfl) (by simp) ?_
        refine AllReadyH.cons (o := _) rfl (fun K hK => ?_) AllReadyH.nil
        go_simp
        refine hK.out _ _ (Fr.drew (((Fr.refl (fun b => b = cg) W5).setCell ⟨cg, co + pc * 2, none⟩ (.inr rfl) _).setCell ⟨cg, co + pc * 2 + 1, none⟩ (.inr rfl) _)) (fun hHeld9x => ?_)
        clear hK K
        refine wpAnyH_done (by kernel_rfl) ?_ _
        go_wp2_with fail
        refine (unhide HS).mono ?_
        rintro e w10 ⟨rfl, hw10⟩
        go_wp2_with fail
        go_ret
        exact ⟨rfl, (unhide HWA).trans (hw10.mono (unhide HWA).size)⟩
      · have hfb : ((NF : Int) == 128) = false := by simpa using hfull
        have HE := hide (show ckF { p with funcs := p.funcs.set k { f with code := f.code.set pc (6, (NF : Int)) } } = some ((k : Int), (pc : Int), 8) from ins_bad (unhide HGD) hfk (by rw [unhide hCL]; exact hpc1) (by right; exact ⟨by rw [erN_kd (op := 6) (n := 6) rfl (by decide) (by decide)]; rw [if_pos (by rw [show lo (kd 6) = 0 by decide, show hi (kd 6) = 127 by decide]; omega)], by unfold nmB; rw [show kdI 6 = 5 by decide]; simp [hzf], rfl⟩))
        clear hfull
        obtain ⟨W5, hW5⟩ : ∃ x, Hid ((wr2.setCell ⟨w4.heap.size + 2, 0, none⟩ (.int .i64 6)).setCell ⟨w4.heap.size + 2, 1, none⟩ (.int .i64 (NF : Int)) = x) := ⟨_, rfl⟩
        have hF5 : Fr (fun b => b = w4.heap.size + 2) wr2 W5 := by rw [← unhide hW5]; exact ((Fr.refl (fun b => b = w4.heap.size + 2) wr2).setCell ⟨w4.heap.size + 2, 0, none⟩ (.inr rfl) _).setCell ⟨w4.heap.size + 2, 1, none⟩ (.inr rfl) _
        have hB5 : W5.heap[w4.heap.size + 2]? = some (.cells #[.int .i64 6, .int .i64 (NF : Int)] 50 (0, 0)) := by rw [← unhide hW5, setCell_block (setCell_block (unhide HB2) _)]; rfl
        have hO5 := (unhide HO2).fr hF5 (fun b hb (e : b = w4.heap.size + 2) => unhide HNB b hb e)
        have hcs5 := fun (j : Nat) u (hu : (enF _)[j]? = some u) => Fr.heldIn hF5 (p := ⟨fg, fo + k * 5 + j, none⟩) hg2 (fun (e : fg = w4.heap.size + 2) => hg4 e) (unhide HCS2 j u hu)
        have y3 := hcs5 3 _ rfl
        have y1 := Fr.heldIn hF5 ql2 (by simp) (unhide HQ2).2
        have y0 := Fr.heldIn hF5 ql2 (by simp) (unhide HQ2).1
        have yl := Nat.lt_of_lt_of_le ql2 hF5.size
        have yfl : fg < W5.heap.size := Nat.lt_of_lt_of_le hg2 hF5.size
        have ybl : w4.heap.size + 2 < W5.heap.size := (Array.getElem?_eq_some_iff.1 hB5).1
        have u0 : W5.cell? ⟨w4.heap.size + 2, 0, none⟩ = some (.int .i64 6) := by simp [World.cell?, hB5]
        have u1 : W5.cell? ⟨w4.heap.size + 2, 1, none⟩ = some (.int .i64 (NF : Int)) := by simp [World.cell?, hB5]
        have hcB : cg ≠ w4.heap.size + 2 := unhide HNB cg (unhide HCI)
        have hcQ : cg ≠ w4.heap.size := (unhide HQI cg (unhide HCI)).1
        have hcF : cg ≠ fg := unhide HCF
        have hR5 := (hO5.pt.rows k f _ hfk hxk).2.2.2.1
        obtain ⟨qq, hqq⟩ : ∃ q, f.code[pc]? = some q := ⟨_, List.getElem?_eq_getElem (by rw [unhide hCL]; exact hpc1)⟩
        obtain ⟨_, _, _, e5, _, _, ygl, hci⟩ := (Rx.of_ro hR5).elem zI hqq
        simp only [unhide hCL] at e5
        cases e5
        have i0 := hci 0 _ rfl
        have i1 := hci 1 _ rfl
        rw [Nat.add_zero] at i0
        have iz : ∀ o, W5.frozen? ⟨cg, o, none⟩ = false := fun o => by have := hR5; simp only [unhide hCL] at this; exact this.free rfl o
        have iz0 := iz (co + pc * 2)
        have iz1 := iz (co + pc * 2 + 1)
        have hset := hO5.setI (q' := (6, (NF : Int))) hxk hfk hqq rfl
        have fA : Fr (fun b => b = cg) W5 ((W5.setCell ⟨cg, co + pc * 2, none⟩ (.int .i64 6)).setCell ⟨cg, co + pc * 2 + 1, none⟩ (.int .i64 (NF : Int))).drew := Fr.drew (((Fr.refl (fun b => b = cg) W5).setCell ⟨cg, co + pc * 2, none⟩ (.inr rfl) _).setCell ⟨cg, co + pc * 2 + 1, none⟩ (.inr rfl) _)
        have hb5 : Below W0.heap.size W0 W5 := (unhide H02).trans (hF5.below (unhide H02).size (fun b hb (e : b = w4.heap.size + 2) => by have := (unhide hBW).2; omega))
        have hbA := hb5.trans (fA.below hb5.size (fun b hb (e : b = cg) => by have := (unhide HQI cg (unhide HCI)).2; omega))
        have HS := hide (found_any 8 (k : Int) (pc : Int) (hset.fr (S := fun _ => False) (Fr.drawnW _) (fun _ _ e => e)).pgv (okp_setF (unhide HIN).okp (by simp only [List.length_set]; exact ((unhide HIN).okf k f hfk).1) ((unhide HIN).okf k f hfk).2.1) (unhide HF _ hbA).2.2.2.2.1)
        rw [fouV_some (unhide HE)] at HS
        have HWA := hide (unhide HF _ hbA).2.2.2.2.2
        clear hci iz hset fA hb5 hbA hR5 hcs5 hO5 HE hB5 hF5
        go_wp2_with fail
        rw [unhide hW5]
        refine wp_region_held_drew (S := fun wx => Fr (fun b => b = cg) W5 wx) (by kernel_rfl) (Fr.drawnW _) (fun hHeld => ?_)
        refine wpAnyH_take (i := 0) (oi := _) (v := .pointer (some ⟨w4.heap.size, 1, none⟩)) rfl (by kernel_rfl) (by kernel_rfl) (by kernel_rfl) (fun _ _ _ h => h) (Or.inl ⟨by rfl, (by intro w hSw; go_simp)⟩) (by assumption) ?_
        refine wpAnyH_take (i := 1) (oi := _) (v := .slice (some ⟨fg, fo, none⟩) NF fcc) rfl (by kernel_rfl) (by kernel_rfl) (by kernel_rfl) (fun _ _ _ h => h) (Or.inl ⟨by rfl, (by intro w hSw; have hs0 := Fr.heldIn hSw yl (fun e => hcQ e.symm) y1; go_simp)⟩) (by assumption) ?_
        go_simp
        refine wpAnyH_take (i := 2) (oi := _) (v := .int .i64 (k : Int)) rfl (by kernel_rfl) (by kernel_rfl) (by kernel_rfl) (fun _ _ _ h => h) (Or.inl ⟨by rfl, (by intro w hSw; go_simp)⟩) (by assumption) ?_
        refine wpAnyH_take (i := 3) (oi := _) (v := .pointer (some ⟨fg, fo + k * 5, none⟩)) rfl (by kernel_rfl) (by kernel_rfl) (by kernel_rfl) (fun _ _ _ h => h) (Or.inl ⟨by rfl, (by intro w hSw; go_simp)⟩) (by assumption) ?_
        go_simp
        refine wpAnyH_take (i := 4) (oi := _) (v := .pointer (some ⟨fg, fo + k * 5 + 3, none⟩)) rfl (by kernel_rfl) (by kernel_rfl) (by kernel_rfl) (fun _ _ _ h => h) (Or.inl ⟨by rfl, (by intro w hSw; go_simp)⟩) (by assumption) ?_
        go_simp
        refine wpAnyH_take (i := 5) (oi := _) (v := .slice (some ⟨cg, co, none⟩) CL ic) rfl (by kernel_rfl) (by kernel_rfl) (by kernel_rfl) (fun _ _ _ h => h) (Or.inl ⟨by rfl, (by intro w hSw; have hs0 := Fr.heldIn hSw yfl (fun e => hcF e.symm) y3; go_simp)⟩) (by assumption) ?_
        go_simp
        refine wpAnyH_take (i := 6) (oi := _) (v := .int .i64 (pc : Int)) rfl (by kernel_rfl) (by kernel_rfl) (by kernel_rfl) (fun _ _ _ h => h) (Or.inl ⟨by rfl, (by intro w hSw; go_simp)⟩) (by assumption) ?_
        refine wpAnyH_take (i := 7) (oi := _) (v := .agg #[.int .i64 6, .int .i64 (NF : Int)]) rfl (by kernel_rfl) (by kernel_rfl) (by kernel_rfl) (fun _ _ _ h => h) (Or.inl ⟨by rfl, (by intro w hSw; have hs0 := Fr.heldIn hSw ybl (fun e => hcB e.symm) u0; have hs1 := Fr.heldIn hSw ybl (fun e => hcB e.symm) u1; go_simp)⟩) (by assumption) ?_
        go_simp
        refine wpAnyH_take (i := 8) (oi := _) (v := .pointer (some ⟨cg, co + pc * 2, none⟩)) rfl (by kernel_rfl) (by kernel_rfl) (by kernel_rfl) (fun _ _ _ h => h) (Or.inl ⟨by rfl, (by intro w hSw; go_simp)⟩) (by assumption) ?_
        go_simp
        refine wpAnyH_ready (rs := [9]) (by kernel_rfl) (by simp) ?_
        refine AllReadyH.cons (o := _) rfl (fun K hK => ?_) AllReadyH.nil
        go_simp
        refine hK.out _ _ (Fr.drew (((Fr.refl (fun b => b = cg) W5).setCell ⟨cg, co + pc * 2, none⟩ (.inr rfl) _).setCell ⟨cg, co + pc * 2 + 1, none⟩ (.inr rfl) _)) (fun hHeld9x => ?_)
        clear hK K
        refine wpAnyH_done (by kernel_rfl) ?_ _
        go_wp2_with fail
        refine (unhide HS).mono ?_
        rintro e w10 ⟨rfl, hw10⟩
        go_wp2_with fail
        go_ret
        exact ⟨rfl, (unhide HWA).trans (hw10.mono (unhide HWA).size)⟩
    · have HE := hide (show ckF { p with funcs := p.funcs.set k { f with code := f.code.set pc (0, 1) } } = some ((k : Int), (pc : Int), 7) from ins_bad (unhide HGD) hfk (by rw [unhide hCL]; exact hpc1) (by left; exact ⟨by decide, rfl⟩))
      obtain ⟨W5, hW5⟩ : ∃ x, Hid ((wr2.setCell ⟨w4.heap.size + 2, 0, none⟩ (.int .i64 0)).setCell ⟨w4.heap.size + 2, 1, none⟩ (.int .i64 1) = x) := ⟨_, rfl⟩
      have hF5 : Fr (fun b => b = w4.heap.size + 2) wr2 W5 := by rw [← unhide hW5]; exact ((Fr.refl (fun b => b = w4.heap.size + 2) wr2).setCell ⟨w4.heap.size + 2, 0, none⟩ (.inr rfl) _).setCell ⟨w4.heap.size + 2, 1, none⟩ (.inr rfl) _
      have hB5 : W5.heap[w4.heap.size + 2]? = some (.cells #[.int .i64 0, .int .i64 1] 50 (0, 0)) := by rw [← unhide hW5, setCell_block (setCell_block (unhide HB2) _)]; rfl
      have hO5 := (unhide HO2).fr hF5 (fun b hb (e : b = w4.heap.size + 2) => unhide HNB b hb e)
      have hcs5 := fun (j : Nat) u (hu : (enF _)[j]? = some u) => Fr.heldIn hF5 (p := ⟨fg, fo + k * 5 + j, none⟩) hg2 (fun (e : fg = w4.heap.size + 2) => hg4 e) (unhide HCS2 j u hu)
      have y3 := hcs5 3 _ rfl
      have y1 := Fr.heldIn hF5 ql2 (by simp) (unhide HQ2).2
      have y0 := Fr.heldIn hF5 ql2 (by simp) (unhide HQ2).1
      have yl := Nat.lt_of_lt_of_le ql2 hF5.size
      have yfl : fg < W5.heap.size := Nat.lt_of_lt_of_le hg2 hF5.size
      have ybl : w4.heap.size + 2 < W5.heap.size := (Array.getElem?_eq_some_iff.1 hB5).1
      have u0 : W5.cell? ⟨w4.heap.size + 2, 0, none⟩ = some (.int .i64 0) := by simp [World.cell?, hB5]
      have u1 : W5.cell? ⟨w4.heap.size + 2, 1, none⟩ = some (.int .i64 1) := by simp [World.cell?, hB5]
      have hcB : cg ≠ w4.heap.size + 2 := unhide HNB cg (unhide HCI)
      have hcQ : cg ≠ w4.heap.size := (unhide HQI cg (unhide HCI)).1
      have hcF : cg ≠ fg := unhide HCF
      have hR5 := (hO5.pt.rows k f _ hfk hxk).2.2.2.1
      obtain ⟨qq, hqq⟩ : ∃ q, f.code[pc]? = some q := ⟨_, List.getElem?_eq_getElem (by rw [unhide hCL]; exact hpc1)⟩
      obtain ⟨_, _, _, e5, _, _, ygl, hci⟩ := (Rx.of_ro hR5).elem zI hqq
      simp only [unhide hCL] at e5
      cases e5
      have i0 := hci 0 _ rfl
      have i1 := hci 1 _ rfl
      rw [Nat.add_zero] at i0
      have iz : ∀ o, W5.frozen? ⟨cg, o, none⟩ = false := fun o => by have := hR5; simp only [unhide hCL] at this; exact this.free rfl o
      have iz0 := iz (co + pc * 2)
      have iz1 := iz (co + pc * 2 + 1)
      have hset := hO5.setI (q' := (0, 1)) hxk hfk hqq rfl
      have fA : Fr (fun b => b = cg) W5 ((W5.setCell ⟨cg, co + pc * 2, none⟩ (.int .i64 0)).setCell ⟨cg, co + pc * 2 + 1, none⟩ (.int .i64 1)).drew := Fr.drew (((Fr.refl (fun b => b = cg) W5).setCell ⟨cg, co + pc * 2, none⟩ (.inr rfl) _).setCell ⟨cg, co + pc * 2 + 1, none⟩ (.inr rfl) _)
      have hb5 : Below W0.heap.size W0 W5 := (unhide H02).trans (hF5.below (unhide H02).size (fun b hb (e : b = w4.heap.size + 2) => by have := (unhide hBW).2; omega))
      have hbA := hb5.trans (fA.below hb5.size (fun b hb (e : b = cg) => by have := (unhide HQI cg (unhide HCI)).2; omega))
      have HS := hide (found_any 7 (k : Int) (pc : Int) (hset.fr (S := fun _ => False) (Fr.drawnW _) (fun _ _ e => e)).pgv (okp_setF (unhide HIN).okp (by simp only [List.length_set]; exact ((unhide HIN).okf k f hfk).1) ((unhide HIN).okf k f hfk).2.1) (unhide HF _ hbA).2.2.2.2.1)
      rw [fouV_some (unhide HE)] at HS
      have HWA := hide (unhide HF _ hbA).2.2.2.2.2
      clear hci iz hset fA hb5 hbA hR5 hcs5 hO5 HE hB5 hF5
      go_wp2_with fail
      rw [unhide hW5]
      refine wp_region_held_drew (S := fun wx => Fr (fun b => b = cg) W5 wx) (by kernel_rfl) (Fr.drawnW _) (fun hHeld => ?_)
      refine wpAnyH_take (i := 0) (oi := _) (v := .pointer (some ⟨w4.heap.size, 1, none⟩)) rfl (by kernel_rfl) (by kernel_rfl) (by kernel_rfl) (fun _ _ _ h => h) (Or.inl ⟨by rfl, (by intro w hSw; go_simp)⟩) (by assumption) ?_
      refine wpAnyH_take (i := 1) (oi := _) (v := .slice (some ⟨fg, fo, none⟩) NF fcc) rfl (by kernel_rfl) (by kernel_rfl) (by kernel_rfl) (fun _ _ _ h => h) (Or.inl ⟨by rfl, (by intro w hSw; have hs0 := Fr.heldIn hSw yl (fun e => hcQ e.symm) y1; go_simp)⟩) (by assumption) ?_
      go_simp
      refine wpAnyH_take (i := 2) (oi := _) (v := .int .i64 (k : Int)) rfl (by kernel_rfl) (by kernel_rfl) (by kernel_rfl) (fun _ _ _ h => h) (Or.inl ⟨by rfl, (by intro w hSw; go_simp)⟩) (by assumption) ?_
      refine wpAnyH_take (i := 3) (oi := _) (v := .pointer (some ⟨fg, fo + k * 5, none⟩)) rfl (by kernel_rfl) (by kernel_rfl) (by kernel_rfl) (fun _ _ _ h => h) (Or.inl ⟨by rfl, (by intro w hSw; go_simp)⟩) (by assumption) ?_
      go_simp
      refine wpAnyH_take (i := 4) (oi := _) (v := .pointer (some ⟨fg, fo + k * 5 + 3, none⟩)) rfl (by kernel_rfl) (by kernel_rfl) (by kernel_rfl) (fun _ _ _ h => h) (Or.inl ⟨by rfl, (by intro w hSw; go_simp)⟩) (by assumption) ?_
      go_simp
      refine wpAnyH_take (i := 5) (oi := _) (v := .slice (some ⟨cg, co, none⟩) CL ic) rfl (by kernel_rfl) (by kernel_rfl) (by kernel_rfl) (fun _ _ _ h => h) (Or.inl ⟨by rfl, (by intro w hSw; have hs0 := Fr.heldIn hSw yfl (fun e => hcF e.symm) y3; go_simp)⟩) (by assumption) ?_
      go_simp
      refine wpAnyH_take (i := 6) (oi := _) (v := .int .i64 (pc : Int)) rfl (by kernel_rfl) (by kernel_rfl) (by kernel_rfl) (fun _ _ _ h => h) (Or.inl ⟨by rfl, (by intro w hSw; go_simp)⟩) (by assumption) ?_
      refine wpAnyH_take (i := 7) (oi := _) (v := .agg #[.int .i64 0, .int .i64 1]) rfl (by kernel_rfl) (by kernel_rfl) (by kernel_rfl) (fun _ _ _ h => h) (Or.inl ⟨by rfl, (by intro w hSw; have hs0 := Fr.heldIn hSw ybl (fun e => hcB e.symm) u0; have hs1 := Fr.heldIn hSw ybl (fun e => hcB e.symm) u1; go_simp)⟩) (by assumption) ?_
      go_simp
      refine wpAnyH_take (i := 8) (oi := _) (v := .pointer (some ⟨cg, co + pc * 2, none⟩)) rfl (by kernel_rfl) (by kernel_rfl) (by kernel_rfl) (fun _ _ _ h => h) (Or.inl ⟨by rfl, (by intro w hSw; go_simp)⟩) (by assumption) ?_
      go_simp
      refine wpAnyH_ready (rs := [9]) (by kernel_rfl) (by simp) ?_
      refine AllReadyH.cons (o := _) rfl (fun K hK => ?_) AllReadyH.nil
      go_simp
      refine hK.out _ _ (Fr.drew (((Fr.refl (fun b => b = cg) W5).setCell ⟨cg, co + pc * 2, none⟩ (.inr rfl) _).setCell ⟨cg, co + pc * 2 + 1, none⟩ (.inr rfl) _)) (fun hHeld9x => ?_)
      clear hK K
      refine wpAnyH_done (by kernel_rfl) ?_ _
      go_wp2_with fail
      refine (unhide HS).mono ?_
      rintro e w10 ⟨rfl, hw10⟩
      go_wp2_with fail
      go_ret
      exact ⟨rfl, (unhide HWA).trans (hw10.mono (unhide HWA).size)⟩
    · have HH := hide (hfound_any (unhide HO2) (by have := (unhide HS2); omega) (by have := hb03.size; have := (unhide hBW).2; omega) (unhide HGD) (unhide HIN).okp (unhide HF _ (unhide H02)).2.2.2.2.1 hfk y)
      have y1 := (unhide HQ2).2
      have y0 := (unhide HQ2).1
      have HW2 := hide (unhide HF _ (unhide H02)).2.2.2.2.2
      go_wp2_with fail
      refine (unhide HH).mono ?_
      rintro e w10 ⟨rfl, hw10⟩
      go_wp2_with fail
      go_ret
      exact ⟨rfl, (unhide HW2).trans (hw10.mono (by have := hb03.size; have := (unhide hBW).2; omega))⟩
    · have HH := hide (hfound_any (unhide HO2) (by have := (unhide HS2); omega) (by have := hb03.size; have := (unhide hBW).2; omega) (unhide HGD) (unhide HIN).okp (unhide HF _ (unhide H02)).2.2.2.2.1 hfk y)
      have y1 := (unhide HQ2).2
      have y0 := (unhide HQ2).1
      have HW2 := hide (unhide HF _ (unhide H02)).2.2.2.2.2
      go_wp2_with fail
      refine (unhide HH).mono ?_
      rintro e w10 ⟨rfl, hw10⟩
      go_wp2_with fail
      go_ret
      exact ⟨rfl, (unhide HW2).trans (hw10.mono (by have := hb03.size; have := (unhide hBW).2; omega))⟩
end
end Go.Proofs.YtfaafamdjcojlaaDoor
