/-
  ProgramFunctions.
-/
import Derived.Test.YtfaafamdjcojlaaDoorConstsLaw
namespace Go.Proofs.YtfaafamdjcojlaaDoor
open Go.RowKit
set_option linter.unusedVariables false
set_option linter.unusedSimpArgs false
set_option maxRecDepth 100000
noncomputable section
theorem fnF_nm {p : Pg} {f : Fc} {m t : Bool} {e : Int × Int} (h : nmF f.name t = some e) : fnF p f m t = some e := by unfold fnF; rw [h]; rfl
theorem fnF_sz {p : Pg} {f : Fc} {m t : Bool} {e : Int × Int} (h1 : nmF f.name t = none) (h2 : szF f m = some e) : fnF p f m t = some e := by unfold fnF; rw [h1, h2]; rfl
theorem spB_nil : spB { data := #[] } = false := by
  unfold spB; rw [show decide (0 < ByteArray.size { data := #[] }) = false from rfl]; exact Bool.and_false _
theorem spB_long : spB { data := #[97, 50, 51, 52, 53, 54, 55, 56, 57, 95, 98, 50, 51, 52, 53, 54, 55, 56, 57, 95, 99, 50, 51, 52, 53, 54, 55, 56, 57, 95, 100, 50, 51] } = true := by decide
theorem spB_dash (s : ByteArray) : spB (s ++ { data := #[45] }) = false := by
  have h : allL (s ++ { data := #[45] }) = false := by
    refine decide_eq_false fun h => ?_
    have hs : s.size < (s ++ { data := #[45] } : ByteArray).size := by rw [ByteArray.size_append]; exact Nat.lt_succ_self _
    have h1 := h s.size hs
    have e : (s ++ { data := #[45] } : ByteArray)[s.size]'hs = 45 := by
      rw [ByteArray.getElem_append_right (Nat.le_refl _)]
      simp
      rfl
    rw [e] at h1
    exact absurd h1 (by decide)
  unfold spB; rw [h]; rfl
theorem okp_setF {p : Pg} (h : OkP p) {k : Nat} {f : Fc} (hc : f.code.length ≤ 9000000000000) (hn : f.name.size ≤ 9223372036854775807) : OkP { p with funcs := p.funcs.set k f } :=
  ⟨h.1, fun i g hg => by
    have hg' : (p.funcs.set k f)[i]? = some g := hg
    by_cases q : k = i
    · subst q
      rw [List.getElem?_set_self (by have := (List.getElem?_eq_some_iff.1 hg').1; simpa using this)] at hg'
      cases hg'; exact ⟨hc, hn⟩
    · rw [List.getElem?_set_ne q] at hg'; exact h.2 i g hg'⟩
set_option maxHeartbeats 12800000 in
theorem funcsLaw {w : World} {v : Value} {p : Pg} (z y : Int) (h : PgV w v p) (hin : InQ p) (hla : Laid w) : Calls Tryd.prog 5 #[v, .int .i64 z, .int .i64 y] w fun e w' => e = .returned (.bool true) ∧ Below w.heap.size w w' := by
  have HPV := hide h
  have HIN := hide hin
  have HLA := hide hla
  obtain ⟨cv0, fv0, rfl, hcc, hf⟩ := h
  have hfat := hf.at
  obtain ⟨fa, fcp, rfl, hf1, hf2, hfat⟩ := hfat
  obtain ⟨_, ca, ccap, rfl, hc1, hc2, _⟩ := hcc
  clear hf hin hla
  have hncm := (unhide HIN).nc
  obtain ⟨NC, hNC⟩ : ∃ L, Hid (p.consts.length = L) := ⟨_, rfl⟩
  obtain ⟨NF, hNF⟩ : ∃ L, Hid (p.funcs.length = L) := ⟨_, rfl⟩
  rw [unhide hNC] at HPV hncm ⊢
  rw [unhide hNF] at HPV hf1 ⊢
  obtain ⟨W0, hW0⟩ : ∃ x, Hid (w.alloc (.cells #[.slice ca NC ccap, .slice fa NF fcp] 25) = x) := ⟨_, rfl⟩
  have hBW : Hid (Below w.heap.size w W0 ∧ W0.heap.size = w.heap.size + 1) := by rw [← unhide hW0]; exact ⟨(Below.refl _ _).alloc (Nat.le_refl _) _, by simp⟩
  have hP0 : Hid (W0.heap[w.heap.size]? = some (.cells #[.slice ca NC ccap, .slice fa NF fcp] 25 (0, 0))) := by
    rw [← unhide hW0]; exact heap_alloc_new _ _
  have HF : Hid (∀ wr, Below W0.heap.size W0 wr → wr.cell? ⟨w.heap.size, 0, none⟩ = some (.slice ca NC ccap) ∧ wr.cell? ⟨w.heap.size, 1, none⟩ = some (.slice fa NF fcp) ∧ w.heap.size < wr.heap.size ∧ PgV wr (.agg #[.slice ca NC ccap, .slice fa NF fcp]) p ∧ Laid wr ∧ Below w.heap.size w wr) := by
    intro wr hb
    obtain ⟨b1, b2⟩ := unhide hBW
    have e0 := (hb.block w.heap.size (by omega)).trans (unhide hP0)
    have hw := b1.trans (hb.mono (by omega))
    have := hb.size
    exact ⟨by simp [World.cell?, e0], by simp [World.cell?, e0], by omega, (unhide HPV).below hw (Nat.le_refl _), (unhide HLA).below hw, hw⟩
  have HFI := hide (fun wr (hb : Below W0.heap.size W0 wr) => fit15_any (unhide HF wr hb).2.2.2.1 (unhide HIN).nc (unhide HIN).okf)
  go_enter Tryd.func5, Tryd.ntmps5
  go_wp2_with fail
  rw [unhide hW0]
  refine (unhide HFI W0 (Below.refl _ _)).mono ?_
  rintro e w1 ⟨rfl, hb1⟩
  obtain ⟨p0, p1, pl, _⟩ := unhide HF w1 hb1
  cases hfit : fitV p with
  | false =>
    go_wp2_with fail
    refine (unhide HFI w1 hb1).mono ?_
    rintro e w2 ⟨rfl, hb2⟩
    rw [hfit]
    go_wp2_with fail
    go_ret
    exact ⟨rfl, (unhide HF w2 (hb1.trans (hb2.mono hb1.size))).2.2.2.2.2⟩
  | true =>
    have hgd : ckF p = none := by unfold fitV at hfit; exact Option.isNone_iff_eq_none.1 hfit
    have HGD := hide hgd
    obtain ⟨s1, s2, s3, s4⟩ := small_of hgd
    have HSM := hide s4
    have HCP := hide (fun wr (hb : Below W0.heap.size W0 wr) => cpP_any (unhide HF wr hb).2.2.2.1 (by omega) (by omega) (fun i f hf => by have := s4 i f hf; omega))
    rw [unhide hNC] at s1
    rw [unhide hNF] at s2 s3
    clear s4 hgd hfit HFI
    go_wp2_with fail
    refine (unhide HCP w1 hb1).mono ?_
    rintro e w2 ⟨cv1, fv1, xs1, rfl, hO1, hb2⟩
    have hb02 := hb1.trans (hb2.mono hb1.size)
    clear p0 p1 pl
    obtain ⟨p0, p1, pl, _, hl2, _⟩ := unhide HF w2 hb02
    go_wp2_with fail
    refine (found_any 0 0 0 hO1.pgv (unhide HIN).okp hl2).mono ?_
    rintro e w3 ⟨rfl, hb3⟩
    rw [fouV_none (unhide HGD)]
    have hb03 := hb02.trans (hb3.mono hb02.size)
    clear p0 p1 pl hO1 hl2 hb2 hb1 hb02 hb3
    obtain ⟨p0, p1, pl, _, _, hw3⟩ := unhide HF w3 hb03
    have hzl : p.consts.length = NC := unhide hNC
    have hzf : p.funcs.length = NF := unhide hNF
    have HPK := hide (pick_any w3 z NF (by omega) (by omega))
    have hpk := pick_lt z (n := NF) (by omega)
    obtain ⟨k, hk⟩ : ∃ k, pick z NF = k := ⟨_, rfl⟩
    rw [hk] at HPK hpk
    go_wp2_with fail
    refine (unhide HPK).mono ?_
    rintro e w3x ⟨rfl, ew⟩
    subst ew
    go_wp2_with fail
    refine (unhide HCP w3x hb03).mono ?_
    rintro e w4 ⟨cv, fv, xs, rfl, hO4, hb4⟩
    obtain ⟨cc, cca, rfl, hcap, hcap2⟩ := hO4.co.shape
    have hx4 := hO4.pt.xl
    obtain ⟨fg, fo, fcc, rfl, hfcap, hfcap2, hgl, _⟩ := hO4.fo.full (by omega)
    rw [hx4, hzf] at hfcap
    have hxz : xs.length = NF := hx4.trans hzf
    rw [hzl, hxz] at hO4
    rw [hzl, hxz]
    obtain ⟨wr, hwr⟩ : ∃ x, Hid (w4.alloc (.cells #[.slice cc NC cca, .slice (some ⟨fg, fo, none⟩) NF fcc] 25) = x) := ⟨_, rfl⟩
    have hb4r : Below w4.heap.size w4 wr := by rw [← unhide hwr]; exact (Below.refl _ _).alloc (Nat.le_refl _) _
    have HBX : Hid (w4.heap.size < wr.heap.size ∧ wr.heap[w4.heap.size]? = some (.cells #[.slice cc NC cca, .slice (some ⟨fg, fo, none⟩) NF fcc] 25 (0, 0))) := by rw [← unhide hwr]; exact ⟨by simp, heap_alloc_new _ _⟩
    have HQI : Hid (∀ b, inO (.slice cc NC cca) (.slice (some ⟨fg, fo, none⟩) NF fcc) xs b → b ≠ w4.heap.size ∧ W0.heap.size ≤ b) := fun b e => by have := hO4.ge e; have := hb03.size; exact ⟨by omega, by omega⟩
    have HO4 := hide (hO4.keep hb4r)
    have h0r : Below W0.heap.size W0 wr := (hb03.trans (hb4.mono hb03.size)).trans (hb4r.mono (by have := hb03.size; have := hb4.size; omega))
    have hB4 : w3x.heap.size ≤ wr.heap.size := by have := hb4.size; have := hb4r.size; omega
    have q0 : wr.cell? ⟨w4.heap.size, 0, none⟩ = some (.slice cc NC cca) := by simp [World.cell?, (unhide HBX).2]
    have q1 : wr.cell? ⟨w4.heap.size, 1, none⟩ = some (.slice (some ⟨fg, fo, none⟩) NF fcc) := by simp [World.cell?, (unhide HBX).2]
    have qf1 : wr.frozen? ⟨w4.heap.size, 1, none⟩ = false := by simp [World.frozen?, (unhide HBX).2]
    have qf0 : wr.frozen? ⟨w4.heap.size, 0, none⟩ = false := by simp [World.frozen?, (unhide HBX).2]
    have ql := (unhide HBX).1
    have hgq : fg ≠ w4.heap.size := (unhide HQI fg (.inr (.inl rfl))).1
    obtain ⟨f, hfk⟩ : ∃ f, p.funcs[k]? = some f := ⟨_, List.getElem?_eq_getElem (by omega)⟩
    obtain ⟨x, hxk⟩ : ∃ x, xs[k]? = some x := ⟨_, List.getElem?_eq_getElem (by omega)⟩
    have hFk := (unhide HO4).pt.rows k f x hfk hxk
    obtain ⟨ia, ic, ha, hcq, rfl⟩ := hFk.fnv.parts
    have hfo4 : Ro wr 5 (.slice (some ⟨fg, fo, none⟩) NF fcc) xs.length (flt enF xs) := (unhide HO4).fo
    have hfzz : ∀ o, wr.frozen? ⟨fg, o, none⟩ = false := fun o => by rw [hxz] at hfo4; exact hfo4.free rfl o
    obtain ⟨_, _, _, e, _, _, hgr, hcs⟩ := (Rx.of_ro hfo4).elem zF hxk
    rw [hxz] at e
    cases e
    have c0 := hcs 0 _ rfl
    have c1 := hcs 1 _ rfl
    have c2 := hcs 2 _ rfl
    have c3 := hcs 3 _ rfl
    have c4 := hcs 4 _ rfl
    rw [Nat.add_zero] at c0
    have z0 := hfzz (fo + k * 5)
    have z1 := hfzz (fo + k * 5 + 1)
    have z2 := hfzz (fo + k * 5 + 2)
    have z3 := hfzz (fo + k * 5 + 3)
    have z4 := hfzz (fo + k * 5 + 4)
    have k0 : (0 : Int) ≤ (k : Int) := by omega
    have k1 : (k : Int) < (NF : Int) := by omega
    have hQW : w.heap.size < w4.heap.size := by have := hb4.size; omega
    have HP8 := hide (pick_any wr y 8 (by omega) (by omega))
    have hp8 := pick_lt y (n := 8) (by omega)
    obtain ⟨D, hD⟩ : ∃ D : Int, ((pick y 8 : Nat) : Int) = D := ⟨_, rfl⟩
    rw [hD] at HP8
    have hD8 : D = 0 ∨ D = 1 ∨ D = 2 ∨ D = 3 ∨ D = 4 ∨ D = 5 ∨ D = 6 ∨ D = 7 := by omega
    go_wp2_with fail
    rw [unhide hwr]
    refine (unhide HP8).mono ?_
    rintro e wq ⟨rfl, ew⟩
    have ew' := ew.symm
    subst ew'
    have hnk := fnF_none.1 ((ckF_none.1 (unhide HGD)).2.2.2 k f hfk)
    have s4k := unhide HSM k f hfk
    have hOK := (unhide HIN).okp
    have HBL : Hid (∀ wx, Fr (fun b => b = fg) wr wx → Below W0.heap.size W0 wx) := fun wx hf => h0r.trans (hf.below h0r.size (fun b hb (e : b = fg) => by have := (unhide HQI fg (.inr (.inl rfl))).2; omega))
    have HST : Hid (∀ (wx : World) (kk : Nat) (g f' : Fc) (xs' : List Fv) (e : Int), p.funcs[kk]? = some g → Below W0.heap.size W0 wx → f'.code.length ≤ 9000000000000 → f'.name.size ≤ 9223372036854775807 → fnF p f' (decide (kk = 0)) (decide (∃ g ∈ p.funcs.take kk, g.name = f'.name)) = some (0, e) → OP w3x.heap.size { p with funcs := p.funcs.set kk f' } xs' (.slice cc NC cca) (.slice (some ⟨fg, fo, none⟩) NF fcc) wx → Calls Tryd.prog 16 #[.agg #[.slice cc NC cca, .slice (some ⟨fg, fo, none⟩) NF fcc], .int .i64 e, .int .i64 (kk : Int), .int .i64 0] wx fun ev w' => ev = .returned (.bool true) ∧ Below w.heap.size w w') := by
      intro wx kk g f' xs' e hg hbw h1 h2 hfn ho
      have := found_any e (kk : Int) 0 ho.pgv (okp_setF hOK h1 h2) (unhide HF wx hbw).2.2.2.2.1
      rw [fouV_some (ckF_setF (unhide HGD) hg hfn)] at this
      refine this.mono fun ev w' ⟨e1, e2⟩ => ⟨e1, ?_⟩
      exact (unhide HF wx hbw).2.2.2.2.2.trans (e2.mono (unhide HF wx hbw).2.2.2.2.2.size)
    clear hcs hfzz p0 p1 pl hOK hO4 hfo4
    rcases hD8 with rfl | rfl | rfl | rfl | rfl | rfl | rfl | rfl
    · have HE := hide (show fnF p { f with name := { data := #[] } } (decide (k = 0)) (decide (∃ g ∈ p.funcs.take k, g.name = ({ f with name := { data := #[] } } : Fc).name)) = some (0, 6) by
          exact fnF_nm (by unfold nmF; rw [if_pos spB_nil]))
      have HD := hide ((unhide HO4).setF (x' := ⟨{ data := #[] }, f.params, f.locals, .slice ia f.code.length ic, .slice ha f.hs.length hcq⟩) (f' := { f with name := { data := #[] } }) (vs := [.string { data := #[] }]) (j := 0) rfl hxk hfk (Fr.refl _ wr) ⟨rfl, rfl, rfl, hFk.2.2.2.1, hFk.2.2.2.2⟩ (fun b hb => .inl hb) (fun b hb => ((unhide HO4).pt.each k k _ _ b hxk hxk).1 hb |>.1) hB4 (by simp) (fun i hi => by
          match i, hi with
          | 0, _ => rfl
          | 1, _ => rfl
          | 2, _ => rfl
          | 3, _ => rfl
          | 4, _ => rfl))
      have HS := hide (unhide HST (wr.setCell ⟨fg, fo + k * 5, none⟩ (.string { data := #[] })) k f { f with name := { data := #[] } } _ 6 hfk (unhide HBL _ ((Fr.refl (fun b => b = fg) wr).setCell ⟨fg, fo + k * 5, none⟩ (.inr rfl) (.string { data := #[] }))) (by have := s4k; simp only; omega) (Nat.zero_le _) (unhide HE) (unhide HD))
      clear HD HE
      go_wp2_with fail
      refine (unhide HS).mono ?_
      rintro e w9 ⟨rfl, hw9⟩
      go_wp2_with fail
      go_ret
      exact ⟨rfl, hw9⟩
    · have HE := hide (show fnF p { f with name := f.name ++ { data := #[45] } } (decide (k = 0)) (decide (∃ g ∈ p.funcs.take k, g.name = ({ f with name := f.name ++ { data := #[45] } } : Fc).name)) = some (0, 6) by
          exact fnF_nm (by unfold nmF; rw [if_pos (spB_dash f.name)]))
      have HD := hide ((unhide HO4).setF (x' := ⟨(f.name ++ { data := #[45] }), f.params, f.locals, .slice ia f.code.length ic, .slice ha f.hs.length hcq⟩) (f' := { f with name := f.name ++ { data := #[45] } }) (vs := [.string (f.name ++ { data := #[45] })]) (j := 0) rfl hxk hfk (Fr.refl _ wr) ⟨rfl, rfl, rfl, hFk.2.2.2.1, hFk.2.2.2.2⟩ (fun b hb => .inl hb) (fun b hb => ((unhide HO4).pt.each k k _ _ b hxk hxk).1 hb |>.1) hB4 (by simp) (fun i hi => by
          match i, hi with
          | 0, _ => rfl
          | 1, _ => rfl
          | 2, _ => rfl
          | 3, _ => rfl
          | 4, _ => rfl))
      have HS := hide (unhide HST (wr.setCell ⟨fg, fo + k * 5, none⟩ (.string (f.name ++ { data := #[45] }))).drew k f { f with name := f.name ++ { data := #[45] } } _ 6 hfk (unhide HBL _ (Fr.drew ((Fr.refl (fun b => b = fg) wr).setCell ⟨fg, fo + k * 5, none⟩ (.inr rfl) (.string (f.name ++ { data := #[45] }))))) (by have := s4k; simp only; omega) (by simp only [ByteArray.size_append]; have := s4k; show f.name.size + 1 ≤ _; omega) (unhide HE) ((unhide HD).fr (S := fun _ => False) (Fr.drawnW _) (fun _ _ e => e)))
      clear HD HE
      go_wp2_with fail
      refine wp_region_held_drew (S := fun wx => Fr (fun b => b = fg) wr wx) (by kernel_rfl) (Fr.drawnW _) (fun hHeld => ?_)
      refine wpAnyH_take (i := 0) (oi := _) (v := .pointer (some ⟨w4.heap.size, 1, none⟩)) rfl (by kernel_rfl) (by kernel_rfl) (by kernel_rfl) (fun _ _ _ h => h) (Or.inl ⟨by rfl, (by intro w hSw; go_simp)⟩) (by assumption) ?_
      refine wpAnyH_take (i := 1) (oi := _) (v := .slice (some ⟨fg, fo, none⟩) NF fcc) rfl (by kernel_rfl) (by kernel_rfl) (by kernel_rfl) (fun _ _ _ h => h) (Or.inl ⟨by rfl, (by intro w hSw; have hs0 := Fr.heldIn hSw ql (fun e => hgq e.symm) q1; go_simp)⟩) (by assumption) ?_
      go_simp
      refine wpAnyH_take (i := 2) (oi := _) (v := .int .i64 (k : Int)) rfl (by kernel_rfl) (by kernel_rfl) (by kernel_rfl) (fun _ _ _ h => h) (Or.inl ⟨by rfl, (by intro w hSw; go_simp)⟩) (by assumption) ?_
      refine wpAnyH_take (i := 3) (oi := _) (v := .pointer (some ⟨w4.heap.size, 1, none⟩)) rfl (by kernel_rfl) (by kernel_rfl) (by kernel_rfl) (fun _ _ _ h => h) (Or.inl ⟨by rfl, (by intro w hSw; go_simp)⟩) (by assumption) ?_
      refine wpAnyH_take (i := 4) (oi := _) (v := .slice (some ⟨fg, fo, none⟩) NF fcc) rfl (by kernel_rfl) (by kernel_rfl) (by kernel_rfl) (fun _ _ _ h => h) (Or.inl ⟨by rfl, (by intro w hSw; have hs0 := Fr.heldIn hSw ql (fun e => hgq e.symm) q1; go_simp)⟩) (by assumption) ?_
      go_simp
      refine wpAnyH_take (i := 5) (oi := _) (v := .int .i64 (k : Int)) rfl (by kernel_rfl) (by kernel_rfl) (by kernel_rfl) (fun _ _ _ h => h) (Or.inl ⟨by rfl, (by intro w hSw; go_simp)⟩) (by assumption) ?_
      refine wpAnyH_take (i := 6) (oi := _) (v := .pointer (some ⟨fg, fo + k * 5, none⟩)) rfl (by kernel_rfl) (by kernel_rfl) (by kernel_rfl) (fun _ _ _ h => h) (Or.inl ⟨by rfl, (by intro w hSw; go_simp)⟩) (by assumption) ?_
      go_simp
      refine wpAnyH_take (i := 7) (oi := _) (v := .pointer (some ⟨fg, fo + k * 5, none⟩)) rfl (by kernel_rfl) (by kernel_rfl) (by kernel_rfl) (fun _ _ _ h => h) (Or.inl ⟨by rfl, (by intro w hSw; go_simp)⟩) (by assumption) ?_
      go_simp
      refine wpAnyH_ready (rs := [8]) (by kernel_rfl) (by simp) ?_
      refine AllReadyH.cons (o := _) rfl (fun K hK => ?_) AllReadyH.nil
      go_simp
      refine hK.out _ _ (hHeld) (fun hHeld2 => ?_)
      clear hK K hHeld2
      refine wpAnyH_take (i := 9) (oi := _) (v := .string (f.name ++ { data := #[45] })) rfl (by kernel_rfl) (by kernel_rfl) (by kernel_rfl) (fun _ _ _ h => h) (Or.inl ⟨by rfl, (by intro w hSw; have hsz : f.name.size ≤ 9223372036854775806 := (by have := s4k; omega); go_simp)⟩) (by assumption) ?_
      go_simp
      refine wpAnyH_take (i := 10) (oi := _) (v := .pointer (some ⟨fg, fo + k * 5, none⟩)) rfl (by kernel_rfl) (by kernel_rfl) (by kernel_rfl) (fun _ _ _ h => h) (Or.inl ⟨by rfl, (by intro w hSw; go_simp)⟩) (by assumption) ?_
      go_simp
      refine wpAnyH_take (i := 11) (oi := _) (v := .pointer (some ⟨fg, fo + k * 5, none⟩)) rfl (by kernel_rfl) (by kernel_rfl) (by kernel_rfl) (fun _ _ _ h => h) (Or.inl ⟨by rfl, (by intro w hSw; go_simp)⟩) (by assumption) ?_
      go_simp
      refine wpAnyH_ready (rs := [12]) (by kernel_rfl) (by simp) ?_
      refine AllReadyH.cons (o := _) rfl (fun K hK => ?_) AllReadyH.nil
      go_simp
      refine hK.out _ _ (Fr.drew ((Fr.refl (fun b => b = fg) wr).setCell ⟨fg, fo + k * 5, none⟩ (.inr rfl) _)) (fun hHeld2 => ?_)
      clear hK K hHeld2
      refine wpAnyH_done (by kernel_rfl) ?_ _
      go_wp2_with fail
      refine (unhide HS).mono ?_
      rintro e w9 ⟨rfl, hw9⟩
      go_wp2_with fail
      go_ret
      exact ⟨rfl, hw9⟩
    · have HE := hide (show fnF p { f with name := { data := #[97, 50, 51, 52, 53, 54, 55, 56, 57, 95, 98, 50, 51, 52, 53, 54, 55, 56, 57, 95, 99, 50, 51, 52, 53, 54, 55, 56, 57, 95, 100, 50, 51] } } (decide (k = 0)) (decide (∃ g ∈ p.funcs.take k, g.name = ({ f with name := { data := #[97, 50, 51, 52, 53, 54, 55, 56, 57, 95, 98, 50, 51, 52, 53, 54, 55, 56, 57, 95, 99, 50, 51, 52, 53, 54, 55, 56, 57, 95, 100, 50, 51] } } : Fc).name)) = some (0, 5) by
          exact fnF_nm (by unfold nmF; rw [if_neg (by rw [spB_long]; simp)]; exact if_pos (show (33 : Nat) > 32 by decide)))
      have HD := hide ((unhide HO4).setF (x' := ⟨{ data := #[97, 50, 51, 52, 53, 54, 55, 56, 57, 95, 98, 50, 51, 52, 53, 54, 55, 56, 57, 95, 99, 50, 51, 52, 53, 54, 55, 56, 57, 95, 100, 50, 51] }, f.params, f.locals, .slice ia f.code.length ic, .slice ha f.hs.length hcq⟩) (f' := { f with name := { data := #[97, 50, 51, 52, 53, 54, 55, 56, 57, 95, 98, 50, 51, 52, 53, 54, 55, 56, 57, 95, 99, 50, 51, 52, 53, 54, 55, 56, 57, 95, 100, 50, 51] } }) (vs := [.string { data := #[97, 50, 51, 52, 53, 54, 55, 56, 57, 95, 98, 50, 51, 52, 53, 54, 55, 56, 57, 95, 99, 50, 51, 52, 53, 54, 55, 56, 57, 95, 100, 50, 51] }]) (j := 0) rfl hxk hfk (Fr.refl _ wr) ⟨rfl, rfl, rfl, hFk.2.2.2.1, hFk.2.2.2.2⟩ (fun b hb => .inl hb) (fun b hb => ((unhide HO4).pt.each k k _ _ b hxk hxk).1 hb |>.1) hB4 (by simp) (fun i hi => by
          match i, hi with
          | 0, _ => rfl
          | 1, _ => rfl
          | 2, _ => rfl
          | 3, _ => rfl
          | 4, _ => rfl))
      have HS := hide (unhide HST (wr.setCell ⟨fg, fo + k * 5, none⟩ (.string { data := #[97, 50, 51, 52, 53, 54, 55, 56, 57, 95, 98, 50, 51, 52, 53, 54, 55, 56, 57, 95, 99, 50, 51, 52, 53, 54, 55, 56, 57, 95, 100, 50, 51] })) k f { f with name := { data := #[97, 50, 51, 52, 53, 54, 55, 56, 57, 95, 98, 50, 51, 52, 53, 54, 55, 56, 57, 95, 99, 50, 51, 52, 53, 54, 55, 56, 57, 95, 100, 50, 51] } } _ 5 hfk (unhide HBL _ ((Fr.refl (fun b => b = fg) wr).setCell ⟨fg, fo + k * 5, none⟩ (.inr rfl) (.string { data := #[97, 50, 51, 52, 53, 54, 55, 56, 57, 95, 98, 50, 51, 52, 53, 54, 55, 56, 57, 95, 99, 50, 51, 52, 53, 54, 55, 56, 57, 95, 100, 50, 51] }))) (by have := s4k; simp only; omega) (show (33 : Nat) ≤ _ by decide) (unhide HE) (unhide HD))
      clear HD HE
      go_wp2_with fail
      refine (unhide HS).mono ?_
      rintro e w9 ⟨rfl, hw9⟩
      go_wp2_with fail
      go_ret
      exact ⟨rfl, hw9⟩
    · have HE := hide (show fnF p { f with params := -1 } (decide (k = 0)) (decide (∃ g ∈ p.funcs.take k, g.name = ({ f with params := -1 } : Fc).name)) = some (0, 1) by
          exact fnF_sz hnk.1 (by unfold szF; rw [if_pos (.inl (show (-1 : Int) < 0 by decide))]))
      have HD := hide ((unhide HO4).setF (x' := ⟨f.name, (-1), f.locals, .slice ia f.code.length ic, .slice ha f.hs.length hcq⟩) (f' := { f with params := -1 }) (vs := [.int .i64 (-1)]) (j := 1) rfl hxk hfk (Fr.refl _ wr) ⟨rfl, rfl, rfl, hFk.2.2.2.1, hFk.2.2.2.2⟩ (fun b hb => .inl hb) (fun b hb => ((unhide HO4).pt.each k k _ _ b hxk hxk).1 hb |>.1) hB4 (by simp) (fun i hi => by
          match i, hi with
          | 0, _ => rfl
          | 1, _ => rfl
          | 2, _ => rfl
          | 3, _ => rfl
          | 4, _ => rfl))
      have HS := hide (unhide HST (wr.setCell ⟨fg, fo + k * 5 + 1, none⟩ (.int .i64 (-1))) k f { f with params := -1 } _ 1 hfk (unhide HBL _ ((Fr.refl (fun b => b = fg) wr).setCell ⟨fg, fo + k * 5 + 1, none⟩ (.inr rfl) (.int .i64 (-1)))) (by have := s4k; simp only; omega) (by have := s4k; simp only; omega) (unhide HE) (unhide HD))
      clear HD HE
      go_wp2_with fail
      refine (unhide HS).mono ?_
      rintro e w9 ⟨rfl, hw9⟩
      go_wp2_with fail
      go_ret
      exact ⟨rfl, hw9⟩
    · have HE := hide (show fnF p { f with params := f.locals + 1 } (decide (k = 0)) (decide (∃ g ∈ p.funcs.take k, g.name = ({ f with params := f.locals + 1 } : Fc).name)) = some (0, 1) by
          exact fnF_sz hnk.1 (by unfold szF; rw [if_pos (.inr (.inl (show f.locals < f.locals + 1 by omega)))]))
      have HD := hide ((unhide HO4).setF (x' := ⟨f.name, (f.locals + 1), f.locals, .slice ia f.code.length ic, .slice ha f.hs.length hcq⟩) (f' := { f with params := f.locals + 1 }) (vs := [.int .i64 (f.locals + 1)]) (j := 1) rfl hxk hfk (Fr.refl _ wr) ⟨rfl, rfl, rfl, hFk.2.2.2.1, hFk.2.2.2.2⟩ (fun b hb => .inl hb) (fun b hb => ((unhide HO4).pt.each k k _ _ b hxk hxk).1 hb |>.1) hB4 (by simp) (fun i hi => by
          match i, hi with
          | 0, _ => rfl
          | 1, _ => rfl
          | 2, _ => rfl
          | 3, _ => rfl
          | 4, _ => rfl))
      have HS := hide (unhide HST (wr.setCell ⟨fg, fo + k * 5 + 1, none⟩ (.int .i64 (f.locals + 1))).drew k f { f with params := f.locals + 1 } _ 1 hfk (unhide HBL _ (Fr.drew ((Fr.refl (fun b => b = fg) wr).setCell ⟨fg, fo + k * 5 + 1, none⟩ (.inr rfl) (.int .i64 (f.locals + 1))))) (by have := s4k; simp only; omega) (by have := s4k; simp only; omega) (unhide HE) ((unhide HD).fr (S := fun _ => False) (Fr.drawnW _) (fun _ _ e => e)))
      clear HD HE
      go_wp2_with fail
      refine wp_region_held_drew (S := fun wx => Fr (fun b => b = fg) wr wx) (by kernel_rfl) (Fr.drawnW _) (fun hHeld => ?_)
      refine wpAnyH_take (i := 0) (oi := _) (v := .pointer (some ⟨w4.heap.size, 1, none⟩)) rfl (by kernel_rfl) (by kernel_rfl) (by kernel_rfl) (fun _ _ _ h => h) (Or.inl ⟨by rfl, (by intro w hSw; go_simp)⟩) (by assumption) ?_
      refine wpAnyH_take (i := 1) (oi := _) (v := .slice (some ⟨fg, fo, none⟩) NF fcc) rfl (by kernel_rfl) (by kernel_rfl) (by kernel_rfl) (fun _ _ _ h => h) (Or.inl ⟨by rfl, (by intro w hSw; have hs0 := Fr.heldIn hSw ql (fun e => hgq e.symm) q1; go_simp)⟩) (by assumption) ?_
      go_simp
      refine wpAnyH_take (i := 2) (oi := _) (v := .int .i64 (k : Int)) rfl (by kernel_rfl) (by kernel_rfl) (by kernel_rfl) (fun _ _ _ h => h) (Or.inl ⟨by rfl, (by intro w hSw; go_simp)⟩) (by assumption) ?_
      refine wpAnyH_take (i := 3) (oi := _) (v := .pointer (some ⟨w4.heap.size, 1, none⟩)) rfl (by kernel_rfl) (by kernel_rfl) (by kernel_rfl) (fun _ _ _ h => h) (Or.inl ⟨by rfl, (by intro w hSw; go_simp)⟩) (by assumption) ?_
      refine wpAnyH_take (i := 4) (oi := _) (v := .slice (some ⟨fg, fo, none⟩) NF fcc) rfl (by kernel_rfl) (by kernel_rfl) (by kernel_rfl) (fun _ _ _ h => h) (Or.inl ⟨by rfl, (by intro w hSw; have hs0 := Fr.heldIn hSw ql (fun e => hgq e.symm) q1; go_simp)⟩) (by assumption) ?_
      go_simp
      refine wpAnyH_take (i := 5) (oi := _) (v := .int .i64 (k : Int)) rfl (by kernel_rfl) (by kernel_rfl) (by kernel_rfl) (fun _ _ _ h => h) (Or.inl ⟨by rfl, (by intro w hSw; go_simp)⟩) (by assumption) ?_
      refine wpAnyH_take (i := 6) (oi := _) (v := .pointer (some ⟨fg, fo + k * 5, none⟩)) rfl (by kernel_rfl) (by kernel_rfl) (by kernel_rfl) (fun _ _ _ h => h) (Or.inl ⟨by rfl, (by intro w hSw; go_simp)⟩) (by assumption) ?_
      go_simp
      refine wpAnyH_take (i := 7) (oi := _) (v := .pointer (some ⟨fg, fo + k * 5 + 2, none⟩)) rfl (by kernel_rfl) (by kernel_rfl) (by kernel_rfl) (fun _ _ _ h => h) (Or.inl ⟨by rfl, (by intro w hSw; go_simp)⟩) (by assumption) ?_
      go_simp
      refine wpAnyH_ready (rs := [8]) (by kernel_rfl) (by simp) ?_
      refine AllReadyH.cons (o := _) rfl (fun K hK => ?_) AllReadyH.nil
      go_simp
      refine hK.out _ _ (hHeld) (fun hHeld2 => ?_)
      clear hK K hHeld2
      refine wpAnyH_take (i := 9) (oi := _) (v := .int .i64 (f.locals + 1)) rfl (by kernel_rfl) (by kernel_rfl) (by kernel_rfl) (fun _ _ _ h => h) (Or.inl ⟨by rfl, (by intro w hSw; have hNw : IntKind.i64.wrap (f.locals + 1) = f.locals + 1 := (by rw [IntKind.wrap_i64]; have := s4k; omega); go_simp)⟩) (by assumption) ?_
      go_simp
      refine wpAnyH_take (i := 10) (oi := _) (v := .pointer (some ⟨fg, fo + k * 5, none⟩)) rfl (by kernel_rfl) (by kernel_rfl) (by kernel_rfl) (fun _ _ _ h => h) (Or.inl ⟨by rfl, (by intro w hSw; go_simp)⟩) (by assumption) ?_
      go_simp
      refine wpAnyH_take (i := 11) (oi := _) (v := .pointer (some ⟨fg, fo + k * 5 + 1, none⟩)) rfl (by kernel_rfl) (by kernel_rfl) (by kernel_rfl) (fun _ _ _ h => h) (Or.inl ⟨by rfl, (by intro w hSw; go_simp)⟩) (by assumption) ?_
      go_simp
      refine wpAnyH_ready (rs := [12]) (by kernel_rfl) (by simp) ?_
      refine AllReadyH.cons (o := _) rfl (fun K hK => ?_) AllReadyH.nil
      go_simp
      refine hK.out _ _ (Fr.drew ((Fr.refl (fun b => b = fg) wr).setCell ⟨fg, fo + k * 5 + 1, none⟩ (.inr rfl) _)) (fun hHeld2 => ?_)
      clear hK K hHeld2
      refine wpAnyH_done (by kernel_rfl) ?_ _
      go_wp2_with fail
      refine (unhide HS).mono ?_
      rintro e w9 ⟨rfl, hw9⟩
      go_wp2_with fail
      go_ret
      exact ⟨rfl, hw9⟩
    · have HE := hide (show fnF p { f with locals := 65 } (decide (k = 0)) (decide (∃ g ∈ p.funcs.take k, g.name = ({ f with locals := 65 } : Fc).name)) = some (0, 5) by
          exact fnF_sz hnk.1 (by
            unfold szF
            have hz := szF_none.1 hnk.2.1
            rw [if_neg (fun q => by
              rcases q with q | q | ⟨q, q2⟩
              · have := hz.1; simp only at q; omega
              · have := s4k; simp only at q; omega
              · exact q2 (hz.2.2.1 q)), if_pos (show (65 : Int) > 64 by decide)]))
      have HD := hide ((unhide HO4).setF (x' := ⟨f.name, f.params, 65, .slice ia f.code.length ic, .slice ha f.hs.length hcq⟩) (f' := { f with locals := 65 }) (vs := [.int .i64 65]) (j := 2) rfl hxk hfk (Fr.refl _ wr) ⟨rfl, rfl, rfl, hFk.2.2.2.1, hFk.2.2.2.2⟩ (fun b hb => .inl hb) (fun b hb => ((unhide HO4).pt.each k k _ _ b hxk hxk).1 hb |>.1) hB4 (by simp) (fun i hi => by
          match i, hi with
          | 0, _ => rfl
          | 1, _ => rfl
          | 2, _ => rfl
          | 3, _ => rfl
          | 4, _ => rfl))
      have HS := hide (unhide HST (wr.setCell ⟨fg, fo + k * 5 + 2, none⟩ (.int .i64 65)) k f { f with locals := 65 } _ 5 hfk (unhide HBL _ ((Fr.refl (fun b => b = fg) wr).setCell ⟨fg, fo + k * 5 + 2, none⟩ (.inr rfl) (.int .i64 65))) (by have := s4k; simp only; omega) (by have := s4k; simp only; omega) (unhide HE) (unhide HD))
      clear HD HE
      go_wp2_with fail
      refine (unhide HS).mono ?_
      rintro e w9 ⟨rfl, hw9⟩
      go_wp2_with fail
      go_ret
      exact ⟨rfl, hw9⟩
    · have HE := hide (show fnF p { f with code := [] } (decide (k = 0)) (decide (∃ g ∈ p.funcs.take k, g.name = ({ f with code := [] } : Fc).name)) = some (0, 2) by
          exact fnF_sz hnk.1 (by
            unfold szF
            have hz := szF_none.1 hnk.2.1
            rw [if_neg (fun q => by
              rcases q with q | q | ⟨q, q2⟩
              · have := hz.1; simp only at q; omega
              · have := hz.2.1; simp only at q; omega
              · exact q2 (hz.2.2.1 q)), if_neg (show ¬ f.locals > 64 by have := s4k; omega)]
            exact if_pos rfl))
      have HD := hide ((unhide HO4).setF (x' := ⟨f.name, f.params, f.locals, .slice none 0 0, .slice ha f.hs.length hcq⟩) (f' := { f with code := [] }) (vs := [.slice none 0 0]) (j := 3) rfl hxk hfk (Fr.refl _ wr) ⟨rfl, rfl, rfl, by simpa [flt] using Ro.nil wr 2, hFk.2.2.2.2⟩ (fun b hb => by rcases hb with hb | hb; cases hb; exact .inl (.inr hb)) (fun b hb => by cases hb) hB4 (by simp) (fun i hi => by
          match i, hi with
          | 0, _ => rfl
          | 1, _ => rfl
          | 2, _ => rfl
          | 3, _ => rfl
          | 4, _ => rfl))
      have HS := hide (unhide HST (wr.setCell ⟨fg, fo + k * 5 + 3, none⟩ (.slice none 0 0)) k f { f with code := [] } _ 2 hfk (unhide HBL _ ((Fr.refl (fun b => b = fg) wr).setCell ⟨fg, fo + k * 5 + 3, none⟩ (.inr rfl) (.slice none 0 0))) (Nat.zero_le _) (by have := s4k; simp only; omega) (unhide HE) (unhide HD))
      clear HD HE
      go_wp2_with fail
      refine (unhide HS).mono ?_
      rintro e w9 ⟨rfl, hw9⟩
      go_wp2_with fail
      go_ret
      exact ⟨rfl, hw9⟩
    · clear c0 c1 c2 c3 c4 z0 z1 z2 z3 z4
      by_cases hn2 : NF < 2
      · have hd2 : decide ((NF : Int) < 2) = true := decide_eq_true (by omega)
        have hF9 : Fr (fun b => b = w4.heap.size) wr (wr.setCell ⟨w4.heap.size, 1, none⟩ (.slice none 0 0)) := (Fr.refl (fun b => b = w4.heap.size) wr).setCell ⟨w4.heap.size, 1, none⟩ (.inr rfl) _
        have hb9 : Below W0.heap.size W0 (wr.setCell ⟨w4.heap.size, 1, none⟩ (.slice none 0 0)) := h0r.trans (hF9.below h0r.size (fun b hb (e : b = w4.heap.size) => by have := (unhide hBW).2; omega))
        have hco9 := (unhide HO4).co.fr hF9 (fun b hb (e : b = w4.heap.size) => (unhide HQI b (.inl hb)).1 e)
        have hpg : PgV (wr.setCell ⟨w4.heap.size, 1, none⟩ (.slice none 0 0)) (.agg #[.slice cc NC cca, .slice none 0 0]) { p with funcs := [] } := ⟨_, _, rfl, Rx.of_ro hco9, [], rfl, by simpa [flt] using Rx.nil _ 5, fun i f x hf => by simp at hf⟩
        have hck : ckF { p with funcs := [] } = some (0, 0, 2) := by
          unfold ckF
          show (match csF p.consts with | some e => _ | none => _) = _
          rw [csF_none.2 (ckF_none.1 (unhide HGD)).1]
          rfl
        have HS := hide (found_any 2 0 0 hpg ⟨(unhide HIN).okc, fun i f hf => by simp at hf⟩ (unhide HF _ hb9).2.2.2.2.1)
        rw [fouV_some hck] at HS
        have HW9 := hide (unhide HF _ hb9).2.2.2.2.2
        clear hpg hck hco9 hb9 hF9
        go_wp2_with fail
        refine (unhide HS).mono ?_
        rintro e w9 ⟨rfl, hw9⟩
        go_wp2_with fail
        go_ret
        exact ⟨rfl, (unhide HW9).trans (hw9.mono (unhide HW9).size)⟩
      · have hd2 : decide ((NF : Int) < 2) = false := decide_eq_false (by omega)
        obtain ⟨M, hM⟩ : ∃ M, NF = M + 1 := ⟨NF - 1, by omega⟩
        have hMw : IntKind.i64.wrap ((NF : Int) - 1) = (M : Int) := by rw [IntKind.wrap_i64]; omega
        obtain ⟨j, hj⟩ : ∃ j, pick z M = j := ⟨_, rfl⟩
        have hjM : j < M := by rw [← hj]; exact pick_lt z (by omega)
        have HPM : Hid (∀ wx, Calls Tryd.prog 17 #[.int .i64 z, .int .i64 (M : Int)] wx fun e w' => e = .returned (.int .i64 (j : Int)) ∧ w' = wx) := fun wx => by
          have := pick_any wx z M (by omega) (by omega)
          rw [hj] at this; exact this
        have hfo4 : Ro wr 5 (.slice (some ⟨fg, fo, none⟩) NF fcc) xs.length (flt enF xs) := (unhide HO4).fo
        obtain ⟨fj, hfj⟩ : ∃ f, p.funcs[j]? = some f := ⟨_, List.getElem?_eq_getElem (by omega)⟩
        obtain ⟨xj, hxj⟩ : ∃ x, xs[j]? = some x := ⟨_, List.getElem?_eq_getElem (by omega)⟩
        have hnj := ((unhide HO4).pt.rows j fj xj hfj hxj).1
        obtain ⟨_, _, _, e, _, _, _, hcs⟩ := (Rx.of_ro hfo4).elem zF hxj
        rw [hxz] at e
        cases e
        have cj := hcs 0 _ rfl
        rw [Nat.add_zero, hnj] at cj
        clear hcs
        obtain ⟨fm, hfm⟩ : ∃ f, p.funcs[M]? = some f := ⟨_, List.getElem?_eq_getElem (by omega)⟩
        obtain ⟨xm, hxm⟩ : ∃ x, xs[M]? = some x := ⟨_, List.getElem?_eq_getElem (by omega)⟩
        have hFm := (unhide HO4).pt.rows M fm xm hfm hxm
        obtain ⟨_, _, _, e, _, _, _, hcs⟩ := (Rx.of_ro hfo4).elem zF hxm
        rw [hxz] at e
        cases e
        have cm := hcs 0 _ rfl
        rw [Nat.add_zero] at cm
        have zm : wr.frozen? ⟨fg, fo + M * 5, none⟩ = false := by rw [hxz] at hfo4; exact hfo4.free rfl _
        clear hcs hfo4
        have sj := unhide HSM j fj hfj
        have sm := unhide HSM M fm hfm
        have hex : ∃ g ∈ p.funcs.take M, g.name = ({ fm with name := fj.name } : Fc).name := ⟨fj, List.mem_of_getElem? (i := j) (by rw [List.getElem?_take_of_lt hjM]; exact hfj), rfl⟩
        have HE := hide (show fnF p { fm with name := fj.name } (decide (M = 0)) (decide (∃ g ∈ p.funcs.take M, g.name = ({ fm with name := fj.name } : Fc).name)) = some (0, 15) by
          refine fnF_nm ?_
          unfold nmF
          rw [if_neg (by rw [show ({ fm with name := fj.name } : Fc).name = fj.name from rfl, sj.1]; simp), if_neg (show ¬ fj.name.size > 32 by omega), decide_eq_true hex]
          rfl)
        have HD := hide ((unhide HO4).setF (x' := { xm with name := fj.name }) (f' := { fm with name := fj.name }) (vs := [.string fj.name]) (j := 0) rfl hxm hfm (Fr.refl _ wr) ⟨rfl, hFm.2.1, hFm.2.2.1, hFm.2.2.2.1, hFm.2.2.2.2⟩ (fun b hb => .inl hb) (fun b hb => ((unhide HO4).pt.each M M _ _ b hxm hxm).1 hb |>.1) hB4 (by simp) (fun i hi => by
            match i, hi with
            | 0, _ => rfl
            | 1, _ => rfl
            | 2, _ => rfl
            | 3, _ => rfl
            | 4, _ => rfl))
        have HS := hide (unhide HST (wr.setCell ⟨fg, fo + M * 5, none⟩ (.string fj.name)).drew M fm { fm with name := fj.name } _ 15 hfm (unhide HBL _ (Fr.drew ((Fr.refl (fun b => b = fg) wr).setCell ⟨fg, fo + M * 5, none⟩ (.inr rfl) (.string fj.name)))) (by simp only; omega) (by simp only; omega) (unhide HE) ((unhide HD).fr (S := fun _ => False) (Fr.drawnW _) (fun _ _ e => e)))
        have j0 : (0 : Int) ≤ (j : Int) := by omega
        have j1 : (j : Int) < (NF : Int) := by omega
        have m0 : (0 : Int) ≤ (M : Int) := by omega
        have m1 : (M : Int) < (NF : Int) := by omega
        have hMw' : IntKind.i64.wrap ((NF : Int) - 1) = (M : Int) := hMw
        clear HD HE hFm sj sm hex hfm hxm hfj hxj hnj hM
        go_wp2_with fail
        refine wp_region_held_drew (S := fun wx => Fr (fun b => b = fg) wr wx) (by kernel_rfl) (Fr.drawnW _) (fun hHeld => ?_)
        refine wpAnyH_take (i := 0) (oi := _) (v := .pointer (some ⟨w4.heap.size, 1, none⟩)) rfl (by kernel_rfl) (by kernel_rfl) (by kernel_rfl) (fun _ _ _ h => h) (Or.inl ⟨by rfl, (by intro w hSw; go_simp)⟩) (by assumption) ?_
        refine wpAnyH_take (i := 1) (oi := _) (v := .slice (some ⟨fg, fo, none⟩) NF fcc) rfl (by kernel_rfl) (by kernel_rfl) (by kernel_rfl) (fun _ _ _ h => h) (Or.inl ⟨by rfl, (by intro w hSw; have hs0 := Fr.heldIn hSw ql (fun e => hgq e.symm) q1; go_simp)⟩) (by assumption) ?_
        go_simp
        refine wpAnyH_take (i := 2) (oi := _) (v := .int .i64 (NF : Int)) rfl (by kernel_rfl) (by kernel_rfl) (by kernel_rfl) (fun _ _ _ h => h) (Or.inl ⟨by rfl, (by intro w hSw; go_simp)⟩) (by assumption) ?_
        refine wpAnyH_take (i := 3) (oi := _) (v := .int .i64 (M : Int)) rfl (by kernel_rfl) (by kernel_rfl) (by kernel_rfl) (fun _ _ _ h => h) (Or.inl ⟨by rfl, (by intro w hSw; have hNw : IntKind.i64.wrap ((NF : Int) - 1) = (M : Int) := hMw; go_simp)⟩) (by assumption) ?_
        go_simp
        refine wpAnyH_take (i := 4) (oi := _) (v := .pointer (some ⟨w4.heap.size, 1, none⟩)) rfl (by kernel_rfl) (by kernel_rfl) (by kernel_rfl) (fun _ _ _ h => h) (Or.inl ⟨by rfl, (by intro w hSw; go_simp)⟩) (by assumption) ?_
        refine wpAnyH_take (i := 5) (oi := _) (v := .slice (some ⟨fg, fo, none⟩) NF fcc) rfl (by kernel_rfl) (by kernel_rfl) (by kernel_rfl) (fun _ _ _ h => h) (Or.inl ⟨by rfl, (by intro w hSw; have hs0 := Fr.heldIn hSw ql (fun e => hgq e.symm) q1; go_simp)⟩) (by assumption) ?_
        go_simp
        refine wpAnyH_take (i := 6) (oi := _) (v := .int .i64 z) rfl (by kernel_rfl) (by kernel_rfl) (by kernel_rfl) (fun _ _ _ h => h) (Or.inl ⟨by rfl, (by intro w hSw; go_simp)⟩) (by assumption) ?_
        refine wpAnyH_take (i := 7) (oi := _) (v := .int .i64 (NF : Int)) rfl (by kernel_rfl) (by kernel_rfl) (by kernel_rfl) (fun _ _ _ h => h) (Or.inl ⟨by rfl, (by intro w hSw; go_simp)⟩) (by assumption) ?_
        refine wpAnyH_take (i := 8) (oi := _) (v := .int .i64 (M : Int)) rfl (by kernel_rfl) (by kernel_rfl) (by kernel_rfl) (fun _ _ _ h => h) (Or.inl ⟨by rfl, (by intro w hSw; have hNw : IntKind.i64.wrap ((NF : Int) - 1) = (M : Int) := hMw; go_simp)⟩) (by assumption) ?_
        go_simp
        refine wpAnyH_ready (rs := [9]) (by kernel_rfl) (by simp) ?_
        refine AllReadyH.cons (o := _) rfl (fun K hK => ?_) AllReadyH.nil
        go_simp
        refine (unhide HPM wr.drew).mono ?_
        rintro e wp ⟨rfl, ewp⟩
        have ewp' := ewp.symm
        subst ewp'
        refine hK.out _ _ (hHeld) (fun hHeld2 => ?_)
        clear hK K hHeld2
        refine wpAnyH_take (i := 10) (oi := _) (v := .pointer (some ⟨fg, fo + j * 5, none⟩)) rfl (by kernel_rfl) (by kernel_rfl) (by kernel_rfl) (fun _ _ _ h => h) (Or.inl ⟨by rfl, (by intro w hSw; go_simp)⟩) (by assumption) ?_
        go_simp
        refine wpAnyH_take (i := 11) (oi := _) (v := .pointer (some ⟨fg, fo + j * 5, none⟩)) rfl (by kernel_rfl) (by kernel_rfl) (by kernel_rfl) (fun _ _ _ h => h) (Or.inl ⟨by rfl, (by intro w hSw; go_simp)⟩) (by assumption) ?_
        go_simp
        refine wpAnyH_ready (rs := [12]) (by kernel_rfl) (by simp) ?_
        refine AllReadyH.cons (o := _) rfl (fun K hK => ?_) AllReadyH.nil
        go_simp
        refine hK.out _ _ (hHeld) (fun hHeld2 => ?_)
        clear hK K hHeld2
        refine wpAnyH_take (i := 13) (oi := _) (v := .pointer (some ⟨fg, fo + M * 5, none⟩)) rfl (by kernel_rfl) (by kernel_rfl) (by kernel_rfl) (fun _ _ _ h => h) (Or.inl ⟨by rfl, (by intro w hSw; go_simp)⟩) (by assumption) ?_
        go_simp
        refine wpAnyH_take (i := 14) (oi := _) (v := .pointer (some ⟨fg, fo + M * 5, none⟩)) rfl (by kernel_rfl) (by kernel_rfl) (by kernel_rfl) (fun _ _ _ h => h) (Or.inl ⟨by rfl, (by intro w hSw; go_simp)⟩) (by assumption) ?_
        go_simp
        refine wpAnyH_ready (rs := [15]) (by kernel_rfl) (by simp) ?_
        refine AllReadyH.cons (o := _) rfl (fun K hK => ?_) AllReadyH.nil
        go_simp
        refine hK.out _ _ (Fr.drew ((Fr.refl (fun b => b = fg) wr).setCell ⟨fg, fo + M * 5, none⟩ (.inr rfl) _)) (fun hHeld2 => ?_)
        clear hK K hHeld2
        refine wpAnyH_done (by kernel_rfl) ?_ _
        go_wp2_with fail
        refine (unhide HS).mono ?_
        rintro e w9 ⟨rfl, hw9⟩
        go_wp2_with fail
        go_ret
        exact ⟨rfl, hw9⟩
end
end Go.Proofs.YtfaafamdjcojlaaDoor
