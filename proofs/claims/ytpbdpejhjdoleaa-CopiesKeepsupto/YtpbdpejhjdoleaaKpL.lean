/-
  CopiesKeeps' law.
-/
import Derived.Test.YtpbdpejhjdoleaaPl
import Derived.Test.YtpbdpejhjdoleaaAgL
namespace Go.Proofs.Ytpbdpejhjdoleaa
open Go.RowKit
set_option linter.unusedVariables false
set_option linter.unusedSimpArgs false
theorem pre2 {A : Type} {e0 e1 : A} {l : List A} {n : Nat} {e : A} (h : [e0, e1][n]? = some e) : (e0 :: e1 :: l)[n]? = some e := by
  obtain _ | _ | n := n
  · exact h
  · exact h
  · simp at h
theorem plI_in (f : Op → Wr) (x : RIn) : plI (inF f x) = plI x := by
  unfold plI inF
  simp only [List.length_map, List.map_map]
  congr 1
  refine List.map_congr_left (fun s _ => ?_)
  simp [Function.comp, plS, shF]
theorem plP_app (l m : List RIn) : plP (l ++ m) = plP l ++ plP m := by unfold plP; rw [List.filter_append, List.map_append]
theorem plP_one (x : RIn) : plP [x] = if x.op = 1 then [] else [plI x] := by
  unfold plP
  by_cases h : x.op = 1 <;> simp [h]
theorem keep_fold : ∀ (l : List RIn) (s : (Op → Wr) × List RIn), plP (l.foldl stp s).2 = plP s.2 ++ plP l ∧ ∀ n, stF (l.foldl stp s).2 n = stF l (stF s.2 n)
  | [], s => by simp [plP, stF]
  | x :: l, s => by
    obtain ⟨i1, i2⟩ := keep_fold l (stp s x)
    have e : x :: l = [x] ++ l := rfl
    simp only [List.foldl_cons]
    rw [i1]
    by_cases hs : mvd (inF s.1 x) = some (rgO x.dst)
    · have h1 : x.op = 1 := (mvd_mem hs).2.2.1
      rw [stp_same hs] at i2 ⊢
      refine ⟨by rw [e, plP_app, plP_one, if_pos h1]; simp, fun n => ?_⟩
      rw [i2]
      have : ptB x.op = false := by rw [h1]; decide
      simp [stF, this]
    · rw [stp_list hs] at i2 ⊢
      refine ⟨by
        rw [e, plP_app, plP_app, plP_one, plP_one]
        have h2 : (inF s.1 x).op = x.op := rfl
        rw [h2, plI_in, List.append_assoc], fun n => ?_⟩
      rw [i2, stF_push]
      rfl
theorem plP_trn (l : List RIn) : plP (trn l).2 = plP l := by
  have := (keep_fold l (f0, [])).1
  simpa [trn, plP] using this
theorem stF_trn (l : List RIn) : stF (trn l).2 0 = stF l 0 := by
  have := (keep_fold l (f0, [])).2 0
  simpa [trn, stF] using this
theorem BksV.lone {W : World} {p : Nat} {L : List RIn} {v : Value} (h : W.heap[p]? = some (.cells #[.int .i64 0, v, .slice none 0 0] 43)) (hI : InsV Tr W L v) : BksV Tr W [⟨0, L, []⟩] (.slice (some ⟨p, 0, none⟩) 1 1) := by
  refine ⟨[⟨0, v, .slice none 0 0⟩], rfl, ⟨Rx.box1 (n := 1) h rfl (by unfold maxLen; omega), fun _ _ _ => trivial⟩, fun i u r hu hr => ?_⟩
  have hi := (List.getElem?_eq_some_iff.1 hu).1
  obtain rfl : i = 0 := by simp at hi; omega
  cases hu
  cases hr
  exact ⟨rfl, hI, Rd.nil _ _ _⟩
theorem plP_ok {l : List RIn} (h : l.length ≤ 1048576) (hx : ∀ x ∈ l, OkX x) : OkS ⟨0, plP l, []⟩ := by
  refine ⟨?_, by simp, fun x hx' => ?_⟩
  · show (plP l).length ≤ _
    unfold plP
    rw [List.length_map]
    exact Nat.le_trans (List.length_filter_le _ _) h
  · obtain ⟨y, hy, rfl⟩ := List.mem_map.1 hx'
    obtain ⟨a1, a2, a3⟩ := hx y (List.mem_filter.1 hy).1
    refine ⟨by simp [plI]; exact a1, by simp [plI]; exact a2, fun s hs => ?_⟩
    obtain ⟨q, hq, rfl⟩ := List.mem_map.1 hs
    simp only [plS, List.length_replicate]
    exact a3 q hq
set_option maxRecDepth 100000 in
set_option maxHeartbeats 25600000 in
theorem keepsLaw {w : World} {D : Nat → Prop} {fn regs : Int} {bl : List Bk} {v : Value} (h : BksV D w bl v) (hO : ∀ b ∈ bl, OkB b) (hN : bl.length ≤ 1048576) :
    Calls Try.prog 5 #[.agg #[.int .i64 fn, .int .i64 regs, v]] w fun e w' => e = .returned (.bool true) ∧ Below w.heap.size w w' := by
  obtain ⟨a, c, rfl, ha1, ha2⟩ := NV.shape h
  obtain ⟨L, hL⟩ : ∃ L, Hid (bl.length = L) := ⟨_, hide rfl⟩
  rw [unhide hL] at h hN ha1 ⊢
  have hlm : (bl.map bkT).length = L := by rw [List.length_map]; exact unhide hL
  have HLM := hide hlm
  have hb0 := hide (box1n w (.cells #[.int .i64 fn, .int .i64 regs, .slice a L c] 24))
  have HO := hide hO
  have HK0 := hide h
  have HC := hide (run_any (fn := fn) (regs := regs) (BksV.mv.bel h (unhide hb0)) hO (by rw [unhide hL]; exact hN))
  have HP0 := hide (((BX.nil w).add #[.int .i64 fn, .int .i64 regs, .slice a L c] 24).h 0 _ rfl)
  unfold maxLen at ha2
  clear h hO hlm
  go_enter Try.func5, Try.ntmps5
  go_wp2_with fail
  refine (unhide HC).mono ?_
  rintro e w1 hA
  obtain ⟨a1, c1, rfl, q1, q2, b1, k1⟩ := hA.bks
  rw [unhide HLM] at q1 k1 ⊢
  unfold maxLen at q2
  have HK1 := hide k1
  have HB1 := hide (bl_past (unhide hb0) b1)
  have H2 : Hid (BX w1 [(w.heap.size, #[.int .i64 fn, .int .i64 regs, .slice a L c], 24), (w1.heap.size, #[.int .i64 fn, .int .i64 regs, .slice a1 L c1], 24)] (w1.alloc (.cells #[.int .i64 fn, .int .i64 regs, .slice a1 L c1] 24))) := by
    have hp : w1.heap[w.heap.size]? = some (.cells #[.int .i64 fn, .int .i64 regs, .slice a L c] 24) := (b1.block w.heap.size (by simp)).trans (unhide HP0)
    refine ⟨fun i e he => ?_, box1n _ _⟩
    obtain _ | _ | i := i
    · cases he
      exact (Below.heap_alloc _ _ _ (Array.getElem?_eq_some_iff.1 hp).1).trans hp
    · cases he
      exact heap_alloc_new _ _
    · simp at he
  clear hA b1 k1 HC hb0 HP0
  go_wp2_with fail
  refine (works_any _).mono ?_
  rintro e w3 ⟨rfl, b3⟩
  have H0 := hide ((unhide H2).go b3)
  clear b3 H2
  have y0 := (unhide H0).ce 0 rfl 0
  have y1 := (unhide H0).ce 0 rfl 1
  have y2 := (unhide H0).ce 0 rfl 2
  have yl := (unhide H0).lt (i := 0) rfl
  have x0 := (unhide H0).ce 1 rfl 0
  have x1 := (unhide H0).ce 1 rfl 1
  have x2 := (unhide H0).ce 1 rfl 2
  have xl := (unhide H0).lt (i := 1) rfl
  simp at x0 x1 x2 xl y0 y1 y2 yl
  go_wp2_with fail
  clear x0 x1 x2 xl y0 y1 y2 yl
  go_loopg [4] L (fun gg t4 wr => ∃ (i : Nat), Hid (i + gg = L) ∧ t4 = .int .i64 (i : Int) ∧ Hid (BX w1 [(w.heap.size, #[.int .i64 fn, .int .i64 regs, .slice a L c], 24), (w1.heap.size, #[.int .i64 fn, .int .i64 regs, .slice a1 L c1], 24)] wr))
  case atStart => exact ⟨0, by unfold Hid; omega, rfl, H0⟩
  case round =>
    clear H0
    obtain ⟨i, hi, rfl, hC⟩ := hrel
    have y2 := (unhide hC).ce 0 rfl 2
    have yl := (unhide hC).lt (i := 0) rfl
    have x2 := (unhide hC).ce 1 rfl 2
    have xl := (unhide hC).lt (i := 1) rfl
    simp at x2 xl y2 yl
    by_cases hlt : i < L
    case neg =>
      have hiL : i = L := by have := unhide hi; omega
      have i1 : ¬ (i : Int) < (L : Int) := by omega
      have HF := hide (bl_past (unhide HB1) (unhide hC).b)
      clear hiL
      go_wp2_with fail
      go_ret
      exact ⟨rfl, unhide HF⟩
    obtain ⟨u, hu⟩ : ∃ p, bl[i]? = some p := ⟨_, List.getElem?_eq_getElem (by rw [unhide hL]; exact hlt)⟩
    have hbm : (bl.map bkT)[i]? = some (bkT u) := by rw [List.getElem?_map, hu]; rfl
    obtain ⟨ab, ao, _, r, e1, hab, _, ⟨f1, f2, f3⟩, cc⟩ := NV.at zBk (show NV enBk 3 BkP D w bl (.slice a L c) from unhide HK0) hu
    obtain ⟨bb, bo, _, q, e2, hbb, _, ⟨g1, g2, g3⟩, dc⟩ := NV.at zBk (show NV enBk 3 BkP Tr w1 (bl.map bkT) (.slice a1 L c1) from unhide HK1) hbm
    rw [unhide hL] at e1
    rw [unhide HLM] at e2
    cases e1
    cases e2
    obtain ⟨rpc, riv, rnv⟩ := r
    obtain ⟨qpc, qiv, qnv⟩ := q
    simp only at f1 f2 f3 g1 g2 g3
    unfold bkT at g1 g2 g3
    dsimp only at g1 g2 g3
    subst f1
    subst g1
    obtain ⟨ia, ic, ex1, hx1, hx2⟩ := NV.shape f2
    obtain ⟨ja, jc, ex2, hy1, hy2⟩ := NV.shape g2
    obtain ⟨na, nc, ex3, hz1, hz2⟩ := f3.1.shape
    obtain ⟨ma, mc, ex4, ht1, ht2⟩ := g3.1.shape
    subst ex1 ex2 ex3 ex4
    have HOU := hide (unhide HO u (List.mem_of_getElem? hu))
    have HOT : Hid (OkB (bkT u)) := (unhide HOU).trn
    obtain ⟨IL, hIL⟩ : ∃ z, Hid (u.ins.length = z) := ⟨_, hide rfl⟩
    obtain ⟨JL, hJL⟩ : ∃ z, Hid ((trn u.ins).2.length = z) := ⟨_, hide rfl⟩
    obtain ⟨NL, hNL⟩ : ∃ z, Hid (u.nx.length = z) := ⟨_, hide rfl⟩
    have hJI : JL ≤ IL := by rw [← unhide hJL, ← unhide hIL]; exact (trn_ok (unhide HOU).1).2.2
    have HNX : Hid (∀ W, Below w1.heap.size w1 W → Calls Try.prog 16 #[.slice ma NL mc, .slice na NL nc] W fun e w' => e = .returned (.bool true) ∧ Below W.heap.size W w') := fun W hW => by
      rw [← unhide hNL]
      exact sameI_yes (g3.1.below hW (Nat.le_refl _)) (f3.1.below (bl_past (unhide HB1) hW) (Nat.le_refl _)) (by have := (unhide HOU).2.2.1; omega)
    have HIA : Hid (∀ W, Below w1.heap.size w1 W → InsV D W u.ins (.slice ia IL ic)) := fun W hW => by rw [← unhide hIL]; exact InsV.mv.bel f2 (bl_past (unhide HB1) hW)
    have HIB : Hid (∀ W, Below w1.heap.size w1 W → InsV Tr W (trn u.ins).2 (.slice ja JL jc)) := fun W hW => by rw [← unhide hJL]; exact InsV.mv.bel g2 hW
    have HST1 : Hid (∀ W, Below w1.heap.size w1 W → Calls Try.prog 17 #[.agg #[.int .i64 u.pc, .slice ia IL ic, .slice na NL nc]] W fun e w' => e = .returned (.int .i64 (stF u.ins 0)) ∧ Below W.heap.size W w') := fun W hW =>
      steps_any (b := u) (r := ⟨u.pc, .slice ia IL ic, .slice na NL nc⟩) ⟨rfl, unhide HIA W hW, by rw [← unhide hNL]; exact NxV.mv.bel f3 (bl_past (unhide HB1) hW)⟩
    have HST2 : Hid (∀ W, Below w1.heap.size w1 W → Calls Try.prog 17 #[.agg #[.int .i64 u.pc, .slice ja JL jc, .slice ma NL mc]] W fun e w' => e = .returned (.int .i64 (stF u.ins 0)) ∧ Below W.heap.size W w') := fun W hW => by
      rw [← stF_trn]
      exact steps_any (b := ⟨u.pc, (trn u.ins).2, u.nx⟩) (r := ⟨u.pc, .slice ja JL jc, .slice ma NL mc⟩) ⟨rfl, unhide HIB W hW, by rw [← unhide hNL]; exact NxV.mv.bel g3 hW⟩
    obtain ⟨st, hst⟩ : ∃ z, Hid (stF u.ins 0 = z) := ⟨_, hide rfl⟩
    rw [unhide hst] at HST1 HST2
    obtain ⟨PL, hPL⟩ : ∃ z, Hid ((plP u.ins).length = z) := ⟨_, hide rfl⟩
    have HPA : Hid (∀ W, Below w1.heap.size w1 W → Calls Try.prog 15 #[.slice ia IL ic] W fun e w' => ∃ pa pc, e = .returned (.slice pa PL pc) ∧ Below W.heap.size W w' ∧ InsV Tr w' (plP u.ins) (.slice pa PL pc)) := fun W hW =>
      (plain_any (unhide HIA W hW) (unhide HOU).2.1 (unhide HOU).2.2.2).mono fun e w' ⟨v', e1, e2, e3⟩ => by
        obtain ⟨pa, pc, ev, _, _⟩ := NV.shape e3
        rw [unhide hPL] at ev
        subst ev
        exact ⟨pa, pc, e1, e2, e3⟩
    have HPB : Hid (∀ W, Below w1.heap.size w1 W → Calls Try.prog 15 #[.slice ja JL jc] W fun e w' => ∃ pa pc, e = .returned (.slice pa PL pc) ∧ Below W.heap.size W w' ∧ InsV Tr w' (plP u.ins) (.slice pa PL pc)) := fun W hW =>
      (plain_any (unhide HIB W hW) (by have := (unhide HOT).2.1; exact this) (by have := (unhide HOT).2.2.2; exact this)).mono fun e w' ⟨v', e1, e2, e3⟩ => by
        rw [plP_trn] at e3
        obtain ⟨pa, pc, ev, _, _⟩ := NV.shape e3
        rw [unhide hPL] at ev
        subst ev
        exact ⟨pa, pc, e1, e2, e3⟩
    have HBw : Hid (Below w.heap.size w wr) := bl_past (unhide HB1) (unhide hC).b
    have A0 := ((unhide HBw).cell (p := ⟨ab, ao + i * 3 + 0, none⟩) hab).trans (cc 0 _ rfl)
    have A1 := ((unhide HBw).cell (p := ⟨ab, ao + i * 3 + 1, none⟩) hab).trans (cc 1 _ rfl)
    have A2 := ((unhide HBw).cell (p := ⟨ab, ao + i * 3 + 2, none⟩) hab).trans (cc 2 _ rfl)
    have B0 := ((unhide hC).b.cell (p := ⟨bb, bo + i * 3 + 0, none⟩) hbb).trans (dc 0 _ rfl)
    have B1 := ((unhide hC).b.cell (p := ⟨bb, bo + i * 3 + 1, none⟩) hbb).trans (dc 1 _ rfl)
    have B2 := ((unhide hC).b.cell (p := ⟨bb, bo + i * 3 + 2, none⟩) hbb).trans (dc 2 _ rfl)
    simp only [Nat.add_zero] at A0 B0
    rw [unhide hIL] at A1 hx1
    rw [unhide hJL] at B1 hy1
    rw [unhide hNL] at A2 B2 hz1 ht1
    unfold maxLen at hx2 hy2 hz2 ht2
    have l1 := Nat.lt_of_lt_of_le hab (unhide HBw).size
    have l2 := Nat.lt_of_lt_of_le hbb (unhide hC).b.size
    have l3 : bb < wr.heap.size + 1 := by omega
    have l4 : w1.heap.size < wr.heap.size + 1 := by omega
    have i0 : (0 : Int) ≤ (i : Int) := by omega
    have i1 : (i : Int) < (L : Int) := by omega
    have hIN : IL ≤ 1048576 := by have := (unhide HOU).2.1; have := unhide hIL; omega
    have HOS : Hid (OkS ⟨0, plP u.ins, []⟩) := plP_ok (unhide HOU).2.1 (unhide HOU).2.2.2
    obtain ⟨P5, hP⟩ : ∃ z, Hid (wr.heap.size = z) := ⟨_, hide rfl⟩
    have H6 : Hid (BX w1 [(w.heap.size, #[.int .i64 fn, .int .i64 regs, .slice (some ⟨ab, ao, none⟩) L c], 24), (w1.heap.size, #[.int .i64 fn, .int .i64 regs, .slice (some ⟨bb, bo, none⟩) L c1], 24), (P5, #[.int .i64 u.pc, .slice ia IL ic, .slice na NL nc], 43), (P5 + 1, #[.int .i64 u.pc, .slice ja JL jc, .slice ma NL mc], 43)] ((wr.alloc (.cells #[.int .i64 u.pc, .slice ia IL ic, .slice na NL nc] 43)).alloc (.cells #[.int .i64 u.pc, .slice ja JL jc, .slice ma NL mc] 43))) := by
      have q := ((unhide hC).add #[.int .i64 u.pc, .slice ia IL ic, .slice na NL nc] 43).add #[.int .i64 u.pc, .slice ja JL jc, .slice ma NL mc] 43
      simp only [World.size_alloc, List.cons_append, List.nil_append] at q
      rw [unhide hP] at q
      exact q
    clear cc dc hu hbm f2 f3 g2 g3 HBw
    go_wp2_with fail
    refine (unhide HPA _ (unhide H6).b).mono ?_
    rintro e w7 ⟨pa, pc, rfl, b7, hpi⟩
    have HPI := hide hpi
    obtain ⟨Q1, hQ1⟩ : ∃ z, Hid (w7.heap.size = z) := ⟨_, hide rfl⟩
    have H6b := hide ((unhide H6).go b7)
    have H7 := hide (((unhide H6b).add #[.int .i64 0, .slice pa PL pc, .slice none 0 0] 43).add (#[.int .i64 0, .int .i64 0, .slice (some ⟨w7.heap.size, 0, none⟩) 1 1]) 24)
    have HPI7 := hide (InsV.mv.bel hpi (bl_two w7 (.cells #[.int .i64 0, .slice pa PL pc, .slice none 0 0] 43) (.cells #[.int .i64 0, .int .i64 0, .slice (some ⟨w7.heap.size, 0, none⟩) 1 1] 24)))
    simp only [World.size_alloc, List.cons_append, List.nil_append] at H7
    rw [unhide hQ1] at H7 HPI7
    have z1 := (unhide H6b).ce 3 rfl 1
    have zl := (unhide H6b).lt (i := 3) rfl
    simp at z1 zl
    have zl2 : P5 + 1 < w7.heap.size + 1 := by omega
    clear A0 A1 A2 B0 B1 B2 l1 l2 l3 l4 x2 xl y2 yl b7 hpi HPI hC HPA H6
    rw [unhide hP]
    go_wp2_with fail
    clear z1 zl zl2
    rw [unhide hQ1]
    refine (unhide HPB _ (unhide H7).b).mono ?_
    rintro e w8 ⟨qa, qc, rfl, b8, hqi⟩
    obtain ⟨Q2, hQ2⟩ : ∃ z, Hid (w8.heap.size = z) := ⟨_, hide rfl⟩
    have H8b := hide ((unhide H7).go b8)
    have HPI8 := hide (InsV.mv.bel (unhide HPI7) b8)
    have H8 := hide (((unhide H8b).add #[.int .i64 0, .slice qa PL qc, .slice none 0 0] 43).add (#[.int .i64 0, .int .i64 0, .slice (some ⟨w8.heap.size, 0, none⟩) 1 1]) 24)
    have hb9 := bl_two w8 (.cells #[.int .i64 0, .slice qa PL qc, .slice none 0 0] 43) (.cells #[.int .i64 0, .int .i64 0, .slice (some ⟨w8.heap.size, 0, none⟩) 1 1] 24)
    have HPI9 := hide (InsV.mv.bel (unhide HPI8) hb9)
    have HQI9 := hide (InsV.mv.bel hqi hb9)
    simp only [World.size_alloc, List.cons_append, List.nil_append] at H8
    rw [unhide hQ2] at H8 HPI9 HQI9
    clear b8 hqi hb9 H7 H8b HPI8 HPI7 HPB H6b
    go_wp2_with fail
    rw [unhide hQ2]
    obtain ⟨Y, hY⟩ : ∃ W, Hid (((w8.alloc (.cells #[.int .i64 0, .slice qa PL qc, .slice none 0 0] 43)).alloc (.cells #[.int .i64 0, .int .i64 0, .slice (some ⟨Q2, 0, none⟩) 1 1] 24)).drew = W) := ⟨_, hide rfl⟩
    have hdr : Below ((w8.alloc (.cells #[.int .i64 0, .slice qa PL qc, .slice none 0 0] 43)).alloc (.cells #[.int .i64 0, .int .i64 0, .slice (some ⟨Q2, 0, none⟩) 1 1] 24)).heap.size ((w8.alloc (.cells #[.int .i64 0, .slice qa PL qc, .slice none 0 0] 43)).alloc (.cells #[.int .i64 0, .int .i64 0, .slice (some ⟨Q2, 0, none⟩) 1 1] 24)) Y := by rw [← unhide hY]; exact ⟨rfl, rfl, rfl, Nat.le_refl _, fun _ _ => rfl⟩
    have HYB : Hid (BX w1 [(w.heap.size, #[.int .i64 fn, .int .i64 regs, .slice (some ⟨ab, ao, none⟩) L c], 24), (w1.heap.size, #[.int .i64 fn, .int .i64 regs, .slice (some ⟨bb, bo, none⟩) L c1], 24), (P5, #[.int .i64 u.pc, .slice ia IL ic, .slice na NL nc], 43), (P5 + 1, #[.int .i64 u.pc, .slice ja JL jc, .slice ma NL mc], 43), (Q1, #[.int .i64 0, .slice pa PL pc, .slice none 0 0], 43), (Q1 + 1, #[.int .i64 0, .int .i64 0, .slice (some ⟨Q1, 0, none⟩) 1 1], 24), (Q2, #[.int .i64 0, .slice qa PL qc, .slice none 0 0], 43), (Q2 + 1, #[.int .i64 0, .int .i64 0, .slice (some ⟨Q2, 0, none⟩) 1 1], 24)] Y) := (unhide H8).go hdr
    have HPIY := hide (InsV.mv.bel (unhide HPI9) hdr)
    have HQIY := hide (InsV.mv.bel (unhide HQI9) hdr)
    have HYW : Hid (Below w1.heap.size w1 Y) := (unhide HYB).b
    have HCE : Hid (∀ W, Below Y.heap.size Y W → W.cell? ⟨P5 + 1, 0, none⟩ = some (.int .i64 u.pc) ∧ W.cell? ⟨P5 + 1, 1, none⟩ = some (.slice ja JL jc) ∧ W.cell? ⟨P5 + 1, 2, none⟩ = some (.slice ma NL mc) ∧ W.cell? ⟨P5, 0, none⟩ = some (.int .i64 u.pc) ∧ W.cell? ⟨P5, 1, none⟩ = some (.slice ia IL ic) ∧ W.cell? ⟨P5, 2, none⟩ = some (.slice na NL nc) ∧ W.cell? ⟨Q1 + 1, 0, none⟩ = some (.int .i64 0) ∧ W.cell? ⟨Q1 + 1, 1, none⟩ = some (.int .i64 0) ∧ W.cell? ⟨Q1 + 1, 2, none⟩ = some (.slice (some ⟨Q1, 0, none⟩) 1 1) ∧ W.cell? ⟨Q2 + 1, 0, none⟩ = some (.int .i64 0) ∧ W.cell? ⟨Q2 + 1, 1, none⟩ = some (.int .i64 0) ∧ W.cell? ⟨Q2 + 1, 2, none⟩ = some (.slice (some ⟨Q2, 0, none⟩) 1 1)) := fun W hW => by
      have z := (unhide HYB).go hW
      exact ⟨z.ce 3 rfl 0, z.ce 3 rfl 1, z.ce 3 rfl 2, z.ce 2 rfl 0, z.ce 2 rfl 1, z.ce 2 rfl 2, z.ce 5 rfl 0, z.ce 5 rfl 1, z.ce 5 rfl 2, z.ce 7 rfl 0, z.ce 7 rfl 1, z.ce 7 rfl 2⟩
    have HSR : Hid (∀ W, Below Y.heap.size Y W → Calls Try.prog 11 #[.agg #[.int .i64 0, .int .i64 0, .slice (some ⟨Q1, 0, none⟩) 1 1], .agg #[.int .i64 0, .int .i64 0, .slice (some ⟨Q2, 0, none⟩) 1 1]] W fun e w' => e = .returned (.bool true) ∧ Below W.heap.size W w') := fun W hW => by
      have z := (unhide HYB).go hW
      exact sameR_yes (BksV.lone (z.h 4 _ rfl) (InsV.mv.bel (unhide HPIY) hW)) (BksV.lone (z.h 6 _ rfl) (InsV.mv.bel (unhide HQIY) hW)) (by simp) (fun b hb => by rw [List.mem_singleton] at hb; subst hb; exact unhide HOS)
    have HSY : Hid (Below Y.heap.size Y Y) := Below.refl _ _
    refine wp_region_held_drew (S := fun W => Below Y.heap.size Y W) (by kernel_rfl) (by rw [unhide hY]; exact Below.refl _ _) (fun hHeld => ?_)
    clear hHeld
    rw [unhide hY]
    clear hY hdr HPI9 HQI9 HPIY HQIY H8
    have hgt : ¬ IL < JL := by omega
    refine wpAnyH_take (i := 0) (oi := _) (v := .pointer (some ⟨P5 + 1, 0, none⟩)) rfl (by kernel_rfl) (by kernel_rfl) (by kernel_rfl) (fun _ _ _ h => h) (Or.inl ⟨by rfl, (by intro w' hSw; obtain ⟨s0, s1, s2, s3, s4, s5, s6, s7, s8, s9, s10, s11⟩ := unhide HCE w' hSw; go_simp)⟩) (unhide HSY) ?_
    go_simp
    refine wpAnyH_take (i := 1) (oi := _) (v := .int .i64 u.pc) rfl (by kernel_rfl) (by kernel_rfl) (by kernel_rfl) (fun _ _ _ h => h) (Or.inl ⟨by rfl, (by intro w' hSw; obtain ⟨s0, s1, s2, s3, s4, s5, s6, s7, s8, s9, s10, s11⟩ := unhide HCE w' hSw; go_simp)⟩) (unhide HSY) ?_
    go_simp
    refine wpAnyH_take (i := 2) (oi := _) (v := .pointer (some ⟨P5, 0, none⟩)) rfl (by kernel_rfl) (by kernel_rfl) (by kernel_rfl) (fun _ _ _ h => h) (Or.inl ⟨by rfl, (by intro w' hSw; obtain ⟨s0, s1, s2, s3, s4, s5, s6, s7, s8, s9, s10, s11⟩ := unhide HCE w' hSw; go_simp)⟩) (unhide HSY) ?_
    go_simp
    refine wpAnyH_take (i := 3) (oi := _) (v := .int .i64 u.pc) rfl (by kernel_rfl) (by kernel_rfl) (by kernel_rfl) (fun _ _ _ h => h) (Or.inl ⟨by rfl, (by intro w' hSw; obtain ⟨s0, s1, s2, s3, s4, s5, s6, s7, s8, s9, s10, s11⟩ := unhide HCE w' hSw; go_simp)⟩) (unhide HSY) ?_
    go_simp
    refine wpAnyH_take (i := 4) (oi := _) (v := .bool false) rfl (by kernel_rfl) (by kernel_rfl) (by kernel_rfl) (fun _ _ _ h => h) (Or.inl ⟨by rfl, (by intro w' hSw; obtain ⟨s0, s1, s2, s3, s4, s5, s6, s7, s8, s9, s10, s11⟩ := unhide HCE w' hSw; go_simp)⟩) (unhide HSY) ?_
    go_simp
    refine wpAnyH_take (i := 5) (oi := _) (v := .bool false) rfl (by kernel_rfl) (by kernel_rfl) (by kernel_rfl) (fun _ _ _ h => h) (Or.inl ⟨by rfl, (by intro w' hSw; obtain ⟨s0, s1, s2, s3, s4, s5, s6, s7, s8, s9, s10, s11⟩ := unhide HCE w' hSw; go_simp)⟩) (unhide HSY) ?_
    go_simp
    refine wpAnyH_take (i := 6) (oi := _) (v := .pointer (some ⟨P5 + 1, 2, none⟩)) rfl (by kernel_rfl) (by kernel_rfl) (by kernel_rfl) (fun _ _ _ h => h) (Or.inl ⟨by rfl, (by intro w' hSw; obtain ⟨s0, s1, s2, s3, s4, s5, s6, s7, s8, s9, s10, s11⟩ := unhide HCE w' hSw; go_simp)⟩) (unhide HSY) ?_
    go_simp
    refine wpAnyH_take (i := 7) (oi := _) (v := .slice ma NL mc) rfl (by kernel_rfl) (by kernel_rfl) (by kernel_rfl) (fun _ _ _ h => h) (Or.inl ⟨by rfl, (by intro w' hSw; obtain ⟨s0, s1, s2, s3, s4, s5, s6, s7, s8, s9, s10, s11⟩ := unhide HCE w' hSw; go_simp)⟩) (unhide HSY) ?_
    go_simp
    refine wpAnyH_take (i := 8) (oi := _) (v := .pointer (some ⟨P5, 2, none⟩)) rfl (by kernel_rfl) (by kernel_rfl) (by kernel_rfl) (fun _ _ _ h => h) (Or.inl ⟨by rfl, (by intro w' hSw; obtain ⟨s0, s1, s2, s3, s4, s5, s6, s7, s8, s9, s10, s11⟩ := unhide HCE w' hSw; go_simp)⟩) (unhide HSY) ?_
    go_simp
    refine wpAnyH_take (i := 9) (oi := _) (v := .slice na NL nc) rfl (by kernel_rfl) (by kernel_rfl) (by kernel_rfl) (fun _ _ _ h => h) (Or.inl ⟨by rfl, (by intro w' hSw; obtain ⟨s0, s1, s2, s3, s4, s5, s6, s7, s8, s9, s10, s11⟩ := unhide HCE w' hSw; go_simp)⟩) (unhide HSY) ?_
    go_simp
    have HC := hide (unhide HNX Y (unhide HYW))
    refine wpAnyH_ready (rs := [10]) (by kernel_rfl) (by simp) ?_
    refine AllReadyH.cons (o := _) rfl (fun K hK => ?_) AllReadyH.nil
    go_simp
    refine (unhide HC).mono ?_
    rintro e Y1 ⟨rfl, b2⟩
    have HSY1 : Hid (Below Y.heap.size Y Y1) := (unhide HSY).trans (b2.mono (unhide HSY).size)
    clear b2 HC
    refine hK.out _ _ (unhide HSY1) (fun _ => ?_)
    clear hK K
    go_simp
    refine wpAnyH_take (i := 11) (oi := _) (v := .bool false) rfl (by kernel_rfl) (by kernel_rfl) (by kernel_rfl) (fun _ _ _ h => h) (Or.inl ⟨by rfl, (by intro w' hSw; obtain ⟨s0, s1, s2, s3, s4, s5, s6, s7, s8, s9, s10, s11⟩ := unhide HCE w' hSw; go_simp)⟩) (unhide HSY1) ?_
    go_simp
    refine wpAnyH_take (i := 12) (oi := _) (v := .bool false) rfl (by kernel_rfl) (by kernel_rfl) (by kernel_rfl) (fun _ _ _ h => h) (Or.inl ⟨by rfl, (by intro w' hSw; obtain ⟨s0, s1, s2, s3, s4, s5, s6, s7, s8, s9, s10, s11⟩ := unhide HCE w' hSw; go_simp)⟩) (unhide HSY1) ?_
    go_simp
    refine wpAnyH_take (i := 13) (oi := _) (v := .bool false) rfl (by kernel_rfl) (by kernel_rfl) (by kernel_rfl) (fun _ _ _ h => h) (Or.inl ⟨by rfl, (by intro w' hSw; obtain ⟨s0, s1, s2, s3, s4, s5, s6, s7, s8, s9, s10, s11⟩ := unhide HCE w' hSw; go_simp)⟩) (unhide HSY1) ?_
    go_simp
    refine wpAnyH_take (i := 14) (oi := _) (v := .agg #[.int .i64 0, .int .i64 0, .slice (some ⟨Q1, 0, none⟩) 1 1]) rfl (by kernel_rfl) (by kernel_rfl) (by kernel_rfl) (fun _ _ _ h => h) (Or.inl ⟨by rfl, (by intro w' hSw; obtain ⟨s0, s1, s2, s3, s4, s5, s6, s7, s8, s9, s10, s11⟩ := unhide HCE w' hSw; go_simp)⟩) (unhide HSY1) ?_
    go_simp
    refine wpAnyH_take (i := 15) (oi := _) (v := .agg #[.int .i64 0, .int .i64 0, .slice (some ⟨Q2, 0, none⟩) 1 1]) rfl (by kernel_rfl) (by kernel_rfl) (by kernel_rfl) (fun _ _ _ h => h) (Or.inl ⟨by rfl, (by intro w' hSw; obtain ⟨s0, s1, s2, s3, s4, s5, s6, s7, s8, s9, s10, s11⟩ := unhide HCE w' hSw; go_simp)⟩) (unhide HSY1) ?_
    go_simp
    have HC := hide (unhide HSR Y1 (unhide HSY1))
    refine wpAnyH_ready (rs := [16]) (by kernel_rfl) (by simp) ?_
    refine AllReadyH.cons (o := _) rfl (fun K hK => ?_) AllReadyH.nil
    go_simp
    refine (unhide HC).mono ?_
    rintro e Y2 ⟨rfl, b2⟩
    have HSY2 : Hid (Below Y.heap.size Y Y2) := (unhide HSY1).trans (b2.mono (unhide HSY1).size)
    clear b2 HC
    refine hK.out _ _ (unhide HSY2) (fun _ => ?_)
    clear hK K
    go_simp
    refine wpAnyH_take (i := 17) (oi := _) (v := .bool false) rfl (by kernel_rfl) (by kernel_rfl) (by kernel_rfl) (fun _ _ _ h => h) (Or.inl ⟨by rfl, (by intro w' hSw; obtain ⟨s0, s1, s2, s3, s4, s5, s6, s7, s8, s9, s10, s11⟩ := unhide HCE w' hSw; go_simp)⟩) (unhide HSY2) ?_
    go_simp
    refine wpAnyH_take (i := 18) (oi := _) (v := .bool false) rfl (by kernel_rfl) (by kernel_rfl) (by kernel_rfl) (fun _ _ _ h => h) (Or.inl ⟨by rfl, (by intro w' hSw; obtain ⟨s0, s1, s2, s3, s4, s5, s6, s7, s8, s9, s10, s11⟩ := unhide HCE w' hSw; go_simp)⟩) (unhide HSY2) ?_
    go_simp
    refine wpAnyH_take (i := 19) (oi := _) (v := .bool false) rfl (by kernel_rfl) (by kernel_rfl) (by kernel_rfl) (fun _ _ _ h => h) (Or.inl ⟨by rfl, (by intro w' hSw; obtain ⟨s0, s1, s2, s3, s4, s5, s6, s7, s8, s9, s10, s11⟩ := unhide HCE w' hSw; go_simp)⟩) (unhide HSY2) ?_
    go_simp
    refine wpAnyH_take (i := 20) (oi := _) (v := .agg #[.int .i64 u.pc, .slice ia IL ic, .slice na NL nc]) rfl (by kernel_rfl) (by kernel_rfl) (by kernel_rfl) (fun _ _ _ h => h) (Or.inl ⟨by rfl, (by intro w' hSw; obtain ⟨s0, s1, s2, s3, s4, s5, s6, s7, s8, s9, s10, s11⟩ := unhide HCE w' hSw; go_simp)⟩) (unhide HSY2) ?_
    go_simp
    refine wpAnyH_take (i := 22) (oi := _) (v := .agg #[.int .i64 u.pc, .slice ja JL jc, .slice ma NL mc]) rfl (by kernel_rfl) (by kernel_rfl) (by kernel_rfl) (fun _ _ _ h => h) (Or.inl ⟨by rfl, (by intro w' hSw; obtain ⟨s0, s1, s2, s3, s4, s5, s6, s7, s8, s9, s10, s11⟩ := unhide HCE w' hSw; go_simp)⟩) (unhide HSY2) ?_
    go_simp
    have HC := hide (unhide HST1 Y2 (bl_past (unhide HYW) (unhide HSY2)))
    refine wpAnyH_ready (rs := [21]) (by kernel_rfl) (by simp) ?_
    refine AllReadyH.cons (o := _) rfl (fun K hK => ?_) AllReadyH.nil
    go_simp
    refine (unhide HC).mono ?_
    rintro e Y3 ⟨rfl, b2⟩
    have HSY3 : Hid (Below Y.heap.size Y Y3) := (unhide HSY2).trans (b2.mono (unhide HSY2).size)
    clear b2 HC
    refine hK.out _ _ (unhide HSY3) (fun _ => ?_)
    clear hK K
    go_simp
    have HC := hide (unhide HST2 Y3 (bl_past (unhide HYW) (unhide HSY3)))
    refine wpAnyH_ready (rs := [23]) (by kernel_rfl) (by simp) ?_
    refine AllReadyH.cons (o := _) rfl (fun K hK => ?_) AllReadyH.nil
    go_simp
    refine (unhide HC).mono ?_
    rintro e Y4 ⟨rfl, b2⟩
    have HSY4 : Hid (Below Y.heap.size Y Y4) := (unhide HSY3).trans (b2.mono (unhide HSY3).size)
    clear b2 HC
    refine hK.out _ _ (unhide HSY4) (fun _ => ?_)
    clear hK K
    go_simp
    refine wpAnyH_take (i := 24) (oi := _) (v := .bool false) rfl (by kernel_rfl) (by kernel_rfl) (by kernel_rfl) (fun _ _ _ h => h) (Or.inl ⟨by rfl, (by intro w' hSw; obtain ⟨s0, s1, s2, s3, s4, s5, s6, s7, s8, s9, s10, s11⟩ := unhide HCE w' hSw; go_simp)⟩) (unhide HSY4) ?_
    go_simp
    refine wpAnyH_take (i := 25) (oi := _) (v := .bool false) rfl (by kernel_rfl) (by kernel_rfl) (by kernel_rfl) (fun _ _ _ h => h) (Or.inl ⟨by rfl, (by intro w' hSw; obtain ⟨s0, s1, s2, s3, s4, s5, s6, s7, s8, s9, s10, s11⟩ := unhide HCE w' hSw; go_simp)⟩) (unhide HSY4) ?_
    go_simp
    refine wpAnyH_take (i := 26) (oi := _) (v := .bool false) rfl (by kernel_rfl) (by kernel_rfl) (by kernel_rfl) (fun _ _ _ h => h) (Or.inl ⟨by rfl, (by intro w' hSw; obtain ⟨s0, s1, s2, s3, s4, s5, s6, s7, s8, s9, s10, s11⟩ := unhide HCE w' hSw; go_simp)⟩) (unhide HSY4) ?_
    go_simp
    refine wpAnyH_take (i := 27) (oi := _) (v := .pointer (some ⟨P5 + 1, 1, none⟩)) rfl (by kernel_rfl) (by kernel_rfl) (by kernel_rfl) (fun _ _ _ h => h) (Or.inl ⟨by rfl, (by intro w' hSw; obtain ⟨s0, s1, s2, s3, s4, s5, s6, s7, s8, s9, s10, s11⟩ := unhide HCE w' hSw; go_simp)⟩) (unhide HSY4) ?_
    go_simp
    refine wpAnyH_take (i := 28) (oi := _) (v := .slice ja JL jc) rfl (by kernel_rfl) (by kernel_rfl) (by kernel_rfl) (fun _ _ _ h => h) (Or.inl ⟨by rfl, (by intro w' hSw; obtain ⟨s0, s1, s2, s3, s4, s5, s6, s7, s8, s9, s10, s11⟩ := unhide HCE w' hSw; go_simp)⟩) (unhide HSY4) ?_
    go_simp
    refine wpAnyH_take (i := 29) (oi := _) (v := .int .i64 (JL : Int)) rfl (by kernel_rfl) (by kernel_rfl) (by kernel_rfl) (fun _ _ _ h => h) (Or.inl ⟨by rfl, (by intro w' hSw; obtain ⟨s0, s1, s2, s3, s4, s5, s6, s7, s8, s9, s10, s11⟩ := unhide HCE w' hSw; go_simp)⟩) (unhide HSY4) ?_
    go_simp
    refine wpAnyH_take (i := 30) (oi := _) (v := .pointer (some ⟨P5, 1, none⟩)) rfl (by kernel_rfl) (by kernel_rfl) (by kernel_rfl) (fun _ _ _ h => h) (Or.inl ⟨by rfl, (by intro w' hSw; obtain ⟨s0, s1, s2, s3, s4, s5, s6, s7, s8, s9, s10, s11⟩ := unhide HCE w' hSw; go_simp)⟩) (unhide HSY4) ?_
    go_simp
    refine wpAnyH_take (i := 31) (oi := _) (v := .slice ia IL ic) rfl (by kernel_rfl) (by kernel_rfl) (by kernel_rfl) (fun _ _ _ h => h) (Or.inl ⟨by rfl, (by intro w' hSw; obtain ⟨s0, s1, s2, s3, s4, s5, s6, s7, s8, s9, s10, s11⟩ := unhide HCE w' hSw; go_simp)⟩) (unhide HSY4) ?_
    go_simp
    refine wpAnyH_take (i := 32) (oi := _) (v := .int .i64 (IL : Int)) rfl (by kernel_rfl) (by kernel_rfl) (by kernel_rfl) (fun _ _ _ h => h) (Or.inl ⟨by rfl, (by intro w' hSw; obtain ⟨s0, s1, s2, s3, s4, s5, s6, s7, s8, s9, s10, s11⟩ := unhide HCE w' hSw; go_simp)⟩) (unhide HSY4) ?_
    go_simp
    refine wpAnyH_take (i := 33) (oi := _) (v := .bool false) rfl (by kernel_rfl) (by kernel_rfl) (by kernel_rfl) (fun _ _ _ h => h) (Or.inl ⟨by rfl, (by intro w' hSw; obtain ⟨s0, s1, s2, s3, s4, s5, s6, s7, s8, s9, s10, s11⟩ := unhide HCE w' hSw; go_simp)⟩) (unhide HSY4) ?_
    go_simp
    refine wpAnyH_take (i := 34) (oi := _) (v := .bool false) rfl (by kernel_rfl) (by kernel_rfl) (by kernel_rfl) (fun _ _ _ h => h) (Or.inl ⟨by rfl, (by intro w' hSw; obtain ⟨s0, s1, s2, s3, s4, s5, s6, s7, s8, s9, s10, s11⟩ := unhide HCE w' hSw; go_simp)⟩) (unhide HSY4) ?_
    go_simp
    refine wpAnyH_done (by kernel_rfl) ?_ _
    have HEND : Hid (BX w1 [(w.heap.size, #[.int .i64 fn, .int .i64 regs, .slice (some ⟨ab, ao, none⟩) L c], 24), (w1.heap.size, #[.int .i64 fn, .int .i64 regs, .slice (some ⟨bb, bo, none⟩) L c1], 24)] Y4) := ⟨fun n e he => ((unhide HYB).go (unhide HSY4)).h n e (pre2 he), ((unhide HYB).go (unhide HSY4)).b⟩
    clear HCE HSY4
    go_wp2_with fail
    go_roundg (gk - 1)
    case measure => have := unhide hi; omega
    case rel => exact ⟨i + 1, by have := unhide hi; unfold Hid; omega, by go_num, HEND⟩
end Go.Proofs.Ytpbdpejhjdoleaa
