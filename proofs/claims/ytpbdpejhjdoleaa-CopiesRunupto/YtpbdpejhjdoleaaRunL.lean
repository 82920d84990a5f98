/-
  CopiesRun's law.
-/
import Derived.Test.YtpbdpejhjdoleaaRg9
import Derived.Test.YtpbdpejhjdoleaaOvR
import Derived.Test.YtpbdpejhjdoleaaAr0
import Derived.Test.YtpbdpejhjdoleaaAgL
import Derived.Test.YtpbdpejhjdoleaaRgC
import Derived.Test.YtpbdpejhjdoleaaAr2
import Derived.Test.YtpbdpejhjdoleaaDr
namespace Go.Proofs.Ytpbdpejhjdoleaa
open Go.RowKit
set_option linter.unusedVariables false
set_option linter.unusedSimpArgs false
theorem flt_TB' (X : List TB) : flt enTB X = flt enBk (X.map Prod.fst) := by
  induction X with
  | nil => rfl
  | cons p r ih => simp only [flt, List.flatMap_cons, List.map_cons] at ih ⊢; rw [ih]; rfl
theorem HD.own {w0 w : World} {p : Nat} {fn regs : Int} {bl : List Bk} {T : Nat → Nat} {rv : Nat → Value} {vs : Nat → List Value} {rs : List BkR} {g o c : Nat} (h : HD w0 p fn regs bl T rv vs rs g o c w) :
    ∃ X, OW enTB 3 (PB w0.heap.size) blB (fun k => w0.heap.size ≤ k) w (.slice (some ⟨g, o, none⟩) bl.length c) bl X := by
  obtain ⟨X, hX, hP⟩ := h.xs
  have hXl : X.length = bl.length + 16 := by
    have := congrArg List.length hX
    rw [List.length_map, List.length_append, mks_length, h.ln] at this
    exact this
  have q := h.hs.brow
  rw [h.r6, ← hX, ← flt_TB', List.length_map, hXl] at q
  have hg6 : T g = 6 := h.hs.tag 6 (by omega) (by omega) g (by rw [h.r6]; rfl)
  have hg : w0.heap.size ≤ g := by
    by_cases e : g < w0.heap.size
    · have := h.tk g e; omega
    · omega
  have q2 := q.upto rfl (k := bl.length) (by omega)
  rw [flt_take zTB] at q2
  have hP2 := hP.take bl.length
  have hl : (X.take bl.length).length = bl.length := by rw [List.length_take]; omega
  refine ⟨X.take bl.length, hl, q2, fun k hk => by cases hk; exact hg, fun i u x hu hx => hP2.el i u x hu hx, fun i x k hx hk => ?_, hP2.ap⟩
  have h1 := hP2.bt x k (List.mem_of_getElem? hx) hk
  refine ⟨by have := h1.2.1; show w0.heap.size ≤ k; omega, h1.2.2, fun e => ?_⟩
  have hk' : g = k := by cases e; rfl
  subst hk'
  have h7 := h1.1
  rw [hg6] at h7
  cases h7

set_option linter.unusedVariables false
set_option linter.unusedSimpArgs false
theorem vT_len {w : World} {v : Value} {us : List RIn} {ts : List TI} {Z : Nat → Prop} (h : OW enT 8 InT blT Z w v us ts) : (vT ts).length = inW us := by
  have e : ts.map (fun t => (vI t).length) = us.map (fun x => 1 + x.ex.length) := by
    refine List.ext_getElem? (fun i => ?_)
    rw [List.getElem?_map, List.getElem?_map]
    by_cases hi : i < us.length
    · have hu : us[i]? = some us[i] := List.getElem?_eq_getElem hi
      have ht : ts[i]? = some (ts[i]'(by rw [h.len]; exact hi)) := List.getElem?_eq_getElem _
      have := (h.el i _ _ hu ht).len
      rw [hu, ht]
      simp only [Option.map_some, Option.some.injEq, vI, List.length_cons, List.length_map]
      omega
    · rw [show us[i]? = none from List.getElem?_eq_none (Nat.le_of_not_lt hi), show ts[i]? = none from List.getElem?_eq_none (by rw [h.len]; exact Nat.le_of_not_lt hi)]
      rfl
  rw [vT, List.length_flatMap, e]
  rfl
theorem vX_len {b : Nat} {w : World} {v : Value} {us : List Bk} {X : List TB} {Z : Nat → Prop} (h : OW enTB 3 (PB b) blB Z w v us X) : (vX X).length = bkW us ∧ (nX X).length = us.length := by
  have e : X.map (fun x => (vT x.2).length) = us.map (fun b => inW b.ins) := by
    refine List.ext_getElem? (fun i => ?_)
    rw [List.getElem?_map, List.getElem?_map]
    by_cases hi : i < us.length
    · have hu : us[i]? = some us[i] := List.getElem?_eq_getElem hi
      have ht : X[i]? = some (X[i]'(by rw [h.len]; exact hi)) := List.getElem?_eq_getElem _
      rw [hu, ht]
      simp only [Option.map_some, Option.some.injEq]
      exact vT_len (h.el i _ _ hu ht).ow
    · rw [show us[i]? = none from List.getElem?_eq_none (Nat.le_of_not_lt hi), show X[i]? = none from List.getElem?_eq_none (by rw [h.len]; exact Nat.le_of_not_lt hi)]
      rfl
  refine ⟨?_, by rw [nX, List.length_map, h.len]⟩
  rw [vX, List.length_flatMap, e]
  rfl
theorem inW_one (l : List RIn) (x : RIn) : inW (l ++ [x]) = inW l + (1 + x.ex.length) := by simp [inW]
theorem trn_inW (l : List RIn) : inW (trn l).2 ≤ inW l := by
  have key : ∀ (l : List RIn) (s : (Op → Wr) × List RIn), inW (l.foldl stp s).2 ≤ inW s.2 + inW l := by
    intro l
    induction l with
    | nil => intro s; simp [inW]
    | cons x l ih =>
      intro s
      have h1 := ih (stp s x)
      have h2 : inW (x :: l) = (1 + x.ex.length) + inW l := by simp [inW]
      have h3 : inW (stp s x).2 ≤ inW s.2 + (1 + x.ex.length) := by
        by_cases hs : mvd (inF s.1 x) = some (rgO x.dst)
        · rw [stp_same hs]; omega
        · rw [stp_list hs, inW_one]
          have : (inF s.1 x).ex.length = x.ex.length := by simp [inF]
          omega
      simp only [List.foldl_cons]
      omega
  have := key l (f0, [])
  simpa [trn, inW] using this
theorem bkT_W (bl : List Bk) : bkW (bl.map bkT) ≤ bkW bl := by
  induction bl with
  | nil => simp [bkW]
  | cons b r ih =>
    have := trn_inW b.ins
    have h2 : (bkT b).ins = (trn b.ins).2 := rfl
    simp only [bkW, List.map_cons, List.sum_cons] at ih ⊢
    rw [h2]
    omega
theorem bkI_W (bl : List Bk) : bkI bl ≤ bkW bl := by
  have h1 : ∀ l : List RIn, l.length ≤ inW l := fun l => by
    induction l with
    | nil => simp
    | cons x r ih => simp only [inW, List.map_cons, List.sum_cons, List.length_cons] at ih ⊢; omega
  induction bl with
  | nil => simp [bkW, bkI]
  | cons b r ih =>
    have := h1 b.ins
    simp only [bkW, bkI, List.map_cons, List.sum_cons] at ih ⊢
    omega

set_option linter.unusedVariables false
set_option linter.unusedSimpArgs false
theorem BksV.bound {D : Nat → Prop} {w : World} {l : List Bk} {v : Value} (h : BksV D w l v) (n : Nat) (hn : w.heap.size ≤ n) : BksV (fun k => D k ∧ k < n) w l v :=
  BksV.mv _ _ (fun _ => False) _ _ _ _ h (Fr.refl _ w) (fun k hk e => ⟨fun q => q, e, by omega⟩)
set_option maxRecDepth 100000 in
set_option maxHeartbeats 12800000 in
theorem runLaw {w : World} {fn regs : Int} {bl : List Bk} {v : Value} (h : BksV (fun k => k < w.heap.size) w bl v) (hO : ∀ b ∈ bl, OkB b) (hN : bl.length ≤ 1048576) (hW : bkW bl ≤ 1048576) :
    Calls Try.prog 3 #[.agg #[.int .i64 fn, .int .i64 regs, v]] w fun e w' => e = .returned (.bool true) ∧ Below w.heap.size w w' := by
  obtain ⟨a, c, rfl, ha1, ha2⟩ := NV.shape h
  obtain ⟨L, hL⟩ : ∃ L, Hid (bl.length = L) := ⟨_, hide rfl⟩
  rw [unhide hL] at h hN ha1 ⊢
  have HLM : Hid ((bl.map bkT).length = L) := by unfold Hid; rw [List.length_map]; exact unhide hL
  have HOT : Hid (∀ b ∈ bl.map bkT, OkB b) := fun b hb => by
    obtain ⟨b', hb', rfl⟩ := List.mem_map.1 hb
    exact (hO b' hb').trn
  have HO := hide hO
  have HWB := hide hW
  obtain ⟨W0, hW0⟩ : ∃ W0, Hid (w.alloc (.cells #[.int .i64 fn, .int .i64 regs, .slice a L c] 24) = W0) := ⟨_, hide rfl⟩
  have H0 := hide ((BX.nil w).add #[.int .i64 fn, .int .i64 regs, .slice a L c] 24)
  have HI := hide (BksV.mv.bel h (box1n w (.cells #[.int .i64 fn, .int .i64 regs, .slice a L c] 24)))
  rw [unhide hW0] at H0 HI
  have hW0' := unhide hW0
  unfold maxLen at ha2
  clear h hO hW
  go_enter Try.func3, Try.ntmps3
  go_wp2_with fail
  clear hW0' hW0
  refine (works_any _).mono ?_
  rintro e W1 ⟨rfl, b1⟩
  have H1 := hide ((unhide H0).go b1)
  have HI1 := hide (BksV.mv.bel (unhide HI) b1)
  have HC8 := hide (runR_any (fn := fn) (regs := regs) (BksV.mv.bel (unhide HI) b1) (by rw [unhide hL]; exact hN) (fun u hu => by
    obtain ⟨q1, q2, q3, q4⟩ := unhide HO u hu
    exact ⟨q2, q3, q4⟩))
  have x0 := (unhide H1).ce 0 rfl 0
  have x1 := (unhide H1).ce 0 rfl 1
  have x2 := (unhide H1).ce 0 rfl 2
  have xl := (unhide H1).lt (i := 0) rfl
  simp at x0 x1 x2 xl
  clear b1 H0 HI
  go_wp2_with fail
  refine (unhide HC8).mono ?_
  rintro e W2 ⟨vw, rfl, b2, kw⟩
  clear HC8 x0 x1 x2 xl
  obtain ⟨aw, cw, rfl, q1, q2⟩ := NV.shape kw
  rw [unhide HLM] at kw q1 ⊢
  unfold maxLen at q2
  have H2 := hide (((unhide H1).go b2).add #[.int .i64 fn, .int .i64 regs, .slice aw L cw] 24)
  obtain ⟨W3, hW3⟩ : ∃ W3, Hid (W2.alloc (.cells #[.int .i64 fn, .int .i64 regs, .slice aw L cw] 24) = W3) := ⟨_, hide rfl⟩
  have b3 : Below W2.heap.size W2 W3 := by rw [← unhide hW3]; exact box1n W2 _
  have HKW := hide (BksV.bound (BksV.mv.bel kw b3) W3.heap.size (Nat.le_refl _))
  have HI3 := hide (BksV.mv.bel (BksV.mv.bel (unhide HI1) b2) b3)
  rw [unhide hW3] at H2
  simp only [List.nil_append, List.cons_append] at H2
  have hs32 : W2.heap.size < W3.heap.size := by rw [← unhide hW3]; simp
  have HC9 := hide (handCode_any (fn := fn) (regs := regs) (w := W3) (BksV.mv _ _ (fun _ => False) _ _ _ _ (unhide HI3) (Fr.refl _ W3) (fun k hk e => ⟨fun q => q, hk⟩)) (by rw [unhide hL]; omega) (fun b hb => by
    obtain ⟨q1, q2, q3, q4⟩ := unhide HO b hb
    exact ⟨by omega, by omega, fun x hx => ⟨by have := (q4 x hx).1; omega, by have := (q4 x hx).2.1; omega, fun s hs => by have := (q4 x hx).2.2 s hs; omega⟩⟩) (by have := unhide HWB; omega) (by have := unhide HWB; have := bkI_W bl; omega))
  have x0 := (unhide H2).ce 0 rfl 0
  have x1 := (unhide H2).ce 0 rfl 1
  have x2 := (unhide H2).ce 0 rfl 2
  have xl := (unhide H2).lt (i := 0) rfl
  simp at x0 x1 x2 xl
  have hW3' := unhide hW3
  have hw1 := (unhide H1).b.size
  have hb2s := b2.size
  clear b2 b3 kw HI1 H1
  go_wp2_with fail
  refine (unhide HC9).mono ?_
  rintro e W4 ⟨TG, rv, vs, rs, g, o, cg, rfl, hD⟩
  clear HC9 x0 x1 x2 xl hW3' hW3
  have hb4 := hD.bw
  have H4 := hide ((unhide H2).go hb4)
  have HKW4 := hide (BksV.mv.bel (unhide HKW) hb4)
  have HI4 := hide (BksV.mv.bel (unhide HI3) hb4)
  have HD4 := hide hD
  have hgb := hD.blocks
  have hgc : bl.length ≤ cg := by obtain ⟨_, _, e, q, _⟩ := NV.shape hgb; cases e; exact q
  have hgm : cg ≤ maxLen := by obtain ⟨_, _, e, _, q⟩ := NV.shape hgb; cases e; exact q
  rw [unhide hL] at hgb hgc
  unfold maxLen at hgm
  have HC10 := hide (run_any (fn := fn) (regs := regs) hgb (unhide HO) (by rw [unhide hL]; exact hN))
  have hbx := hD.hs.box
  have hs43 := hb4.size
  obtain ⟨XD, hXD⟩ := hD.own
  rw [unhide hL] at hXD
  have HSI : Hid (∀ q, ((Value.slice (some ⟨g, o, none⟩) L cg).ownBlock = some q ∨ ∃ x ∈ XD, blB x q) → W3.heap.size ≤ q ∧ q < W4.heap.size) := fun q hq => hXD.in hq
  have HXD4 := hide hXD
  obtain ⟨P, hP⟩ : ∃ P, Hid (W3.heap.size + 1 = P) := ⟨_, hide rfl⟩
  rw [unhide hP] at hbx HD4 ⊢
  have hPl : P < W4.heap.size := (blk_cells hbx).2.2
  rw [unhide hL] at hbx
  have HBXC := hide hbx
  have x0 := (blk_cells hbx).1 0
  have x1 := (blk_cells hbx).1 1
  have x2 := (blk_cells hbx).1 2
  simp at x0 x1 x2
  clear hD hb4 H2 HKW HI3 hgb hbx hXD
  go_wp2_with fail
  refine (unhide HC10).mono ?_
  rintro e W5 hA
  obtain ⟨v1, T1, rfl, b5, ho1⟩ := hA
  have hk1 := BksV.of_ow ho1
  obtain ⟨a1, c1, rfl, q3, q4⟩ := NV.shape hk1
  rw [unhide HLM] at q3 hk1 ho1 ⊢
  unfold maxLen at q4
  clear HC10 x0 x1 x2
  have H5 := hide (((unhide H4).go b5).add #[.int .i64 fn, .int .i64 regs, .slice a1 L c1] 24)
  obtain ⟨W6, hW6⟩ : ∃ W6, Hid (W5.alloc (.cells #[.int .i64 fn, .int .i64 regs, .slice a1 L c1] 24) = W6) := ⟨_, hide rfl⟩
  have b6 : Below W5.heap.size W5 W6 := by rw [← unhide hW6]; exact box1n W5 _
  have hs65 : W5.heap.size < W6.heap.size := by rw [← unhide hW6]; simp
  rw [unhide hW6] at H5
  simp only [List.nil_append, List.cons_append] at H5
  have bb : Below W4.heap.size W4 W6 := bl_past b5 b6
  have hs54 := b5.size
  have HKW6 := hide (BksV.mv.bel (unhide HKW4) bb)
  have HI6 := hide (BksV.mv.bel (unhide HI4) bb)
  have HD6 := hide ((unhide HD4).bel bb)
  have HO1 := hide (ho1.below (stayB 0) b6)
  have HT1 : Hid (∀ q, ((Value.slice a1 L c1).ownBlock = some q ∨ ∃ x ∈ T1, blB x q) → W4.heap.size ≤ q ∧ q < W5.heap.size) := fun q hq => ho1.in hq
  have HXD6 := hide ((unhide HXD4).below (stayB _) bb)
  have hgb := (unhide HD6).blocks
  rw [unhide hL] at hgb
  have HC10 := hide (run_any (fn := fn) (regs := regs) hgb (unhide HO) (by rw [unhide hL]; exact hN))
  have hbx := (bb.block P hPl).trans (unhide HBXC)
  have HBXC6 := hide hbx
  have x0 := (blk_cells hbx).1 0
  have x1 := (blk_cells hbx).1 1
  have x2 := (blk_cells hbx).1 2
  have xl := (blk_cells hbx).2.2
  simp at x0 x1 x2
  have hW6' := unhide hW6
  clear b5 b6 bb ho1 hk1 H4 HKW4 HI4 HD4 hgb hbx HBXC HXD4
  go_wp2_with fail
  refine (unhide HC10).mono ?_
  rintro e W7 hA
  obtain ⟨v2, T2, rfl, b7, ho2⟩ := hA
  have hk2 := BksV.of_ow ho2
  obtain ⟨a2, c2, rfl, q5, q6⟩ := NV.shape hk2
  rw [unhide HLM] at q5 hk2 ho2 ⊢
  unfold maxLen at q6
  clear HC10 x0 x1 x2 xl hW6' hW6
  have H7 := hide (((unhide H5).go b7).add #[.int .i64 fn, .int .i64 regs, .slice a2 L c2] 24)
  obtain ⟨W8, hW8⟩ : ∃ W8, Hid (W7.alloc (.cells #[.int .i64 fn, .int .i64 regs, .slice a2 L c2] 24) = W8) := ⟨_, hide rfl⟩
  have b8 : Below W7.heap.size W7 W8 := by rw [← unhide hW8]; exact box1n W7 _
  have hs87 : W7.heap.size < W8.heap.size := by rw [← unhide hW8]; simp
  rw [unhide hW8] at H7
  simp only [List.nil_append, List.cons_append] at H7
  have bb : Below W6.heap.size W6 W8 := bl_past b7 b8
  have hs76 := b7.size
  have HKW8 := hide (BksV.mv.bel (unhide HKW6) bb)
  have HI8 := hide (BksV.mv.bel (unhide HI6) bb)
  have HD8 := hide ((unhide HD6).bel bb)
  have HO18 := hide ((unhide HO1).below (stayB 0) bb)
  have HO28 := hide (ho2.below (stayB 0) b8)
  have HXD8 := hide ((unhide HXD6).below (stayB _) bb)
  have hbx := (bb.block P (by omega)).trans (unhide HBXC6)
  have HBXC8 := hide hbx
  have HK1 := hide (BksV.of_ow (unhide HO18))
  have HC11 := hide (sameR_yes (fn := fn) (regs := regs) (unhide HK1) (unhide HKW8) (by rw [unhide HLM]; exact hN) (fun b hb => (unhide HOT b hb).s))
  have x0 := (unhide H7).ce 2 rfl 0
  have x1 := (unhide H7).ce 2 rfl 1
  have x2 := (unhide H7).ce 2 rfl 2
  have xl := (unhide H7).lt (i := 2) rfl
  have y0 := (unhide H7).ce 1 rfl 0
  have y1 := (unhide H7).ce 1 rfl 1
  have y2 := (unhide H7).ce 1 rfl 2
  have yl := (unhide H7).lt (i := 1) rfl
  simp at x0 x1 x2 xl y0 y1 y2 yl
  have hW8' := unhide hW8
  clear b7 b8 bb ho2 hk2 H5 HKW6 HI6 HD6 HO1 hbx HBXC6 HXD6
  go_wp2_with fail
  refine (unhide HC11).mono ?_
  rintro e W9 ⟨rfl, b9⟩
  clear HC11 x0 x1 x2 xl y0 y1 y2 yl hW8' hW8 HK1
  have H9 := hide ((unhide H7).go b9)
  have HKW9 := hide (BksV.mv.bel (unhide HKW8) b9)
  have HI9 := hide (BksV.mv.bel (unhide HI8) b9)
  have HD9 := hide ((unhide HD8).bel b9)
  have HO19 := hide ((unhide HO18).below (stayB 0) b9)
  have HO29 := hide ((unhide HO28).below (stayB 0) b9)
  have HXD9 := hide ((unhide HXD8).below (stayB _) b9)
  have hs98 := b9.size
  have hbx := (b9.block P (by omega)).trans (unhide HBXC8)
  have HBXC9 := hide hbx
  have HC11 := hide (sameR_yes (fn := fn) (regs := regs) (BksV.of_ow (unhide HO29)) (unhide HKW9) (by rw [unhide HLM]; exact hN) (fun b hb => (unhide HOT b hb).s))
  have x0 := (unhide H9).ce 3 rfl 0
  have x1 := (unhide H9).ce 3 rfl 1
  have x2 := (unhide H9).ce 3 rfl 2
  have xl := (unhide H9).lt (i := 3) rfl
  have y0 := (unhide H9).ce 1 rfl 0
  have y1 := (unhide H9).ce 1 rfl 1
  have y2 := (unhide H9).ce 1 rfl 2
  have yl := (unhide H9).lt (i := 1) rfl
  simp at x0 x1 x2 xl y0 y1 y2 yl
  clear b9 hbx HXD8 H7 HKW8 HI8 HD8 HO18 HO28 HBXC8
  go_wp2_with fail
  refine (unhide HC11).mono ?_
  rintro e WA ⟨rfl, bA⟩
  clear HC11 x0 x1 x2 xl y0 y1 y2 yl
  have HA := hide ((unhide H9).go bA)
  have HKWA := hide (BksV.mv.bel (unhide HKW9) bA)
  have HIA := hide (BksV.mv.bel (unhide HI9) bA)
  have HDA := hide ((unhide HD9).bel bA)
  have HO1A := hide ((unhide HO19).below (stayB 0) bA)
  have HO2A := hide ((unhide HO29).below (stayB 0) bA)
  have HXDA := hide ((unhide HXD9).below (stayB _) bA)
  have hsA9 := bA.size
  have hbx := (bA.block P (by omega)).trans (unhide HBXC9)
  have HBXCA := hide hbx
  have HC12 := hide (kept_any (cf := fn) (cr := regs) (unhide HDA) (unhide HIA))
  have x0 := (unhide HA).ce 0 rfl 0
  have x1 := (unhide HA).ce 0 rfl 1
  have x2 := (unhide HA).ce 0 rfl 2
  have xl := (unhide HA).lt (i := 0) rfl
  simp at x0 x1 x2 xl
  clear bA hbx HXD9 H9 HKW9 HI9 HD9 HO19 HO29 HBXC9
  go_wp2_with fail
  refine (unhide HC12).mono ?_
  rintro e WB ⟨rfl, bB⟩
  clear HC12 x0 x1 x2 xl
  have HB := hide ((unhide HA).go bB)
  have HKWB := hide (BksV.mv.bel (unhide HKWA) bB)
  have HDB := hide ((unhide HDA).bel bB)
  have HO1B := hide ((unhide HO1A).below (stayB 0) bB)
  have HO2B := hide ((unhide HO2A).below (stayB 0) bB)
  have hsBA := bB.size
  have hbx := (bB.block P (by omega)).trans (unhide HBXCA)
  have hXD := (unhide HXDA).below (stayB _) bB
  have HC13 := hide (overRegs_any (fn := fn) (regs := regs) hXD)
  have x0 := (blk_cells hbx).1 0
  have x1 := (blk_cells hbx).1 1
  have x2 := (blk_cells hbx).1 2
  have xl := (blk_cells hbx).2.2
  simp at x0 x1 x2
  clear bB hbx HA HKWA HIA HDA HO1A HO2A HBXCA hXD HXDA
  go_wp2_with fail
  refine (unhide HC13).mono ?_
  rintro e WC ⟨rfl, fC⟩
  clear HC13 x0 x1 x2 xl
  have hsCB := fC.size
  have hsi := unhide HSI
  have hPP := unhide hP
  have HKWC := hide (BksV.mv _ Tr _ _ _ _ _ (unhide HKWB) fC (fun k hk e => ⟨fun q => by have := hsi k q; omega, trivial⟩))
  have HO1C := hide ((unhide HO1B).frZ (stayB 0) fC (fun k hk hz q => by have := hsi k q; have hz' : W4.heap.size ≤ k := hz; omega))
  have HO2C := hide ((unhide HO2B).frZ (stayB 0) fC (fun k hk hz q => by have := hsi k q; have hz' : W6.heap.size ≤ k := hz; omega))
  have HC := hide ((unhide HB).fr fC (fun i e he q => by
    have h1 := hsi e.1 q
    match i, he with
    | 0, he => simp at he; subst he; simp at h1; omega
    | 1, he => simp at he; subst he; simp at h1; omega
    | 2, he => simp at he; subst he; simp at h1; omega
    | 3, he => simp at he; subst he; simp at h1; omega
    | (n + 4), he => simp at he) (fun b hb q => by have := hsi b q; omega))
  clear fC HKWB HO1B HO2B HB HDB hsi
  have HC11 := hide (sameR_yes (fn := fn) (regs := regs) (BksV.of_ow (unhide HO1C)) (unhide HKWC) (by rw [unhide HLM]; exact hN) (fun b hb => (unhide HOT b hb).s))
  have x0 := (unhide HC).ce 2 rfl 0
  have x1 := (unhide HC).ce 2 rfl 1
  have x2 := (unhide HC).ce 2 rfl 2
  have xl := (unhide HC).lt (i := 2) rfl
  have y0 := (unhide HC).ce 1 rfl 0
  have y1 := (unhide HC).ce 1 rfl 1
  have y2 := (unhide HC).ce 1 rfl 2
  have yl := (unhide HC).lt (i := 1) rfl
  simp at x0 x1 x2 xl y0 y1 y2 yl
  go_wp2_with fail
  refine (unhide HC11).mono ?_
  rintro e WD ⟨rfl, bD⟩
  clear HC11 x0 x1 x2 xl y0 y1 y2 yl
  have HD := hide ((unhide HC).go bD)
  have HKWD := hide (BksV.mv.bel (unhide HKWC) bD)
  have HO1D := hide ((unhide HO1C).below (stayB 0) bD)
  have HO2D := hide ((unhide HO2C).below (stayB 0) bD)
  have hsDC := bD.size
  have HC11 := hide (sameR_yes (fn := fn) (regs := regs) (BksV.of_ow (unhide HO2D)) (unhide HKWD) (by rw [unhide HLM]; exact hN) (fun b hb => (unhide HOT b hb).s))
  have x0 := (unhide HD).ce 3 rfl 0
  have x1 := (unhide HD).ce 3 rfl 1
  have x2 := (unhide HD).ce 3 rfl 2
  have xl := (unhide HD).lt (i := 3) rfl
  have y0 := (unhide HD).ce 1 rfl 0
  have y1 := (unhide HD).ce 1 rfl 1
  have y2 := (unhide HD).ce 1 rfl 2
  have yl := (unhide HD).lt (i := 1) rfl
  simp at x0 x1 x2 xl y0 y1 y2 yl
  clear bD HC HKWC HO1C HO2C
  go_wp2_with fail
  refine (unhide HC11).mono ?_
  rintro e WE ⟨rfl, bE⟩
  clear HC11 x0 x1 x2 xl y0 y1 y2 yl
  have HE := hide ((unhide HD).go bE)
  have hO1 := (unhide HO1D).below (stayB 0) bE
  have hO2 := (unhide HO2D).below (stayB 0) bE
  have hsED := bE.size
  have x0 := (unhide HE).ce 2 rfl 0
  have x1 := (unhide HE).ce 2 rfl 1
  have x2 := (unhide HE).ce 2 rfl 2
  have xl := (unhide HE).lt (i := 2) rfl
  have y0 := (unhide HE).ce 3 rfl 0
  have y1 := (unhide HE).ce 3 rfl 1
  have y2 := (unhide HE).ce 3 rfl 2
  have yl := (unhide HE).lt (i := 3) rfl
  simp at x0 x1 x2 xl y0 y1 y2 yl
  obtain ⟨WZ, hWZ⟩ : ∃ WZ, Hid (WE.alloc (.cells #[.int .i64 fn, .int .i64 regs, .slice a1 L c1, .int .i64 fn, .int .i64 regs, .slice a2 L c2] 24) = WZ) := ⟨_, hide rfl⟩
  have bZ : Below WE.heap.size WE WZ := by rw [← unhide hWZ]; exact box1n WE _
  have hxz : WZ.heap[WE.heap.size]? = some (.cells #[.int .i64 fn, .int .i64 regs, .slice a1 L c1, .int .i64 fn, .int .i64 regs, .slice a2 L c2] 24) := by rw [← unhide hWZ]; exact heap_alloc_new WE _
  have hsZ : WE.heap.size < WZ.heap.size := (blk_cells hxz).2.2
  have hO1z := hO1.below (stayB 0) bZ
  have hO2z := hO2.below (stayB 0) bZ
  have hin1 := unhide HT1
  have hbd1 : ∀ q, blCd ((⟨fn, regs, .slice a1 L c1⟩ : CdR), T1) q → W4.heap.size ≤ q ∧ q < W5.heap.size := fun q hq => hin1 q hq
  have hbd2 : ∀ q, blCd ((⟨fn, regs, .slice a2 L c2⟩ : CdR), T2) q → W6.heap.size ≤ q ∧ q < WE.heap.size := fun q hq => hO2.in hq
  have hOWC : OWC (fun _ => True) WZ (.slice (some ⟨WE.heap.size, 0, none⟩) [((⟨fn, regs, .slice a1 L c1⟩ : CdR), T1), ((⟨fn, regs, .slice a2 L c2⟩ : CdR), T2)].length 2) [bl.map bkT, bl.map bkT] [((⟨fn, regs, .slice a1 L c1⟩ : CdR), T1), ((⟨fn, regs, .slice a2 L c2⟩ : CdR), T2)] := by
    refine ⟨rfl, ⟨rfl, .inr ⟨WE.heap.size, 0, 2, _, 24, rfl, hxz, Nat.le_refl _, by unfold maxLen; omega, Nat.le_refl _, fun j hj => ?_⟩⟩, fun _ _ => trivial, fun i u x hu hx => ?_, fun i x k hx hk => ?_, fun i j x y k hij hx hy hk hk2 => ?_⟩
    · match j, hj with
      | 0, _ => rfl
      | 1, _ => rfl
      | 2, _ => rfl
      | 3, _ => rfl
      | 4, _ => rfl
      | 5, _ => rfl
    · match i, hu, hx with
      | 0, hu, hx => simp at hu hx; subst hu hx; exact ⟨_, hO1z⟩
      | 1, hu, hx => simp at hu hx; subst hu hx; exact ⟨_, hO2z⟩
      | (n + 2), hu, hx => simp at hu
    · have h1 : k < WE.heap.size := by
        match i, hx with
        | 0, hx => simp at hx; subst hx; have := hbd1 k hk; omega
        | 1, hx => simp at hx; subst hx; exact (hbd2 k hk).2
        | (n + 2), hx => simp at hx
      refine ⟨trivial, by omega, fun e => ?_⟩
      have e' : WE.heap.size = k := by cases e; rfl
      omega
    · match i, j, hij, hx, hy with
      | 0, 0, hij, _, _ => exact hij rfl
      | 1, 1, hij, _, _ => exact hij rfl
      | 0, 1, _, hx, hy => simp at hx hy; subst hx hy; have := hbd1 k hk; have := hbd2 k hk2; omega
      | 1, 0, _, hx, hy => simp at hx hy; subst hx hy; have := hbd2 k hk; have := hbd1 k hk2; omega
      | (n + 2), _, _, hx, _ => simp at hx
      | 0, (n + 2), _, _, hy => simp at hy
      | 1, (n + 2), _, _, hy => simp at hy
  have hcw := bkT_W bl
  have hvl1 := vX_len hO1z
  have hvl2 := vX_len hO2z
  have hLM := unhide HLM
  have hWBB := unhide HWB
  have HC14 : Hid (Calls Try.prog 14 #[.slice (some ⟨WE.heap.size, 0, none⟩) 2 2] WZ fun e w' => e = .returned (.bool true) ∧ Fr (fun q => WE.heap.size = q ∨ ∃ c ∈ [((⟨fn, regs, .slice a1 L c1⟩ : CdR), T1), ((⟨fn, regs, .slice a2 L c2⟩ : CdR), T2)], blCd c q) WZ w') := by
    refine apartRegs_any hOWC (fun u hu b hb => ?_) (by simp) ?_ ?_
    · have hb' : b ∈ bl.map bkT := by
        simp at hu
        rw [hu] at hb
        exact hb
      obtain ⟨q1, q2, q3, q4⟩ := unhide HOT b hb'
      exact ⟨q3, fun x hx => ⟨(q4 x hx).1, (q4 x hx).2.2⟩⟩
    · simp only [vC, List.flatMap_cons, List.flatMap_nil, List.append_nil, List.length_append]
      omega
    · simp only [nC, List.flatMap_cons, List.flatMap_nil, List.append_nil, List.length_append]
      omega
  have hWZ' := unhide hWZ
  have HFIN : Hid (∀ V, Fr (fun q => WE.heap.size = q ∨ ∃ c ∈ [((⟨fn, regs, .slice a1 L c1⟩ : CdR), T1), ((⟨fn, regs, .slice a2 L c2⟩ : CdR), T2)], blCd c q) WZ V → Below w.heap.size w V) := fun V f => by
    have h1 := bl_past (unhide HE).b bZ
    refine h1.trans (f.below h1.size (fun k hk e => ?_))
    have hwE := (unhide HE).b.size
    rcases e with e | ⟨c, hc, e⟩
    · omega
    · simp at hc
      rcases hc with rfl | rfl
      · have := hbd1 k e; omega
      · have := hbd2 k e; omega
  clear bE bZ hxz hO1 hO2 hO1z hO2z hin1 hbd1 hbd2 hOWC hcw hvl1 hvl2 hLM HD HKWD HO1D HO2D
  go_wp2_with fail
  refine (unhide HC14).mono ?_
  rintro e WF ⟨rfl, fF⟩
  have HFF := hide (unhide HFIN WF fF)
  clear fF HC14 x0 x1 x2 xl y0 y1 y2 yl hWZ' hWZ
  go_wp2_with fail
  go_ret
  exact ⟨rfl, unhide HFF⟩
end Go.Proofs.Ytpbdpejhjdoleaa
