/-
  verify.function.
-/
import Derived.Test.YtlogmdldjmkkjaaGreatDoorVGo
import Derived.Test.YtlogmdldjmkkjaaGreatDoorVFin
namespace Go.Proofs.YtlogmdldjmkkjaaGreatDoor
open Go.RowKit
set_option linter.unusedVariables false
set_option linter.unusedSimpArgs false
/-- Before meet is made. -/
structure S0 (w0 : World) (wb fb hb : Nat) (x : Fv) (f : Fc) (fl : List Int) (iv : Value) (idle : List Hd) (hts : List Int) (wr : Int) (X : World) : Prop where
  wk : Ro X 9 (.slice (some ⟨wb, 0, none⟩) 1 1) 1 (wkC x fb hb f.code.length iv wr)
  fo : Ro X 1 (.slice (some ⟨fb, 0, none⟩) f.code.length f.code.length) f.code.length (flt enN fl)
  ho : Ro X 1 (.slice (some ⟨hb, 0, none⟩) f.code.length f.code.length) f.code.length (flt enN hts)
  io : Ro X 4 iv idle.length (flt enH idle)
  iz : ∀ k, iv.ownBlock = some k → w0.heap.size ≤ k ∧ k ≠ wb ∧ k ≠ fb ∧ k ≠ hb
  bl : Below w0.heap.size w0 X
  is : ∀ h ∈ idle, h ∈ f.hs
  il : idle.length ≤ f.hs.length
section
variable {w0 X Y : World} {Z wb fb hb : Nat} {x : Fv} {f : Fc} {fl : List Int} {iv lv : Value} {idle : List Hd} {hts : List Int} {wr : Int} {met left : List Spot}
theorem S0.st (h : S0 w0 wb fb hb x f fl iv idle hts wr X) (t1 t2 : TypeId) :
    St w0 X.heap.size wb fb hb x f fl iv (.slice none 0 0) idle hts wr [] [] (((X.alloc (.map #[] 0)).alloc (.cells #[.map (some X.heap.size)] t1)).alloc (.cells #[.slice none 0 0] t2)) := by
  have f3 : Fr (fun _ => False) X (((X.alloc (.map #[] 0)).alloc (.cells #[.map (some X.heap.size)] t1)).alloc (.cells #[.slice none 0 0] t2)) := (((Fr.refl _ X).alloc _).alloc _).alloc _
  have f2 : Fr (fun _ => False) (X.alloc (.map #[] 0)) (((X.alloc (.map #[] 0)).alloc (.cells #[.map (some X.heap.size)] t1)).alloc (.cells #[.slice none 0 0] t2)) := ((Fr.refl _ _).alloc _).alloc _
  have f1 : Fr (fun _ => False) ((X.alloc (.map #[] 0)).alloc (.cells #[.map (some X.heap.size)] t1)) (((X.alloc (.map #[] 0)).alloc (.cells #[.map (some X.heap.size)] t1)).alloc (.cells #[.slice none 0 0] t2)) := (Fr.refl _ _).alloc _
  refine ⟨h.wk.fr f3 (fun _ _ e => e), h.fo.fr f3 (fun _ _ e => e), h.ho.fr f3 (fun _ _ e => e), h.io.fr f3 (fun _ _ e => e), ⟨?_, ?_, ?_, ?_, ?_⟩, fun k hk => ?_, h.bl.trans (f3.below h.bl.size (fun _ _ e => e)), h.is, h.il⟩
  · exact (Bxv.new' _ _ _ (by simp)).keep f1 (fun e => e)
  · exact (MS.made X).keep (f2.block _ (by simp) (fun e => e))
  · exact Bxv.new' _ _ _ (by simp)
  · exact ⟨rfl, .inl ⟨rfl, rfl⟩⟩
  · intro k hk; simp [Value.ownBlock] at hk
  · have := h.iz k hk; have := h.io.lt k hk; omega
/-- The last is taken off. -/
theorem St.pop {l : List Spot} {s : Spot} {g off n cap : Nat} (h : St w0 Z wb fb hb x f fl iv lv idle hts wr met left X) (g0 : Bs w0 Z wb fb hb x f) (e : left = l ++ [s]) (ev : lv = .slice (some ⟨g, off, none⟩) n cap) :
    St w0 Z wb fb hb x f fl iv (.slice (some ⟨g, off, none⟩) (n - 1) cap) idle hts wr met l (X.setCell ⟨Z + 2, 0, none⟩ (.slice (some ⟨g, off, none⟩) (n - 1) cap)) ∧ Fr (fun k => k = Z + 2) X (X.setCell ⟨Z + 2, 0, none⟩ (.slice (some ⟨g, off, none⟩) (n - 1) cap)) := by
  subst e ev
  have fs : Fr (fun k => k = Z + 2) X (X.setCell ⟨Z + 2, 0, none⟩ (.slice (some ⟨g, off, none⟩) (n - 1) cap)) := (Fr.refl _ X).cellset (Z + 2) 0 _ rfl
  have hlf := h.ml.lf
  obtain ⟨_, _, e, hc, _⟩ := hlf.shape
  cases e
  have hl : (l ++ [s]).length - 1 = l.length := by simp
  have hown := h.ml.own g rfl
  have g1 := g0.wz; have g2 := g0.fz; have g3 := g0.hz
  refine ⟨⟨h.wk.fr fs ?_, h.fo.fr fs ?_, h.ho.fr fs ?_, h.io.fr fs (fun k hk => ?_), ⟨h.ml.bm.keep fs (by omega), h.ml.ms.keep (fs.block _ (by have := h.ml.bl.lt; omega) (by omega)), h.ml.bl.set _, ?_, fun k hk => h.ml.own k hk⟩, h.iz, h.bl.trans (fs.below h.bl.size (fun k hk => by omega)), h.is, h.il⟩, fs⟩
  · intro k hk; simp [Value.ownBlock] at hk; omega
  · intro k hk; simp [Value.ownBlock] at hk; omega
  · intro k hk; simp [Value.ownBlock] at hk; omega
  · have := h.iz k hk; omega
  · rw [hl]
    rw [hl] at fs
    have r1 : Ro X 2 (.slice (some ⟨g, off, none⟩) l.length cap) l.length (flt enI l) := by
      refine (hlf.sets rfl (o := off) (m := l.length) (vs := []) (ys := flt enI l) (by omega) (by simp) (by simp at hc; omega) (by rw [flt_length zI]) (fun j hj => ?_) (fun j hj q => by simp at q; omega)).1
      rw [if_neg (by simp), flt_append, List.getElem?_append_left (by rw [flt_length zI]; exact hj)]
    refine r1.fr fs (fun k hk => ?_)
    simp [Value.ownBlock] at hk
    omega
/-- A height is put. -/
theorem St.puth {p : Nat} (h : St w0 Z wb fb hb x f fl iv lv idle hts wr met left X) (g0 : Bs w0 Z wb fb hb x f) (hp : p < f.code.length) (v : Int) :
    St w0 Z wb fb hb x f fl iv lv idle (hts.set p v) wr met left (X.setCell ⟨hb, p, none⟩ (.int .i64 v)) := by
  have fs : Fr (fun k => k = hb) X (X.setCell ⟨hb, p, none⟩ (.int .i64 v)) := (Fr.refl _ X).cellset hb p _ rfl
  have g1 := g0.wz; have g2 := g0.fz; have g3 := g0.hz; have g4 := g0.wh; have g5 := g0.fh
  have hpn := h.ho.putN hp v
  rw [Nat.zero_add] at hpn
  refine ⟨h.wk.fr fs ?_, h.fo.fr fs ?_, hpn, h.io.fr fs (fun k hk => ?_), h.ml.keep fs (by omega) (by omega) (by omega) (fun k hk => ?_), h.iz, h.bl.trans (fs.below h.bl.size (fun k hk => by omega)), h.is, h.il⟩
  · intro k hk; simp [Value.ownBlock] at hk; omega
  · intro k hk; simp [Value.ownBlock] at hk; omega
  · have := h.iz k hk; omega
  · have := h.ml.own k hk; omega
end
set_option maxRecDepth 100000 in
set_option maxHeartbeats 6400000 in
theorem meetAll_any {w0 X : World} {wb fb hb : Nat} {x : Fv} {f : Fc} {fl : List Int} {iv : Value} {idle : List Hd} {hts : List Int} {wr : Int} (I : Sa → Prop) (mu : Sa → Nat) {Z : Nat} (hZ : X.heap.size = Z) (g : Bs w0 Z wb fb hb x f) (h : S0 w0 wb fb hb x f fl iv idle hts wr X)
    (hI : I ⟨idle, hts, wr, mtM [] (0, 0), mtL [] [] (0, 0)⟩) (hstep : ∀ A l s, I A → A.left = l ++ [s] → ∃ (p : Nat) (op a fv : Int), s.1 = (p : Int) ∧ Sp f fl I mu A l p s.2 op a fv) :
    Calls Tryz.prog 105 #[.pointer (some ⟨wb, 0, none⟩)] X fun e X' => (∃ v, e = .returned v) ∧ ∃ A iv lv, I A ∧ A.left = [] ∧ St w0 Z wb fb hb x f fl iv lv A.idle A.hts A.wr A.met A.left X' := by
  have hS1 := h.st 239 240
  have HG := hide g
  rw [hZ] at hS1
  obtain ⟨X1, eX1⟩ : ∃ X1, X1 = ((X.alloc (.map #[] 0)).alloc (.cells #[.map (some X.heap.size)] 239)).alloc (.cells #[.slice none 0 0] 240) := ⟨_, rfl⟩
  have HM0 := hide (meet_any 0 0 (OkS.of (by omega) (by omega) (by omega) (by omega)) hS1.ml (by simp) (by simp))
  rw [hZ] at eX1
  rw [← eX1] at hS1 HM0
  have HS1 := hide hS1
  have HI := hide hI
  have HST := hide hstep
  have hmm := @run_makeMap Tryz.prog
  clear hS1 g h hI hstep
  go_enter Tryz.func105, Tryz.ntmps105
  go_wp2_with fail
  rw [← eX1]
  refine (unhide HM0).mono ?_
  rintro e X2 ⟨⟨_, rfl⟩, lv0, hM2, hF2, hN2⟩
  have HS2 := hide ((unhide HS1).mets (unhide HG) hM2 hF2)
  clear hM2 hF2 hN2 HM0 HS1 hmm eX1
  go_wp2_with fail
  rw [show Z + 1 + 1 = Z + 2 from rfl]
  go_loopg [10] (mu ⟨idle, hts, wr, mtM [] (0, 0), mtL [] [] (0, 0)⟩) (fun gg t10 wi => Hid (∃ A iv lv, I A ∧ mu A ≤ gg ∧ St w0 Z wb fb hb x f fl iv lv A.idle A.hts A.wr A.met A.left wi))
  case atStart => exact ⟨_, iv, lv0, unhide HI, Nat.le_refl _, unhide HS2⟩
  case round =>
    have hA := hrel
    clear hrel
    obtain ⟨A, iv2, lv, hIA, hmu, hSA⟩ := unhide hA
    have HIA := hide hIA
    have HMU := hide hmu
    have HSA := hide hSA
    have cl := hSA.ml.bl.1
    have fzl := hSA.ml.bl.2
    have ll := hSA.ml.bl.lt
    obtain ⟨la, lc, ev, hlc, hlm⟩ := hSA.ml.lf.shape
    unfold maxLen at hlm
    obtain ⟨L, hL⟩ : ∃ L, Hid (A.left.length = L) := ⟨_, rfl⟩
    rw [unhide hL] at ev hlc
    subst ev
    clear hA hIA hmu HI HS2
    rcases List.eq_nil_or_concat A.left with hnil | ⟨l, s, hcon⟩
    · have hL0 : L = 0 := by rw [← unhide hL, hnil]; rfl
      subst hL0
      have HNIL := hide hnil
      clear hnil hSA
      go_wp2_with fail
      go_end0
      exact ⟨⟨_, rfl⟩, A, iv2, _, unhide HIA, unhide HNIL, unhide HSA⟩
    · rw [List.concat_eq_append] at hcon
      have hL1 : L = l.length + 1 := by rw [← unhide hL, hcon]; simp
      obtain ⟨p, op, a, fv, hsp, SP⟩ := unhide HST A l s (unhide HIA) (by rw [hcon])
      obtain ⟨s1, ht⟩ := s
      simp only at hsp SP
      subst hsp
      obtain ⟨M, hM⟩ : ∃ M, Hid (l.length = M) := ⟨_, rfl⟩
      have hLM : L = M + 1 := by rw [hL1, unhide hM]
      have hel : A.left[M]? = some ((p : Int), ht) := by rw [hcon, ← unhide hM]; simp
      obtain ⟨lg, off, c', e, _, _, llg, hc⟩ := Rx.elem zI (Rx.of_ro hSA.ml.lf) hel
      rw [unhide hL] at e
      cases e
      have k0 := hc 0 _ rfl
      have k1 := hc 1 _ rfl
      rw [Nat.add_zero] at k0
      obtain ⟨N, hN⟩ : ∃ N, Hid (f.code.length = N) := ⟨_, rfl⟩
      have hp : p < N := by rw [← unhide hN]; exact (List.getElem?_eq_some_iff.1 SP.hi).1
      have hNm : N ≤ 1048576 := by rw [← unhide hN]; exact (unhide HG).nm
      have hhl : A.hts.length = N := by have := hSA.ho.1; rw [flt_map, List.length_map, Nat.mul_one, unhide hN] at this; exact this
      obtain ⟨hv, hhv⟩ : ∃ q, A.hts[p]? = some q := ⟨_, List.getElem?_eq_getElem (by omega)⟩
      have i0 : (0 : Int) ≤ (M : Int) := by omega
      have i1 : (M : Int) < (L : Int) := by omega
      have i2 : (0 : Int) < (L : Int) := by omega
      have hMl : M ≤ L := by omega
      have hw : IntKind.i64.wrap ((L : Int) - 1) = (M : Int) := by rw [IntKind.wrap_i64]; omega
      have hP0 := hSA.pop (unhide HG) hcon rfl
      have hLs : L - 1 = M := by omega
      rw [hLs] at hP0
      obtain ⟨W2, eW2⟩ : ∃ W2, W2 = wr.setCell ⟨Z + 2, 0, none⟩ (.slice (some ⟨lg, off, none⟩) M lc) := ⟨_, rfl⟩
      rw [← eW2] at hP0
      have hs2 : W2.heap.size = wr.heap.size := by rw [eW2]; simp
      have nb := fun j z (hz : #[Value.int .i64 (p : Int), .int .i64 ht].toList[j]? = some z) => new_cells W2 #[.int .i64 (p : Int), .int .i64 ht] 242 j z hz
      obtain ⟨W3, eW3⟩ : ∃ W3, W3 = W2.alloc (.cells #[.int .i64 (p : Int), .int .i64 ht] 242) := ⟨_, rfl⟩
      have hP1 := hP0.1.keep (unhide HG) ((Fr.refl (fun _ => False) W2).alloc (.cells #[.int .i64 (p : Int), .int .i64 ht] 242)) (fun _ _ e => e)
      rw [← eW3] at hP1
      have hP : St _ _ _ _ _ _ _ _ _ _ _ _ _ _ _ W3 ∧ True := ⟨hP1, trivial⟩
      have s0 : W3.cell? ⟨wr.heap.size, 0, none⟩ = some (.int .i64 (p : Int)) := by
        have := nb 0 _ rfl; rw [Go.WideShapes.add_plain, hs2] at this
        rw [eW3]; exact this
      have s1 : W3.cell? ⟨wr.heap.size, 1, none⟩ = some (.int .i64 ht) := by
        have := nb 1 _ rfl; rw [Go.WideShapes.add_plain, hs2] at this
        rw [eW3]; exact this
      have ls0 := World.block_lt_of_cell? _ _ s0
      have c7 := hP.1.cell (j := 7) rfl
      rw [unhide hN] at c7
      have lw7 := World.block_lt_of_cell? _ _ c7
      have ch := hP.1.hcell hhv
      have lh := World.block_lt_of_cell? _ _ ch
      have j0 : (0 : Int) ≤ (p : Int) := by omega
      have j1 : (p : Int) < (N : Int) := by omega
      have hZs : Hid (Z + 3 ≤ wr.heap.size) := by unfold Hid; omega
      have hLG : Hid (lg ≠ wr.heap.size) := by unfold Hid; omega
      have HP := hide hP.1
      have HSP := hide SP
      have HLL : Hid (l.length < 50000000) := by have := SP.hl; unfold Hid; rw [hcon] at this; simp at this; omega
      have HHV := hide hhv
      rw [eW2] at eW3
      clear hP hP0 hP1 nb hs2 eW2 W2 hc hel SP hSA hhl hL1 hcon hhv hLM hLs
      go_wp2_with fail
      rw [← eW3]
      obtain ⟨sb, hsb⟩ : ∃ sb, wr.heap.size = sb := ⟨_, rfl⟩
      rw [hsb] at s0 s1 ls0 hZs hLG ⊢
      clear hsb
      clear eW3 hw k0 k1 cl fzl ll llg i0 i1 i2 hMl
      by_cases h1 : hv = -1
      · subst h1
        go_quiet (fail)
        obtain ⟨W4, eW4⟩ : ∃ W4, W4 = W3.drewN nq := ⟨_, rfl⟩
        have fr4 : Fr (fun _ => False) W3 W4 := by rw [eW4]; exact Fr.drewN nq
        have H4 := hide ((unhide HP).keep (unhide HG) fr4 (fun _ _ e => e))
        have s0 := (fr4.cell (a := ⟨sb, 0, none⟩) ls0 (fun e => e)).trans s0
        have s1 := (fr4.cell (a := ⟨sb, 1, none⟩) ls0 (fun e => e)).trans s1
        have c7 := (fr4.cell (a := ⟨wb, 7, none⟩) lw7 (fun e => e)).trans c7
        have ch := (fr4.cell (a := ⟨hb, p, none⟩) lh (fun e => e)).trans ch
        have ls0 := World.block_lt_of_cell? _ _ s0
        have lw7 := World.block_lt_of_cell? _ _ c7
        have lh := World.block_lt_of_cell? _ _ ch
        have fzh := (unhide H4).ho.free rfl p
        rw [← eW4]
        clear eW4 fr4 HP
        have hwh : Hid (¬ wb = hb) := (unhide HG).wh
        have hsh : Hid (¬ sb = hb) := by have := (unhide HG).hz; have := unhide hZs; unfold Hid; omega
        have hSt : Fr (fun k => k = hb) W4 ((W4.setCell ⟨hb, p, none⟩ (.int .i64 ht)).drew) := ((Fr.refl (fun k => k = hb) W4).setCell ⟨hb, p, none⟩ (.inr rfl) _).drew
        go_wp2_with fail
        refine wp_region_held_drew (S := (fun wx => Fr (fun k => k = hb) W4 wx)) (by kernel_rfl) ((Fr.refl _ W4).drew) (fun hHeld => ?_)
        refine wpAnyH_take (i := 0) (oi := _) (v := .pointer (some ⟨wb, 0, none⟩)) rfl (by kernel_rfl) (by kernel_rfl) (by kernel_rfl) (fun _ _ _ h => h) (Or.inl ⟨by rfl, (by intro w hSw; go_simp)⟩) (by assumption) ?_
        go_simp
        refine wpAnyH_take (i := 1) (oi := _) (v := .pointer (some ⟨wb, 0, none⟩)) rfl (by kernel_rfl) (by kernel_rfl) (by kernel_rfl) (fun _ _ _ h => h) (Or.inl ⟨by rfl, (by intro w hSw; go_simp)⟩) (by assumption) ?_
        go_simp
        refine wpAnyH_take (i := 2) (oi := _) (v := .pointer (some ⟨wb, 7, none⟩)) rfl (by kernel_rfl) (by kernel_rfl) (by kernel_rfl) (fun _ _ _ h => h) (Or.inl ⟨by rfl, (by intro w hSw; go_simp)⟩) (by assumption) ?_
        go_simp
        refine wpAnyH_take (i := 3) (oi := _) (v := .slice (some ⟨hb, 0, none⟩) N N) rfl (by kernel_rfl) (by kernel_rfl) (by kernel_rfl) (fun _ _ _ h => h) (Or.inl ⟨by rfl, (by intro w hSw; have q0 := (hSw.cell (a := ⟨wb, 7, none⟩) lw7 (fun e => unhide hwh e)).trans c7; go_simp)⟩) (by assumption) ?_
        go_simp
        refine wpAnyH_take (i := 4) (oi := _) (v := .pointer (some ⟨sb, 0, none⟩)) rfl (by kernel_rfl) (by kernel_rfl) (by kernel_rfl) (fun _ _ _ h => h) (Or.inl ⟨by rfl, (by intro w hSw; go_simp)⟩) (by assumption) ?_
        go_simp
        refine wpAnyH_take (i := 5) (oi := _) (v := .int .i64 (p : Int)) rfl (by kernel_rfl) (by kernel_rfl) (by kernel_rfl) (fun _ _ _ h => h) (Or.inl ⟨by rfl, (by intro w hSw; have q0 := (hSw.cell (a := ⟨sb, 0, none⟩) ls0 (fun e => unhide hsh e)).trans s0; go_simp)⟩) (by assumption) ?_
        go_simp
        refine wpAnyH_take (i := 6) (oi := _) (v := .pointer (some ⟨sb, 1, none⟩)) rfl (by kernel_rfl) (by kernel_rfl) (by kernel_rfl) (fun _ _ _ h => h) (Or.inl ⟨by rfl, (by intro w hSw; go_simp)⟩) (by assumption) ?_
        go_simp
        refine wpAnyH_take (i := 7) (oi := _) (v := .int .i64 ht) rfl (by kernel_rfl) (by kernel_rfl) (by kernel_rfl) (fun _ _ _ h => h) (Or.inl ⟨by rfl, (by intro w hSw; have q0 := (hSw.cell (a := ⟨sb, 1, none⟩) ls0 (fun e => unhide hsh e)).trans s1; go_simp)⟩) (by assumption) ?_
        go_simp
        refine wpAnyH_take (i := 8) (oi := _) (v := .pointer (some ⟨hb, p, none⟩)) rfl (by kernel_rfl) (by kernel_rfl) (by kernel_rfl) (fun _ _ _ h => h) (Or.inl ⟨by rfl, (by intro w hSw; go_simp)⟩) (by assumption) ?_
        go_simp
        refine wpAnyH_ready (rs := [9]) (by kernel_rfl) (by simp) ?_
        refine AllReadyH.cons (o := _) rfl (fun K hK => ?_) AllReadyH.nil
        go_simp
        refine hK.out _ _ (hSt) (fun hHeld9x => ?_)
        clear hK K
        go_simp
        refine wpAnyH_done (by kernel_rfl) ?_ _
        have H5 := hide (((unhide H4).puth (unhide HG) (by rw [unhide hN]; exact hp) ht).keep (unhide HG) (Fr.refl (fun _ => False) _).drew (fun _ _ e => e))
        obtain ⟨W5, eW5⟩ : ∃ W5, W5 = (W4.setCell ⟨hb, p, none⟩ (.int .i64 ht)).drew := ⟨_, rfl⟩
        rw [← eW5] at H5 hSt ⊢
        have s0 := (hSt.cell (a := ⟨sb, 0, none⟩) ls0 (fun e => unhide hsh e)).trans s0
        have s1 := (hSt.cell (a := ⟨sb, 1, none⟩) ls0 (fun e => unhide hsh e)).trans s1
        have ls0 := World.block_lt_of_cell? _ _ s0
        have HC := hide (wake_any (p : Int) (unhide HG) (unhide H5) (by have := unhide HLL; omega) (by have := (unhide HSP).hm; omega))
        clear eW5 hSt H4 hHeld c7 lw7 ch lh fzh
        go_wp2_with fail
        refine (unhide HC).mono ?_
        rintro e W6 ⟨⟨_, rfl⟩, iv3, lv3, hS6, hF6, hN6⟩
        have hns : ¬ stS Z (.slice (some ⟨lg, off, none⟩) M lc) sb := by
          have := unhide hZs
          have := unhide hLG
          rintro (q | q | q | q)
          · omega
          · omega
          · omega
          · simp [Value.ownBlock] at q; omega
        have s0 := (hF6.cell (a := ⟨sb, 0, none⟩) ls0 hns).trans s0
        have s1 := (hF6.cell (a := ⟨sb, 1, none⟩) ls0 hns).trans s1
        have ls0 := World.block_lt_of_cell? _ _ s0
        have ew : wak p ht { A with left := l } = ⟨idl p A.idle, A.hts.set p ht, A.wr, (wkF p A.idle (A.met, l)).1, (wkF p A.idle (A.met, l)).2⟩ := by unfold wak; rw [if_pos (unhide HHV)]
        have hset : (A.hts.set p ht)[p]? = some ht := List.getElem?_set_self (List.getElem?_eq_some_iff.1 (unhide HHV)).1
        have HNX := hide ((unhide HSP).nxt ht (by rw [ew]; exact hset))
        rw [ew] at HNX
        have hwl := wkF_length p A.idle (A.met, l)
        have hil := (unhide H5).il
        have hihm := (unhide HG).hm
        have HC2 := hide (goOn_any (unhide HG) hS6 (by have := unhide HLL; simp only at hwl; omega) (by have := (unhide HSP).hm; simp only at hwl; omega) (unhide HSP).hi (unhide HSP).hok (unhide HSP).hja hset (unhide HSP).hf (unhide HSP).h0 (unhide HSP).h1)
        clear hS6 hF6 hN6 HC H5 ew hset hwl hil hihm hns
        go_wp2_with fail
        refine (unhide HC2).mono ?_
        rintro e W7 ⟨⟨_, rfl⟩, lv4, hS7, _, _⟩
        have HR : Hid (∃ A iv lv, I A ∧ mu A ≤ gk - 1 ∧ St w0 Z wb fb hb x f fl iv lv A.idle A.hts A.wr A.met A.left W7) := ⟨_, _, lv4, (unhide HNX).1, by have := (unhide HNX).2; have := unhide HMU; omega, hS7⟩
        clear hS7
        go_wp2_with fail
        go_roundg (gk - 1)
        case measure => have := (unhide HNX).2; have := unhide HMU; omega
        case rel => exact HR
      · have h1b : (hv == -1) = false := by simpa using h1
        have ew : wak p ht { A with left := l } = { A with left := l } := by unfold wak; rw [if_neg (fun e => h1 (Option.some.inj ((unhide HHV).symm.trans e)))]
        have HNX := hide ((unhide HSP).nxt hv (by rw [ew]; exact unhide HHV))
        rw [ew] at HNX
        go_quiet (fail)
        have H4 := hide ((unhide HP).keep (unhide HG) (Fr.drewN (S := fun _ => False) nq) (fun _ _ e => e))
        have fr4 : Fr (fun _ => False) W3 (W3.drewN nq) := Fr.drewN nq
        have s0 := (fr4.cell (a := ⟨sb, 0, none⟩) ls0 (fun e => e)).trans s0
        have s1 := (fr4.cell (a := ⟨sb, 1, none⟩) ls0 (fun e => e)).trans s1
        obtain ⟨W4, eW4⟩ : ∃ W4, W4 = W3.drewN nq := ⟨_, rfl⟩
        rw [← eW4] at H4 s0 s1 ⊢
        have ls0 := World.block_lt_of_cell? _ _ s0
        have HC2 := hide (goOn_any (unhide HG) (unhide H4) (by have := unhide HLL; omega) (by have := (unhide HSP).hm; omega) (unhide HSP).hi (unhide HSP).hok (unhide HSP).hja (unhide HHV) (unhide HSP).hf (unhide HSP).h0 (unhide HSP).h1)
        clear eW4 fr4 c7 lw7 ch lh HP H4 ew
        go_wp2_with fail
        refine (unhide HC2).mono ?_
        rintro e W7 ⟨⟨_, rfl⟩, lv4, hS7, _, _⟩
        have HR : Hid (∃ A iv lv, I A ∧ mu A ≤ gk - 1 ∧ St w0 Z wb fb hb x f fl iv lv A.idle A.hts A.wr A.met A.left W7) := ⟨_, _, lv4, (unhide HNX).1, by have := (unhide HNX).2; have := unhide HMU; omega, hS7⟩
        clear hS7
        go_wp2_with fail
        go_roundg (gk - 1)
        case measure => have := (unhide HNX).2; have := unhide HMU; omega
        case rel => exact HR

set_option linter.unusedVariables false
set_option linter.unusedSimpArgs false
theorem Bl.two {w w1 w2 : World} (h : Below w.heap.size w w1) (k : Below w1.heap.size w1 w2) : Below w.heap.size w w2 := h.trans (k.mono h.size)
theorem Bl.al {w w1 : World} (h : Below w.heap.size w w1) (o : Obj) : Below w.heap.size w (w1.alloc o) := h.alloc h.size o
theorem setcells_fr (w : World) (b o : Nat) (vs : List Value) : Fr (fun k => k = b) w (w.setCells b o vs) := by
  obtain ⟨r1, r2, r3⟩ := setCells_rest b vs o w
  exact ⟨r1, r2, r3, by rw [setCells_size]; exact Nat.le_refl _, fun k _ hk => setCells_other b k hk _ _ _⟩
theorem Bl.st {w w1 : World} (h : Below w.heap.size w w1) {b : Nat} (hb : w.heap.size ≤ b) (vs : List Value) : Below w.heap.size w (w1.setCells b 0 vs) := h.trans ((setcells_fr w1 b 0 vs).below h.size (fun k hk e => by omega))
/-- Nine cells. -/
def Z9 (w : World) (b : Nat) : Prop := Ro w 9 (.slice (some ⟨b, 0, none⟩) 1 1) 1 [.string ⟨#[]⟩, .int .i64 0, .int .i64 0, .slice none 0 0, .slice none 0 0, .slice none 0 0, .slice none 0 0, .slice none 0 0, .int .i64 0]
theorem Z9.full (w : World) (vs : List Value) (h : vs.length = 9) : Ro (w.alloc (.cells vs.toArray 177)) 9 (.slice (some ⟨w.heap.size, 0, none⟩) 1 1) 1 vs :=
  ⟨by omega, .inr ⟨w.heap.size, 0, 1, vs.toArray, 177, rfl, heap_alloc_new _ _, by omega, by unfold maxLen; omega, by simp; omega, fun j hj => by simp⟩⟩
theorem Z9.new (w : World) : Z9 (w.alloc (.cells #[.string ⟨#[]⟩, .int .i64 0, .int .i64 0, .slice none 0 0, .slice none 0 0, .slice none 0 0, .slice none 0 0, .slice none 0 0, .int .i64 0] 177)) w.heap.size := Z9.full w _ rfl
theorem Z9.drew {w : World} {b : Nat} (h : Z9 w b) : Z9 w.drew b := Ro.fr (S := fun _ => False) h ((Fr.refl _ w).drew) (fun _ _ e => e)
theorem Z9.below {w w' : World} {b : Nat} (h : Z9 w b) (k : Below w.heap.size w w') : Z9 w' b := Ro.keep h (fun g hg => k.block g (Ro.lt h g hg))
theorem Z9.free {w : World} {b : Nat} (h : Z9 w b) (_ : True = True) (j : Nat) : w.frozen? ⟨b, j, none⟩ = false := Ro.free h rfl j
theorem Z9.cells {w : World} {b : Nat} (h : Z9 w b) : w.cell? ⟨b, 0, none⟩ = some (.string ⟨#[]⟩) ∧ w.cell? ⟨b, 1, none⟩ = some (.int .i64 0) ∧ w.cell? ⟨b, 2, none⟩ = some (.int .i64 0) ∧ w.cell? ⟨b, 3, none⟩ = some (.slice none 0 0) ∧ w.cell? ⟨b, 4, none⟩ = some (.slice none 0 0) ∧ w.cell? ⟨b, 5, none⟩ = some (.slice none 0 0) ∧ w.cell? ⟨b, 6, none⟩ = some (.slice none 0 0) ∧ w.cell? ⟨b, 7, none⟩ = some (.slice none 0 0) ∧ w.cell? ⟨b, 8, none⟩ = some (.int .i64 0) := by
  obtain ⟨b', off', c', e, _, _, hb, hc⟩ := Ro.full h (by omega)
  cases e
  have k : ∀ j, j < 9 → w.cell? ⟨b, j, none⟩ = ([.string ⟨#[]⟩, .int .i64 0, .int .i64 0, .slice none 0 0, .slice none 0 0, .slice none 0 0, .slice none 0 0, .slice none 0 0, .int .i64 0] : List Value)[j]? := fun j hj => by have := hc j (by omega); rw [Nat.zero_add] at this; exact this
  exact ⟨k 0 (by omega), k 1 (by omega), k 2 (by omega), k 3 (by omega), k 4 (by omega), k 5 (by omega), k 6 (by omega), k 7 (by omega), k 8 (by omega)⟩
theorem Z9.put {w : World} {b : Nat} (h : Z9 w b) (vs : List Value) (hl : vs.length = 9) : Ro (w.setCells b 0 vs) 9 (.slice (some ⟨b, 0, none⟩) 1 1) 1 vs := by
  refine (Ro.sets h rfl (o := 0) (m := 1) (vs := vs) (ys := vs) (by omega) (by omega) (by omega) (by omega) (fun j hj => ?_) (fun j hj q => by omega)).1
  rw [if_pos (by omega)]
  congr 1
  omega
theorem cell9 {w : World} {b : Nat} {vs : List Value} (h : Ro w 9 (.slice (some ⟨b, 0, none⟩) 1 1) 1 vs) (j : Nat) (v : Value) (hv : vs[j]? = some v) : w.cell? ⟨b, j, none⟩ = some v := by
  obtain ⟨b', off', c', e, _, _, hb, hc⟩ := h.full (by omega)
  cases e
  have hj := (List.getElem?_eq_some_iff.1 hv).1
  have hl := h.1
  have := hc j (by omega)
  rw [Nat.zero_add] at this
  rw [this, hv]
/-- The walk's parts, when the heights are made. -/
structure Pt (X1 : World) (wb fb hb N : Nat) (cs : List Value) (iv : Value) (fl : List Int) (hs : List Hd) (hts : List Int) (W : World) : Prop where
  wk : Ro W 9 (.slice (some ⟨wb, 0, none⟩) 1 1) 1 cs
  fo : Ro W 1 (.slice (some ⟨fb, 0, none⟩) N N) N (flt enN fl)
  ho : Ro W 1 (.slice (some ⟨hb, 0, none⟩) N N) N (flt enN hts)
  io : Ro W 4 iv hs.length (flt enH hs)
theorem fun_rep {X1 W W2 : World} {wb fb hb N : Nat} {cs : List Value} {iv : Value} {fl : List Int} {hs : List Hd} (h1 : Ro W 9 (.slice (some ⟨wb, 0, none⟩) 1 1) 1 cs) (h2 : Ro W 1 (.slice (some ⟨fb, 0, none⟩) N N) N (flt enN fl)) (h3 : Ro W 4 iv hs.length (flt enH hs)) (hb1 : Below X1.heap.size X1 W)
    (hD : X1.heap.size ≤ wb ∧ X1.heap.size ≤ fb ∧ wb ≠ fb ∧ ∀ k, iv.ownBlock = some k → X1.heap.size ≤ k ∧ k ≠ wb ∧ k ≠ fb) (hR : RpR (W.alloc (.cells #[.int .i64 (-1)] 3)) hb N N W2) (hm : N ≤ maxLen) :
    Pt X1 wb fb hb N cs iv fl hs (List.replicate N (-1)) W2 ∧ Below X1.heap.size X1 W2 ∧ (X1.heap.size ≤ hb ∧ hb ≠ wb ∧ hb ≠ fb ∧ ∀ k, iv.ownBlock = some k → k ≠ hb) := by
  have hro := hR.ro hm
  rw [List.length_replicate] at hro
  obtain ⟨cur, _, _, _, hR4, hR5⟩ := hR
  have hbw : Below W.heap.size W W2 := Bl.par hR4
  have k1 := h1.lt wb rfl
  have k2 := h2.lt fb rfl
  have k5 : W.heap.size < hb := by rw [World.size_alloc] at hR5; omega
  have k6 := hb1.size
  exact ⟨⟨h1.keep (fun g hg => hbw.block g (h1.lt g hg)), h2.keep (fun g hg => hbw.block g (h2.lt g hg)), hro, h3.keep (fun g hg => hbw.block g (h3.lt g hg))⟩, Bl.two hb1 hbw, by omega, by omega, by omega, fun k hk => by have := h3.lt k hk; omega⟩
theorem put9 {X : World} {wb j : Nat} {cs : List Value} (h : Ro X 9 (.slice (some ⟨wb, 0, none⟩) 1 1) 1 cs) (hj : j < 9) (v : Value) : Ro (X.setCell ⟨wb, j, none⟩ v) 9 (.slice (some ⟨wb, 0, none⟩) 1 1) 1 (cs.set j v) := by
  have hl := h.1
  refine (h.sets rfl (o := 0 + j) (m := 1) (vs := [v]) (ys := cs.set j v) (by omega) (by simp; omega) (by omega) (by rw [List.length_set]; exact hl) (fun i hi => ?_) (fun i hi q => by omega)).1 |> fun r => by simpa [World.setCells] using r
  by_cases q : i = j
  · subst q
    rw [if_pos (by simp), List.getElem?_set_self (by omega)]
    simp
  · rw [if_neg (by simp; omega), List.getElem?_set_ne (by omega)]
/-- The state, when the walk begins. -/
theorem fun_s0 {X1 W2 : World} {wb fb hb N : Nat} {x : Fv} {f : Fc} {iv : Value} (hof : OkF f) (hx : FnV X1 f x) (hN : f.code.length = N) (P : Pt X1 wb fb hb N [.string x.name, .int .i64 x.params, .int .i64 x.locals, x.cv, x.hv, .slice (some ⟨fb, 0, none⟩) N N, iv, .slice none 0 0, .int .i64 0] iv (fls N f.hs) f.hs (List.replicate N (-1)) W2) (hB : Below X1.heap.size X1 W2)
    (hD : X1.heap.size ≤ wb ∧ X1.heap.size ≤ fb ∧ wb ≠ fb ∧ ∀ k, iv.ownBlock = some k → X1.heap.size ≤ k ∧ k ≠ wb ∧ k ≠ fb) (hG : X1.heap.size ≤ hb ∧ hb ≠ wb ∧ hb ≠ fb ∧ ∀ k, iv.ownBlock = some k → k ≠ hb) :
    S0 X1 wb fb hb x f (fls f.code.length f.hs) iv f.hs (List.replicate f.code.length (-1)) (f.code.length : Int) ((W2.setCell ⟨wb, 7, none⟩ (.slice (some ⟨hb, 0, none⟩) N N)).setCell ⟨wb, 8, none⟩ (.int .i64 (N : Int))) ∧
    Bs X1 ((W2.setCell ⟨wb, 7, none⟩ (.slice (some ⟨hb, 0, none⟩) N N)).setCell ⟨wb, 8, none⟩ (.int .i64 (N : Int))).heap.size wb fb hb x f := by
  subst hN
  have fs : Fr (fun k => k = wb) W2 ((W2.setCell ⟨wb, 7, none⟩ (.slice (some ⟨hb, 0, none⟩) f.code.length f.code.length)).setCell ⟨wb, 8, none⟩ (.int .i64 (f.code.length : Int))) := ((Fr.refl (fun k => k = wb) W2).cellset wb 7 _ rfl).cellset wb 8 _ rfl
  have hs := fs.size
  have k1 := P.wk.lt wb rfl
  have k2 := P.fo.lt fb rfl
  have k3 := P.ho.lt hb rfl
  refine ⟨⟨put9 (put9 P.wk (j := 7) (by omega) _) (j := 8) (by omega) _, P.fo.fr fs (fun k hk => by simp [Value.ownBlock] at hk; omega), P.ho.fr fs (fun k hk => by simp [Value.ownBlock] at hk; omega), P.io.fr fs (fun k hk => (hD.2.2.2 k hk).2.1), fun k hk => ⟨(hD.2.2.2 k hk).1, (hD.2.2.2 k hk).2.1, (hD.2.2.2 k hk).2.2, hG.2.2.2 k hk⟩, hB.trans (fs.below hB.size (fun k hk => by omega)), fun h hh => hh, Nat.le_refl _⟩,
    ⟨⟨by omega, by omega⟩, ⟨by omega, by omega⟩, ⟨by omega, by omega⟩, hD.2.2.1, fun e => hG.2.1 e.symm, fun e => hG.2.2.1 e.symm, hx, hof.n1, by have := hof.nm; omega, by have := hof.hm; omega, fun h hh => ?_⟩⟩
  have := hof.hd h hh
  have := hof.nm
  exact ⟨by omega, by omega, by omega, by omega⟩
theorem least_neg {xs : List Int} (h : ∃ p : Nat, xs[p]? = some (-1)) : ∃ p : Nat, xs[p]? = some (-1) ∧ ∀ q, q < p → xs[q]? ≠ some (-1) := by
  obtain ⟨p, hp⟩ := h
  induction p using Nat.strongRecOn with
  | _ p ih =>
    by_cases hq : ∃ q, q < p ∧ xs[q]? = some (-1)
    · obtain ⟨q, h1, h2⟩ := hq
      exact ih q h1 h2
    · exact ⟨p, hp, fun q h1 h2 => hq ⟨q, h1, h2⟩⟩
section
variable {f : Fc} {A : Sa}
theorem fn_un (hf : OkF f) (h : Iv f (fls f.code.length f.hs) A) (hl : A.left = []) (hb : ∀ q, ¬ BadM f q) {p : Nat} (hp : A.hts[p]? = some (-1)) (hq : ∀ q, q < p → A.hts[q]? ≠ some (-1)) : FnR f none (p : Int) 10 := by
  have hpN : p < f.code.length := by rw [← h.len]; exact (List.getElem?_eq_some_iff.1 hp).1
  obtain ⟨⟨op, a⟩, hi⟩ : ∃ q, f.code[p]? = some q := ⟨_, List.getElem?_eq_getElem hpN⟩
  refine .inr (.inl ⟨rfl, rfl, hb, p, rfl, ⟨op, a, hi, .inl ((h.hts_iff hf hl hpN).1 hp)⟩, fun q hqp ⟨op', a', hi', hu⟩ => ?_⟩)
  rcases hu with hu | hu
  · exact hq q hqp ((h.hts_iff hf hl (by omega)).2 hu)
  · omega
theorem fn_last (hf : OkF f) (h : Iv f (fls f.code.length f.hs) A) (hl : A.left = []) (hb : ∀ q, ¬ BadM f q) (hn : ¬ ∃ p : Nat, A.hts[p]? = some (-1)) {M : Nat} (hM : M + 1 = f.code.length) {op a : Int} (hi : f.code[M]? = some (op, a)) (he : enB op = false) : FnR f none (M : Int) 10 := by
  refine .inr (.inl ⟨rfl, rfl, hb, M, rfl, ⟨op, a, hi, .inr ⟨hM, he⟩⟩, fun q hqp ⟨op', a', hi', hu⟩ => ?_⟩)
  rcases hu with hu | hu
  · exact hn ⟨q, (h.hts_iff hf hl (by omega)).2 hu⟩
  · omega
theorem fn_ok (hf : OkF f) (h : Iv f (fls f.code.length f.hs) A) (hl : A.left = []) (hb : ∀ q, ¬ BadM f q) (hn : ¬ ∃ p : Nat, A.hts[p]? = some (-1)) {M : Nat} (hM : M + 1 = f.code.length) {op a : Int} (hi : f.code[M]? = some (op, a)) (he : enB op = true) : FnR f (some A.hts) 0 0 := by
  refine .inr (.inr ⟨rfl, rfl, hb, fun q ⟨op', a', hi', hu⟩ => ?_, A.hts, rfl, h.len, h.heights hf hl hb (fun p y hy e => hn ⟨p, by rw [hy, e]⟩)⟩)
  rcases hu with hu | hu
  · exact hn ⟨q, (h.hts_iff hf hl (List.getElem?_eq_some_iff.1 hi').1).2 hu⟩
  · have : q = M := by omega
    subst this
    rw [hi] at hi'
    cases hi'
    rw [he] at hu
    cases hu.2
end
set_option maxRecDepth 100000 in
set_option maxHeartbeats 6400000 in
theorem function_any {v0 : World} {f : Fc} {x : Fv} (hf : OkF f) (hx : FnV v0 f x) :
    Calls Tryz.prog 58 #[.agg #[.string x.name, .int .i64 x.params, .int .i64 x.locals, x.cv, x.hv]] v0 fun e w' => ∃ hvv pl er hts, e = .returned (.tuple #[hvv, .int .i64 pl, .int .i64 er]) ∧ FnR f hts pl er ∧ Below v0.heap.size v0 w' ∧ (hts = none → hvv = .slice none 0 0) ∧ ∀ l, hts = some l → Ro w' 1 hvv l.length (flt enN l) ∧ ∀ k, hvv.ownBlock = some k → v0.heap.size ≤ k := by
  obtain ⟨X1, eX1⟩ : ∃ X1, X1 = v0.alloc (.cells #[.string x.name, .int .i64 x.params, .int .i64 x.locals, x.cv, x.hv] 73) := ⟨_, rfl⟩
  have b1 : Below v0.heap.size v0 X1 := by rw [eX1]; exact (Below.refl _ v0).alloc (Nat.le_refl _) _
  have hx1 : FnV X1 f x := ⟨hx.1, hx.2.1, hx.2.2.1, Rx.below hx.2.2.2.1 b1 (Nat.le_refl _), Rx.below hx.2.2.2.2 b1 (Nat.le_refl _)⟩
  have HX1 := hide hx1
  obtain ⟨N, hN⟩ : ∃ N, Hid (f.code.length = N) := ⟨_, rfl⟩
  obtain ⟨H, hHL⟩ : ∃ H, Hid (f.hs.length = H) := ⟨_, rfl⟩
  have hN1 : 1 ≤ N := by rw [← unhide hN]; exact hf.n1
  have hNm : N ≤ 2000 := by rw [← unhide hN]; exact hf.nm
  have hHm : H ≤ 1000 := by rw [← unhide hHL]; exact hf.hm
  obtain ⟨_, ca, cc, ecv, hcl, hcm, _⟩ := hx1.2.2.2.1
  obtain ⟨_, ha, hc, ehv, hhc, hhm, _⟩ := hx1.2.2.2.2
  rw [unhide hN] at ecv hcl
  rw [unhide hHL] at ehv hhc
  have HFL : Hid (∀ wx, Below X1.heap.size X1 wx → Calls Tryz.prog 102 #[.agg #[.string x.name, .int .i64 x.params, .int .i64 x.locals, .slice ca N cc, .slice ha H hc]] wx fun e w' => ∃ g, e = .returned (.slice (some ⟨g, 0, none⟩) N N) ∧ Ro w' 1 (.slice (some ⟨g, 0, none⟩) N N) N (flt enN (fls N f.hs)) ∧ Below wx.heap.size wx w' ∧ wx.heap.size ≤ g) := fun wx hb => by
    have := Rx.below hx1.2.2.2.2 hb (Nat.le_refl _)
    rw [ehv] at this
    exact floors_any hN1 (by omega) this (fun h hh => by have := hf.hd h hh; rw [unhide hN] at this; omega)
  have HCL : Hid (∀ wx, Below X1.heap.size X1 wx → Calls Tryz.prog 103 #[.slice ha H hc] wx fun e w' => ∃ v', e = .returned v' ∧ Ro w' 4 v' f.hs.length (flt enH f.hs) ∧ Below wx.heap.size wx w' ∧ ∀ k, v'.ownBlock = some k → wx.heap.size ≤ k) := fun wx hb => by
    have := Rx.below hx1.2.2.2.2 hb (Nat.le_refl _)
    rw [ehv] at this
    exact cloneH_any (by rw [unhide hHL]; omega) this
  have nb := fun j z (hz : #[Value.string x.name, .int .i64 x.params, .int .i64 x.locals, x.cv, x.hv].toList[j]? = some z) => new_cells v0 #[.string x.name, .int .i64 x.params, .int .i64 x.locals, x.cv, x.hv] 73 j z hz
  have c0 : X1.cell? ⟨v0.heap.size, 0, none⟩ = some (.string x.name) := by have := nb 0 _ rfl; rw [Go.WideShapes.add_plain] at this; rw [eX1]; exact this
  have c1 : X1.cell? ⟨v0.heap.size, 1, none⟩ = some (.int .i64 x.params) := by have := nb 1 _ rfl; rw [Go.WideShapes.add_plain] at this; rw [eX1]; exact this
  have c2 : X1.cell? ⟨v0.heap.size, 2, none⟩ = some (.int .i64 x.locals) := by have := nb 2 _ rfl; rw [Go.WideShapes.add_plain] at this; rw [eX1]; exact this
  have c3 : X1.cell? ⟨v0.heap.size, 3, none⟩ = some (.slice ca N cc) := by have := nb 3 _ rfl; rw [Go.WideShapes.add_plain] at this; rw [eX1, ← ecv]; exact this
  have c4 : X1.cell? ⟨v0.heap.size, 4, none⟩ = some (.slice ha H hc) := by have := nb 4 _ rfl; rw [Go.WideShapes.add_plain] at this; rw [eX1, ← ehv]; exact this
  have lx : v0.heap.size < X1.heap.size := World.block_lt_of_cell? _ _ c0
  have HB1 := hide b1
  have HOF := hide hf
  have HCV := hide ecv
  have HHV := hide ehv
  rw [ecv, ehv] at eX1
  rw [ecv, ehv]
  clear nb hx hx1 b1 hf ecv ehv hcl hcm hhc hhm
  go_enter Tryz.func58, Tryz.ntmps58
  go_wp2_with fail
  rw [← eX1]
  clear eX1
  refine wp_region_held_drew (S := (fun wx => Below X1.heap.size X1 wx)) (by kernel_rfl) (Go.Proofs.YtlogmdldjmkkjaaGreatDoor.Below.drewN (Below.refl _ X1) 1) (fun hHeld => ?_)
  refine wpAnyH_take (i := 0) (oi := _) (v := .agg #[.string x.name, .int .i64 x.params, .int .i64 x.locals, .slice ca N cc, .slice ha H hc]) rfl (by kernel_rfl) (by kernel_rfl) (by kernel_rfl) (fun _ _ _ h => h) (Or.inl ⟨by rfl, (by intro w hSw; have q0 := (hSw.cell (p := ⟨v0.heap.size, 0, none⟩) lx).trans c0; have q1 := (hSw.cell (p := ⟨v0.heap.size, 1, none⟩) lx).trans c1; have q2 := (hSw.cell (p := ⟨v0.heap.size, 2, none⟩) lx).trans c2; have q3 := (hSw.cell (p := ⟨v0.heap.size, 3, none⟩) lx).trans c3; have q4 := (hSw.cell (p := ⟨v0.heap.size, 4, none⟩) lx).trans c4; have lx2 := Nat.lt_of_lt_of_le lx hSw.size; go_simp)⟩) (by assumption) ?_
  go_simp
  refine wpAnyH_take (i := 1) (oi := _) (v := .agg #[.string x.name, .int .i64 x.params, .int .i64 x.locals, .slice ca N cc, .slice ha H hc]) rfl (by kernel_rfl) (by kernel_rfl) (by kernel_rfl) (fun _ _ _ h => h) (Or.inl ⟨by rfl, (by intro w hSw; have q0 := (hSw.cell (p := ⟨v0.heap.size, 0, none⟩) lx).trans c0; have q1 := (hSw.cell (p := ⟨v0.heap.size, 1, none⟩) lx).trans c1; have q2 := (hSw.cell (p := ⟨v0.heap.size, 2, none⟩) lx).trans c2; have q3 := (hSw.cell (p := ⟨v0.heap.size, 3, none⟩) lx).trans c3; have q4 := (hSw.cell (p := ⟨v0.heap.size, 4, none⟩) lx).trans c4; have lx2 := Nat.lt_of_lt_of_le lx hSw.size; go_simp)⟩) (by assumption) ?_
  go_simp
  refine wpAnyH_take (i := 3) (oi := _) (v := .pointer (some ⟨v0.heap.size, 4, none⟩)) rfl (by kernel_rfl) (by kernel_rfl) (by kernel_rfl) (fun _ _ _ h => h) (Or.inl ⟨by rfl, (by intro w hSw; go_simp)⟩) (by assumption) ?_
  go_simp
  refine wpAnyH_take (i := 4) (oi := _) (v := .slice ha H hc) rfl (by kernel_rfl) (by kernel_rfl) (by kernel_rfl) (fun _ _ _ h => h) (Or.inl ⟨by rfl, (by intro w hSw; have q0 := (hSw.cell (p := ⟨v0.heap.size, 0, none⟩) lx).trans c0; have q1 := (hSw.cell (p := ⟨v0.heap.size, 1, none⟩) lx).trans c1; have q2 := (hSw.cell (p := ⟨v0.heap.size, 2, none⟩) lx).trans c2; have q3 := (hSw.cell (p := ⟨v0.heap.size, 3, none⟩) lx).trans c3; have q4 := (hSw.cell (p := ⟨v0.heap.size, 4, none⟩) lx).trans c4; have lx2 := Nat.lt_of_lt_of_le lx hSw.size; go_simp)⟩) (by assumption) ?_
  go_simp
  refine wpAnyH_ready (rs := [2, 7]) (by kernel_rfl) (by simp) ?_
  refine AllReadyH.cons (o := _) rfl (fun K hK => ?_) (AllReadyH.cons (o := _) rfl (fun K hK => ?_) AllReadyH.nil)
  · go_simp
    refine (unhide HFL _ (by assumption)).mono ?_
    rintro e Wf ⟨fb, rfl, hRf, hBf, hGf⟩
    have hSf : Below X1.heap.size X1 Wf := Bl.two (by assumption) hBf
    have HRF := hide hRf
    have HFB := hide (hRf.lt fb rfl)
    have HBF := hide hBf
    have HGF := hide hGf
    clear hRf hBf hGf
    refine hK.out _ _ (hSf) (fun hHeld2x => ?_)
    clear hK K
    go_simp
    refine wpAnyH_ready (rs := [5, 7]) (by kernel_rfl) (by simp) ?_
    refine AllReadyH.cons (o := _) rfl (fun K hK => ?_) (AllReadyH.cons (o := _) rfl (fun K hK => ?_) AllReadyH.nil)
    · go_simp
      refine (unhide HCL _ (by assumption)).mono ?_
      rintro e Wc ⟨iv, rfl, hRc, hBc, hGc⟩
      have hSc : Below X1.heap.size X1 Wc := Bl.two (by assumption) hBc
      obtain ⟨ia, ic, ev, _, _⟩ := hRc.shape
      rw [unhide hHL] at ev
      subst ev
      have HRC := hide hRc
      have HBC := hide hBc
      have HGC := hide hGc
      clear hRc hBc hGc
      refine hK.out _ _ (hSc) (fun hHeld5x => ?_)
      clear hK K
      go_simp
      refine wpAnyH_take (i := 6) (oi := _) (v := .agg #[.string x.name, .int .i64 x.params, .int .i64 x.locals, .slice ca N cc, .slice ha H hc, .slice (some ⟨fb, 0, none⟩) N N, .slice ia H ic, .slice none 0 0, .int .i64 0]) rfl (by kernel_rfl) (by kernel_rfl) (by kernel_rfl) (fun _ _ _ h => h) (Or.inl ⟨by rfl, (by intro w hSw; go_simp)⟩) (by assumption) ?_
      go_simp
      refine wpAnyH_ready (rs := [7]) (by kernel_rfl) (by simp) ?_
      refine AllReadyH.cons (o := _) rfl (fun K hK => ?_) AllReadyH.nil
      go_simp
      refine hK.out _ _ (by first | exact Bl.al (by assumption) _ | exact Go.Proofs.YtlogmdldjmkkjaaGreatDoor.Below.drewN (Bl.al (Below.refl _ _) _) 1) (fun hHeld7x => ?_)
      clear hK K
      go_simp
      refine wpAnyH_ready (rs := [8]) (by kernel_rfl) (by simp) ?_
      refine AllReadyH.cons (o := _) rfl (fun K hK => ?_) AllReadyH.nil
      go_simp
      refine hK.out _ _ (Bl.al hSc _) (fun hHeld8x => ?_)
      clear hK K
      refine wpAnyH_done (by kernel_rfl) ?_ _
      have HZ9 := hide (Z9.full Wc [.string x.name, .int .i64 x.params, .int .i64 x.locals, .slice ca N cc, .slice ha H hc, .slice (some ⟨fb, 0, none⟩) N N, .slice ia H ic, .slice none 0 0, .int .i64 0] rfl)
      have hSW : Below X1.heap.size X1 (Wc.alloc (.cells #[.string x.name, .int .i64 x.params, .int .i64 x.locals, .slice ca N cc, .slice ha H hc, .slice (some ⟨fb, 0, none⟩) N N, .slice ia H ic, .slice none 0 0, .int .i64 0] 177)) := Bl.al hSc _
      have hRF9 := ((unhide HRF).keep (fun g hg => (unhide HBC).block g ((unhide HRF).lt g hg))).keep (fun g hg => Below.heap_alloc _ (.cells #[.string x.name, .int .i64 x.params, .int .i64 x.locals, .slice ca N cc, .slice ha H hc, .slice (some ⟨fb, 0, none⟩) N N, .slice ia H ic, .slice none 0 0, .int .i64 0] 177) _ (Nat.lt_of_lt_of_le ((unhide HRF).lt g hg) (unhide HBC).size))
      have hRC9 := (unhide HRC).keep (fun g hg => Below.heap_alloc _ (.cells #[.string x.name, .int .i64 x.params, .int .i64 x.locals, .slice ca N cc, .slice ha H hc, .slice (some ⟨fb, 0, none⟩) N N, .slice ia H ic, .slice none 0 0, .int .i64 0] 177) _ ((unhide HRC).lt g hg))
      have HD : Hid (X1.heap.size ≤ Wc.heap.size ∧ X1.heap.size ≤ fb ∧ Wc.heap.size ≠ fb ∧ ∀ k, (Value.slice ia H ic).ownBlock = some k → X1.heap.size ≤ k ∧ k ≠ Wc.heap.size ∧ k ≠ fb) := by
        have h1 := unhide HGF
        have h2 := unhide HFB
        have h3 := hSf.size
        have h4 := (unhide HBF).size
        have h5 := (unhide HBC).size
        simp at h1 h4
        try simp only [World.size_alloc] at h5
        refine ⟨by omega, by omega, by omega, fun k hk => ?_⟩
        have h6 := unhide HGC k hk
        have h7 := (unhide HRC).lt k hk
        try simp only [World.size_alloc] at h6
        exact ⟨by omega, by omega, by omega⟩
      have HRF9 := hide hRF9
      have HRC9 := hide hRC9
      have HSW := hide hSW
      obtain ⟨W, eW⟩ : ∃ W, W = Wc.alloc (.cells #[.string x.name, .int .i64 x.params, .int .i64 x.locals, .slice ca N cc, .slice ha H hc, .slice (some ⟨fb, 0, none⟩) N N, .slice ia H ic, .slice none 0 0, .int .i64 0] 177) := ⟨_, rfl⟩
      obtain ⟨wb, ewb, HD⟩ : ∃ wb, wb = Wc.heap.size ∧ Hid (X1.heap.size ≤ wb ∧ X1.heap.size ≤ fb ∧ wb ≠ fb ∧ ∀ k, (Value.slice ia H ic).ownBlock = some k → X1.heap.size ≤ k ∧ k ≠ wb ∧ k ≠ fb) := ⟨_, rfl, HD⟩
      rw [← eW] at HRF9 HRC9 HSW HZ9
      rw [← ewb] at HZ9
      change Exit.then _ _ _ _ (Wc.alloc (.cells #[.string x.name, .int .i64 x.params, .int .i64 x.locals, .slice ca N cc, .slice ha H hc, .slice (some ⟨fb, 0, none⟩) N N, .slice ia H ic, .slice none 0 0, .int .i64 0] 177))
      rw [← eW, ← ewb]
      clear eW ewb
      clear hSW hRF9 hRC9 hHeld hSf hSc
      have x3 := (unhide HSW).cell (p := ⟨v0.heap.size, 3, none⟩) lx |>.trans c3
      have w7 := cell9 (unhide HZ9) 7 _ rfl
      have lw := World.block_lt_of_cell? _ _ w7
      have l0 := World.block_lt_of_cell? _ _ x3
      have nm1 := Bxv.new W (.int .i64 (-1)) 3
      have HRP := hide (repeat_any (w := W.alloc (.cells #[.int .i64 (-1)] 3)) (xb := W.heap.size) (xo := 0) (xc := 1) N hN1 (by omega) nm1.1)
      clear nm1
      go_wp2_with fail
      refine (unhide HRP).mono ?_
      rintro e W2 ⟨hb, rfl, hRP⟩
      obtain ⟨H0, B2, G2⟩ := fun_rep (unhide HZ9) (unhide HRF9) (unhide HRC9) (unhide HSW) (unhide HD) hRP (by unfold maxLen; omega)
      have x3 := B2.cell (p := ⟨v0.heap.size, 3, none⟩) lx |>.trans c3
      have w7 := cell9 H0.wk 7 _ rfl
      have w8 := cell9 H0.wk 8 _ rfl
      have z7 := H0.wk.free rfl 7
      have z8 := H0.wk.free rfl 8
      have lw := World.block_lt_of_cell? _ _ w7
      have l0 := World.block_lt_of_cell? _ _ x3
      have hS0 := fun_s0 (unhide HOF) (unhide HX1) (unhide hN) (by rw [unhide HCV, unhide HHV]; exact H0) B2 (unhide HD) G2
      have HMA := hide (meetAll_any (Iv f (fls f.code.length f.hs)) (mu f) rfl hS0.2 hS0.1 (Iv.first (unhide HOF) _) (fun A l s hA hl => hA.step (unhide HOF) (fls_len _ _) hl))
      have HBZ := hide hS0.2.wz
      have HHZ := hide hS0.2.hz
      clear hRP HRP H0 B2 G2 hS0
      go_wp2_with fail
      refine (unhide HMA).mono ?_
      rintro e X9 ⟨⟨_, rfl⟩, A, iv9, lv9, hI9, hL9, hS9⟩
      have HI9 := hide hI9
      have HL9 := hide hL9
      have HS9 := hide hS9
      have HBL := hide hS9.bl
      have x3 := hS9.bl.cell (p := ⟨v0.heap.size, 3, none⟩) lx |>.trans c3
      have w7 := hS9.cell (j := 7) rfl
      have w8 := hS9.cell (j := 8) rfl
      rw [unhide hN] at w7
      have lw := World.block_lt_of_cell? _ _ w7
      have l0 := World.block_lt_of_cell? _ _ x3
      clear hI9 hL9 hS9 HMA z7 z8
      obtain ⟨wr, hwr⟩ : ∃ wr, Hid (A.wr = wr) := ⟨_, rfl⟩
      rw [unhide hwr] at w8
      have hW := (unhide HI9).wrong (unhide HOF) (unhide HL9)
      rw [unhide hN, unhide hwr] at hW
      rcases hW with ⟨rfl, hnb⟩ | ⟨p, rfl, hpN, hb, hlt⟩
      · have hhl : A.hts.length = N := by rw [(unhide HI9).len, unhide hN]
        have hrn : Rn X9 (.slice (some ⟨hb, 0, none⟩) N N) A.hts := Rx.of_ro (by rw [hhl]; have := (unhide HS9).ho; rw [unhide hN] at this; exact this)
        have HIX := hide (index_any (-1) hrn)
        obtain ⟨ix, hix⟩ : ∃ ix, Hid (ixl A.hts (-1) = ix) := ⟨_, rfl⟩
        rw [unhide hix] at HIX
        have HNB := hide hnb
        clear hnb hrn
        go_wp2_with fail
        refine (unhide HIX).mono ?_
        rintro e X10 ⟨rfl, hb10⟩
        have HB10 : Hid (Below X9.heap.size X9 X10) := by first | exact hb10 | (rw [hb10]; exact Below.refl _ _)
        have x3 := (unhide HB10).cell (p := ⟨v0.heap.size, 3, none⟩) l0 |>.trans x3
        have w7 := (unhide HB10).cell (p := ⟨wb, 7, none⟩) lw |>.trans w7
        have lw := World.block_lt_of_cell? _ _ w7
        have l0 := World.block_lt_of_cell? _ _ x3
        have HBE : Hid (Below v0.heap.size v0 X10) := ((unhide HB1).trans ((unhide HBL).mono (unhide HB1).size)).trans ((unhide HB10).mono (by have := (unhide HB1).size; have := (unhide HBL).size; omega))
        clear hb10 HIX w8
        by_cases hneg : ∃ p : Nat, A.hts[p]? = some (-1)
        · obtain ⟨p, hp, hpl⟩ := least_neg hneg
          have hixp : ix = (p : Int) := by rw [← unhide hix]; exact ixl_hit hp (fun j y hj hy e => hpl j hj (by rw [hy, e]))
          have HF := hide (fn_un (unhide HOF) (unhide HI9) (unhide HL9) (unhide HNB) hp hpl)
          subst hixp
          have hp0 : (0 : Int) ≤ (p : Int) := by omega
          clear hneg hp hpl
          go_wp2_with fail
          go_ret3
          exact ⟨_, _, _, none, rfl, unhide HF, unhide HBE, fun _ => rfl, fun l e => by cases e⟩
        · have hixp : ix = -1 := by rw [← unhide hix]; exact ixl_miss (fun j y hj hy e => hneg ⟨j, by rw [hy, e]⟩)
          obtain ⟨M, hM⟩ : ∃ M, M + 1 = f.code.length := ⟨N - 1, by rw [unhide hN]; omega⟩
          have hMN : M + 1 = N := by rw [hM, unhide hN]
          obtain ⟨⟨op, a⟩, hi⟩ : ∃ q, f.code[M]? = some q := ⟨_, List.getElem?_eq_getElem (by omega)⟩
          obtain ⟨cb, co, cc', ecv, _, _, lc, hc9⟩ := Rx.elem zI (unhide HX1).2.2.2.1 hi
          rw [unhide HCV, unhide hN] at ecv
          cases ecv
          have kc := ((unhide HB10).cell (p := ⟨cb, co + M * 2 + 0, none⟩) (Nat.lt_of_lt_of_le lc (unhide HBL).size)).trans (((unhide HBL).cell (p := ⟨cb, co + M * 2 + 0, none⟩) lc).trans (hc9 0 _ rfl))
          rw [Nat.add_zero] at kc
          have lc := World.block_lt_of_cell? _ _ kc
          have hw : IntKind.i64.wrap ((N : Int) - 1) = (M : Int) := by rw [IntKind.wrap_i64]; omega
          have m0 : (0 : Int) ≤ (M : Int) := by omega
          have m1 : (M : Int) < (N : Int) := by omega
          obtain ⟨en, hE⟩ : ∃ T, Hid (enB op = T) := ⟨_, rfl⟩
          have HE := hide (ends_any X10 op)
          rw [unhide hE] at HE
          have HNG := hide hneg
          have HM := hide hM
          have HI := hide hi
          clear hneg hM hi hc9 hMN
          subst hixp
          go_wp2_with fail
          refine (unhide HE).mono ?_
          rintro e X11 ⟨rfl, rfl⟩
          cases en with
          | false =>
            have HF := hide (fn_last (unhide HOF) (unhide HI9) (unhide HL9) (unhide HNB) (unhide HNG) (unhide HM) (unhide HI) (unhide hE))
            go_wp2_with fail
            go_ret3
            exact ⟨_, _, _, none, rfl, unhide HF, unhide HBE, fun _ => rfl, fun l e => by cases e⟩
          | true =>
            have HF := hide (fn_ok (unhide HOF) (unhide HI9) (unhide HL9) (unhide HNB) (unhide HNG) (unhide HM) (unhide HI) (unhide hE))
            go_wp2_with fail
            go_ret3
            refine ⟨_, _, _, some A.hts, rfl, unhide HF, unhide HBE, (fun e => by cases e), fun l e => ?_⟩
            cases e
            have hro := (unhide HS9).ho
            rw [← (unhide HI9).len] at hro
            refine ⟨?_, fun k hk => ?_⟩
            · have := hro.keep (fun g hg => (unhide HB10).block g (hro.lt g hg))
              rw [(unhide HI9).len, unhide hN] at this ⊢
              exact this
            · simp [Value.ownBlock] at hk
              have := (unhide HHZ).1
              have := (unhide HB1).size
              omega
      · have hpi : (p : Int) < (N : Int) := by omega
        have HF : Hid (FnR f none (p : Int) 9) := .inl ⟨rfl, rfl, p, rfl, hb, hlt⟩
        clear hb hlt
        go_wp2_with fail
        go_quiet (fail)
        go_wp2_with fail
        go_ret3
        exact ⟨_, _, _, none, rfl, unhide HF, Go.Proofs.YtlogmdldjmkkjaaGreatDoor.Below.drewN ((unhide HB1).trans ((unhide HBL).mono (unhide HB1).size)) _, fun _ => rfl, fun l e => by cases e⟩
    · have HZ := hide (Z9.new Wf)
      have HRF := hide ((unhide HRF).keep (w' := Wf.alloc (.cells #[.string ⟨#[]⟩, .int .i64 0, .int .i64 0, .slice none 0 0, .slice none 0 0, .slice none 0 0, .slice none 0 0, .slice none 0 0, .int .i64 0] 177)) (fun g hg => Below.heap_alloc _ _ _ ((unhide HRF).lt g hg)))
      go_simp
      refine hK.out _ _ (by first | exact Bl.al (by assumption) _ | exact Go.Proofs.YtlogmdldjmkkjaaGreatDoor.Below.drewN (Bl.al (Below.refl _ _) _) 1) (fun hHeld7x => ?_)
      clear hK K
      go_simp
      refine wpAnyH_ready (rs := [5]) (by kernel_rfl) (by simp) ?_
      refine AllReadyH.cons (o := _) rfl (fun K hK => ?_) AllReadyH.nil
      go_simp
      refine (unhide HCL _ (by assumption)).mono ?_
      rintro e Wc ⟨iv, rfl, hRc, hBc, hGc⟩
      have hSc : Below X1.heap.size X1 Wc := Bl.two (by assumption) hBc
      obtain ⟨ia, ic, ev, _, _⟩ := hRc.shape
      rw [unhide hHL] at ev
      subst ev
      have HZ := hide ((unhide HZ).below hBc)
      have HRC := hide hRc
      have HBC := hide hBc
      have HGC := hide hGc
      clear hRc hBc hGc
      refine hK.out _ _ (hSc) (fun hHeld5x => ?_)
      clear hK K
      go_simp
      refine wpAnyH_take (i := 6) (oi := _) (v := .agg #[.string x.name, .int .i64 x.params, .int .i64 x.locals, .slice ca N cc, .slice ha H hc, .slice (some ⟨fb, 0, none⟩) N N, .slice ia H ic, .slice none 0 0, .int .i64 0]) rfl (by kernel_rfl) (by kernel_rfl) (by kernel_rfl) (fun _ _ _ h => h) (Or.inl ⟨by rfl, (by intro w hSw; go_simp)⟩) (by assumption) ?_
      go_simp
      refine wpAnyH_ready (rs := [8]) (by kernel_rfl) (by simp) ?_
      refine AllReadyH.cons (o := _) rfl (fun K hK => ?_) AllReadyH.nil
      obtain ⟨y0, y1, y2, y3, y4, y5, y6, y7, y8⟩ := (unhide HZ).cells
      have z0 := (unhide HZ).free rfl 0
      have z1 := (unhide HZ).free rfl 1
      have z2 := (unhide HZ).free rfl 2
      have z3 := (unhide HZ).free rfl 3
      have z4 := (unhide HZ).free rfl 4
      have z5 := (unhide HZ).free rfl 5
      have z6 := (unhide HZ).free rfl 6
      have z7 := (unhide HZ).free rfl 7
      have z8 := (unhide HZ).free rfl 8
      have ly := World.block_lt_of_cell? _ _ y0
      go_simp
      refine hK.out _ _ (Bl.st hSc hSf.size [.string x.name, .int .i64 x.params, .int .i64 x.locals, .slice ca N cc, .slice ha H hc, .slice (some ⟨fb, 0, none⟩) N N, .slice ia H ic, .slice none 0 0, .int .i64 0]) (fun hHeld8x => ?_)
      clear hK K
      refine wpAnyH_done (by kernel_rfl) ?_ _
      have HZ9 := hide (Z9.put (unhide HZ) [.string x.name, .int .i64 x.params, .int .i64 x.locals, .slice ca N cc, .slice ha H hc, .slice (some ⟨fb, 0, none⟩) N N, .slice ia H ic, .slice none 0 0, .int .i64 0] rfl)
      have hSW : Below X1.heap.size X1 (Wc.setCells Wf.heap.size 0 [.string x.name, .int .i64 x.params, .int .i64 x.locals, .slice ca N cc, .slice ha H hc, .slice (some ⟨fb, 0, none⟩) N N, .slice ia H ic, .slice none 0 0, .int .i64 0]) := Bl.st hSc hSf.size _
      have hff := setcells_fr Wc Wf.heap.size 0 [.string x.name, .int .i64 x.params, .int .i64 x.locals, .slice ca N cc, .slice ha H hc, .slice (some ⟨fb, 0, none⟩) N N, .slice ia H ic, .slice none 0 0, .int .i64 0]
      have hRF9 := ((unhide HRF).keep (fun g hg => (unhide HBC).block g ((unhide HRF).lt g hg))).fr hff (fun k hk e => by simp [Value.ownBlock] at hk; have h1 := unhide HGF; have h2 := unhide HFB; have h3 := hSf.size; simp at h1; omega)
      have hRC9 := (unhide HRC).fr hff (fun k hk e => by have h1 := unhide HGC k hk; have h3 := hSf.size; have h4 := (unhide HBF).size; (try simp only [World.size_alloc] at h1); simp at h4; omega)
      have HD : Hid (X1.heap.size ≤ Wf.heap.size ∧ X1.heap.size ≤ fb ∧ Wf.heap.size ≠ fb ∧ ∀ k, (Value.slice ia H ic).ownBlock = some k → X1.heap.size ≤ k ∧ k ≠ Wf.heap.size ∧ k ≠ fb) := by
        have h1 := unhide HGF
        have h2 := unhide HFB
        have h3 := hSf.size
        have h4 := (unhide HBF).size
        have h5 := (unhide HBC).size
        simp at h1 h4
        try simp only [World.size_alloc] at h5
        refine ⟨by omega, by omega, by omega, fun k hk => ?_⟩
        have h6 := unhide HGC k hk
        have h7 := (unhide HRC).lt k hk
        try simp only [World.size_alloc] at h6
        exact ⟨by omega, by omega, by omega⟩
      have HRF9 := hide hRF9
      have HRC9 := hide hRC9
      have HSW := hide hSW
      obtain ⟨W, eW⟩ : ∃ W, W = Wc.setCells Wf.heap.size 0 [.string x.name, .int .i64 x.params, .int .i64 x.locals, .slice ca N cc, .slice ha H hc, .slice (some ⟨fb, 0, none⟩) N N, .slice ia H ic, .slice none 0 0, .int .i64 0] := ⟨_, rfl⟩
      obtain ⟨wb, ewb, HD⟩ : ∃ wb, wb = Wf.heap.size ∧ Hid (X1.heap.size ≤ wb ∧ X1.heap.size ≤ fb ∧ wb ≠ fb ∧ ∀ k, (Value.slice ia H ic).ownBlock = some k → X1.heap.size ≤ k ∧ k ≠ wb ∧ k ≠ fb) := ⟨_, rfl, HD⟩
      rw [← eW] at HRF9 HRC9 HSW HZ9
      rw [← ewb] at HZ9
      change Exit.then _ _ _ _ (Wc.setCells Wf.heap.size 0 [.string x.name, .int .i64 x.params, .int .i64 x.locals, .slice ca N cc, .slice ha H hc, .slice (some ⟨fb, 0, none⟩) N N, .slice ia H ic, .slice none 0 0, .int .i64 0])
      rw [← eW, ← ewb]
      clear eW ewb
      clear hSW hRF9 hRC9 hHeld hSf hSc
      have x3 := (unhide HSW).cell (p := ⟨v0.heap.size, 3, none⟩) lx |>.trans c3
      have w7 := cell9 (unhide HZ9) 7 _ rfl
      have lw := World.block_lt_of_cell? _ _ w7
      have l0 := World.block_lt_of_cell? _ _ x3
      have nm1 := Bxv.new W (.int .i64 (-1)) 3
      have HRP := hide (repeat_any (w := W.alloc (.cells #[.int .i64 (-1)] 3)) (xb := W.heap.size) (xo := 0) (xc := 1) N hN1 (by omega) nm1.1)
      clear nm1
      go_wp2_with fail
      refine (unhide HRP).mono ?_
      rintro e W2 ⟨hb, rfl, hRP⟩
      obtain ⟨H0, B2, G2⟩ := fun_rep (unhide HZ9) (unhide HRF9) (unhide HRC9) (unhide HSW) (unhide HD) hRP (by unfold maxLen; omega)
      have x3 := B2.cell (p := ⟨v0.heap.size, 3, none⟩) lx |>.trans c3
      have w7 := cell9 H0.wk 7 _ rfl
      have w8 := cell9 H0.wk 8 _ rfl
      have z7 := H0.wk.free rfl 7
      have z8 := H0.wk.free rfl 8
      have lw := World.block_lt_of_cell? _ _ w7
      have l0 := World.block_lt_of_cell? _ _ x3
      have hS0 := fun_s0 (unhide HOF) (unhide HX1) (unhide hN) (by rw [unhide HCV, unhide HHV]; exact H0) B2 (unhide HD) G2
      have HMA := hide (meetAll_any (Iv f (fls f.code.length f.hs)) (mu f) rfl hS0.2 hS0.1 (Iv.first (unhide HOF) _) (fun A l s hA hl => hA.step (unhide HOF) (fls_len _ _) hl))
      have HBZ := hide hS0.2.wz
      have HHZ := hide hS0.2.hz
      clear hRP HRP H0 B2 G2 hS0
      go_wp2_with fail
      refine (unhide HMA).mono ?_
      rintro e X9 ⟨⟨_, rfl⟩, A, iv9, lv9, hI9, hL9, hS9⟩
      have HI9 := hide hI9
      have HL9 := hide hL9
      have HS9 := hide hS9
      have HBL := hide hS9.bl
      have x3 := hS9.bl.cell (p := ⟨v0.heap.size, 3, none⟩) lx |>.trans c3
      have w7 := hS9.cell (j := 7) rfl
      have w8 := hS9.cell (j := 8) rfl
      rw [unhide hN] at w7
      have lw := World.block_lt_of_cell? _ _ w7
      have l0 := World.block_lt_of_cell? _ _ x3
      clear hI9 hL9 hS9 HMA z7 z8
      obtain ⟨wr, hwr⟩ : ∃ wr, Hid (A.wr = wr) := ⟨_, rfl⟩
      rw [unhide hwr] at w8
      have hW := (unhide HI9).wrong (unhide HOF) (unhide HL9)
      rw [unhide hN, unhide hwr] at hW
      rcases hW with ⟨rfl, hnb⟩ | ⟨p, rfl, hpN, hb, hlt⟩
      · have hhl : A.hts.length = N := by rw [(unhide HI9).len, unhide hN]
        have hrn : Rn X9 (.slice (some ⟨hb, 0, none⟩) N N) A.hts := Rx.of_ro (by rw [hhl]; have := (unhide HS9).ho; rw [unhide hN] at this; exact this)
        have HIX := hide (index_any (-1) hrn)
        obtain ⟨ix, hix⟩ : ∃ ix, Hid (ixl A.hts (-1) = ix) := ⟨_, rfl⟩
        rw [unhide hix] at HIX
        have HNB := hide hnb
        clear hnb hrn
        go_wp2_with fail
        refine (unhide HIX).mono ?_
        rintro e X10 ⟨rfl, hb10⟩
        have HB10 : Hid (Below X9.heap.size X9 X10) := by first | exact hb10 | (rw [hb10]; exact Below.refl _ _)
        have x3 := (unhide HB10).cell (p := ⟨v0.heap.size, 3, none⟩) l0 |>.trans x3
        have w7 := (unhide HB10).cell (p := ⟨wb, 7, none⟩) lw |>.trans w7
        have lw := World.block_lt_of_cell? _ _ w7
        have l0 := World.block_lt_of_cell? _ _ x3
        have HBE : Hid (Below v0.heap.size v0 X10) := ((unhide HB1).trans ((unhide HBL).mono (unhide HB1).size)).trans ((unhide HB10).mono (by have := (unhide HB1).size; have := (unhide HBL).size; omega))
        clear hb10 HIX w8
        by_cases hneg : ∃ p : Nat, A.hts[p]? = some (-1)
        · obtain ⟨p, hp, hpl⟩ := least_neg hneg
          have hixp : ix = (p : Int) := by rw [← unhide hix]; exact ixl_hit hp (fun j y hj hy e => hpl j hj (by rw [hy, e]))
          have HF := hide (fn_un (unhide HOF) (unhide HI9) (unhide HL9) (unhide HNB) hp hpl)
          subst hixp
          have hp0 : (0 : Int) ≤ (p : Int) := by omega
          clear hneg hp hpl
          go_wp2_with fail
          go_ret3
          exact ⟨_, _, _, none, rfl, unhide HF, unhide HBE, fun _ => rfl, fun l e => by cases e⟩
        · have hixp : ix = -1 := by rw [← unhide hix]; exact ixl_miss (fun j y hj hy e => hneg ⟨j, by rw [hy, e]⟩)
          obtain ⟨M, hM⟩ : ∃ M, M + 1 = f.code.length := ⟨N - 1, by rw [unhide hN]; omega⟩
          have hMN : M + 1 = N := by rw [hM, unhide hN]
          obtain ⟨⟨op, a⟩, hi⟩ : ∃ q, f.code[M]? = some q := ⟨_, List.getElem?_eq_getElem (by omega)⟩
          obtain ⟨cb, co, cc', ecv, _, _, lc, hc9⟩ := Rx.elem zI (unhide HX1).2.2.2.1 hi
          rw [unhide HCV, unhide hN] at ecv
          cases ecv
          have kc := ((unhide HB10).cell (p := ⟨cb, co + M * 2 + 0, none⟩) (Nat.lt_of_lt_of_le lc (unhide HBL).size)).trans (((unhide HBL).cell (p := ⟨cb, co + M * 2 + 0, none⟩) lc).trans (hc9 0 _ rfl))
          rw [Nat.add_zero] at kc
          have lc := World.block_lt_of_cell? _ _ kc
          have hw : IntKind.i64.wrap ((N : Int) - 1) = (M : Int) := by rw [IntKind.wrap_i64]; omega
          have m0 : (0 : Int) ≤ (M : Int) := by omega
          have m1 : (M : Int) < (N : Int) := by omega
          obtain ⟨en, hE⟩ : ∃ T, Hid (enB op = T) := ⟨_, rfl⟩
          have HE := hide (ends_any X10 op)
          rw [unhide hE] at HE
          have HNG := hide hneg
          have HM := hide hM
          have HI := hide hi
          clear hneg hM hi hc9 hMN
          subst hixp
          go_wp2_with fail
          refine (unhide HE).mono ?_
          rintro e X11 ⟨rfl, rfl⟩
          cases en with
          | false =>
            have HF := hide (fn_last (unhide HOF) (unhide HI9) (unhide HL9) (unhide HNB) (unhide HNG) (unhide HM) (unhide HI) (unhide hE))
            go_wp2_with fail
            go_ret3
            exact ⟨_, _, _, none, rfl, unhide HF, unhide HBE, fun _ => rfl, fun l e => by cases e⟩
          | true =>
            have HF := hide (fn_ok (unhide HOF) (unhide HI9) (unhide HL9) (unhide HNB) (unhide HNG) (unhide HM) (unhide HI) (unhide hE))
            go_wp2_with fail
            go_ret3
            refine ⟨_, _, _, some A.hts, rfl, unhide HF, unhide HBE, (fun e => by cases e), fun l e => ?_⟩
            cases e
            have hro := (unhide HS9).ho
            rw [← (unhide HI9).len] at hro
            refine ⟨?_, fun k hk => ?_⟩
            · have := hro.keep (fun g hg => (unhide HB10).block g (hro.lt g hg))
              rw [(unhide HI9).len, unhide hN] at this ⊢
              exact this
            · simp [Value.ownBlock] at hk
              have := (unhide HHZ).1
              have := (unhide HB1).size
              omega
      · have hpi : (p : Int) < (N : Int) := by omega
        have HF : Hid (FnR f none (p : Int) 9) := .inl ⟨rfl, rfl, p, rfl, hb, hlt⟩
        clear hb hlt
        go_wp2_with fail
        go_quiet (fail)
        go_wp2_with fail
        go_ret3
        exact ⟨_, _, _, none, rfl, unhide HF, Go.Proofs.YtlogmdldjmkkjaaGreatDoor.Below.drewN ((unhide HB1).trans ((unhide HBL).mono (unhide HB1).size)) _, fun _ => rfl, fun l e => by cases e⟩
  · have HZ := hide ((Z9.new X1).drew)
    go_simp
    refine hK.out _ _ (by first | exact Bl.al (by assumption) _ | exact Go.Proofs.YtlogmdldjmkkjaaGreatDoor.Below.drewN (Bl.al (Below.refl _ _) _) 1) (fun hHeld7x => ?_)
    clear hK K
    go_simp
    refine wpAnyH_ready (rs := [2]) (by kernel_rfl) (by simp) ?_
    refine AllReadyH.cons (o := _) rfl (fun K hK => ?_) AllReadyH.nil
    go_simp
    refine (unhide HFL _ (by assumption)).mono ?_
    rintro e Wf ⟨fb, rfl, hRf, hBf, hGf⟩
    have hSf : Below X1.heap.size X1 Wf := Bl.two (by assumption) hBf
    have HZ := hide ((unhide HZ).below hBf)
    have HRF := hide hRf
    have HFB := hide (hRf.lt fb rfl)
    have HBF := hide hBf
    have HGF := hide hGf
    clear hRf hBf hGf
    refine hK.out _ _ (hSf) (fun hHeld2x => ?_)
    clear hK K
    go_simp
    refine wpAnyH_ready (rs := [5]) (by kernel_rfl) (by simp) ?_
    refine AllReadyH.cons (o := _) rfl (fun K hK => ?_) AllReadyH.nil
    go_simp
    refine (unhide HCL _ (by assumption)).mono ?_
    rintro e Wc ⟨iv, rfl, hRc, hBc, hGc⟩
    have hSc : Below X1.heap.size X1 Wc := Bl.two (by assumption) hBc
    obtain ⟨ia, ic, ev, _, _⟩ := hRc.shape
    rw [unhide hHL] at ev
    subst ev
    have HZ := hide ((unhide HZ).below hBc)
    have HRC := hide hRc
    have HBC := hide hBc
    have HGC := hide hGc
    clear hRc hBc hGc
    refine hK.out _ _ (hSc) (fun hHeld5x => ?_)
    clear hK K
    go_simp
    refine wpAnyH_take (i := 6) (oi := _) (v := .agg #[.string x.name, .int .i64 x.params, .int .i64 x.locals, .slice ca N cc, .slice ha H hc, .slice (some ⟨fb, 0, none⟩) N N, .slice ia H ic, .slice none 0 0, .int .i64 0]) rfl (by kernel_rfl) (by kernel_rfl) (by kernel_rfl) (fun _ _ _ h => h) (Or.inl ⟨by rfl, (by intro w hSw; go_simp)⟩) (by assumption) ?_
    go_simp
    refine wpAnyH_ready (rs := [8]) (by kernel_rfl) (by simp) ?_
    refine AllReadyH.cons (o := _) rfl (fun K hK => ?_) AllReadyH.nil
    obtain ⟨y0, y1, y2, y3, y4, y5, y6, y7, y8⟩ := (unhide HZ).cells
    have z0 := (unhide HZ).free rfl 0
    have z1 := (unhide HZ).free rfl 1
    have z2 := (unhide HZ).free rfl 2
    have z3 := (unhide HZ).free rfl 3
    have z4 := (unhide HZ).free rfl 4
    have z5 := (unhide HZ).free rfl 5
    have z6 := (unhide HZ).free rfl 6
    have z7 := (unhide HZ).free rfl 7
    have z8 := (unhide HZ).free rfl 8
    have ly := World.block_lt_of_cell? _ _ y0
    go_simp
    refine hK.out _ _ (Bl.st hSc (Nat.le_refl _) [.string x.name, .int .i64 x.params, .int .i64 x.locals, .slice ca N cc, .slice ha H hc, .slice (some ⟨fb, 0, none⟩) N N, .slice ia H ic, .slice none 0 0, .int .i64 0]) (fun hHeld8x => ?_)
    clear hK K
    refine wpAnyH_done (by kernel_rfl) ?_ _
    have HZ9 := hide (Z9.put (unhide HZ) [.string x.name, .int .i64 x.params, .int .i64 x.locals, .slice ca N cc, .slice ha H hc, .slice (some ⟨fb, 0, none⟩) N N, .slice ia H ic, .slice none 0 0, .int .i64 0] rfl)
    have hSW : Below X1.heap.size X1 (Wc.setCells X1.heap.size 0 [.string x.name, .int .i64 x.params, .int .i64 x.locals, .slice ca N cc, .slice ha H hc, .slice (some ⟨fb, 0, none⟩) N N, .slice ia H ic, .slice none 0 0, .int .i64 0]) := Bl.st hSc (Nat.le_refl _) _
    have hff := setcells_fr Wc X1.heap.size 0 [.string x.name, .int .i64 x.params, .int .i64 x.locals, .slice ca N cc, .slice ha H hc, .slice (some ⟨fb, 0, none⟩) N N, .slice ia H ic, .slice none 0 0, .int .i64 0]
    have hRF9 := ((unhide HRF).keep (fun g hg => (unhide HBC).block g ((unhide HRF).lt g hg))).fr hff (fun k hk e => by simp [Value.ownBlock] at hk; have h1 := unhide HGF; have h2 := unhide HFB; have h3 := hSf.size; simp at h1; omega)
    have hRC9 := (unhide HRC).fr hff (fun k hk e => by have h1 := unhide HGC k hk; have h3 := hSf.size; have h4 := (unhide HBF).size; (try simp only [World.size_alloc] at h1); simp at h4; omega)
    have HD : Hid (X1.heap.size ≤ X1.heap.size ∧ X1.heap.size ≤ fb ∧ X1.heap.size ≠ fb ∧ ∀ k, (Value.slice ia H ic).ownBlock = some k → X1.heap.size ≤ k ∧ k ≠ X1.heap.size ∧ k ≠ fb) := by
      have h1 := unhide HGF
      have h2 := unhide HFB
      have h3 := hSf.size
      have h4 := (unhide HBF).size
      have h5 := (unhide HBC).size
      simp at h1 h4
      try simp only [World.size_alloc] at h5
      refine ⟨by omega, by omega, by omega, fun k hk => ?_⟩
      have h6 := unhide HGC k hk
      have h7 := (unhide HRC).lt k hk
      try simp only [World.size_alloc] at h6
      exact ⟨by omega, by omega, by omega⟩
    have HRF9 := hide hRF9
    have HRC9 := hide hRC9
    have HSW := hide hSW
    obtain ⟨W, eW⟩ : ∃ W, W = Wc.setCells X1.heap.size 0 [.string x.name, .int .i64 x.params, .int .i64 x.locals, .slice ca N cc, .slice ha H hc, .slice (some ⟨fb, 0, none⟩) N N, .slice ia H ic, .slice none 0 0, .int .i64 0] := ⟨_, rfl⟩
    obtain ⟨wb, ewb, HD⟩ : ∃ wb, wb = X1.heap.size ∧ Hid (X1.heap.size ≤ wb ∧ X1.heap.size ≤ fb ∧ wb ≠ fb ∧ ∀ k, (Value.slice ia H ic).ownBlock = some k → X1.heap.size ≤ k ∧ k ≠ wb ∧ k ≠ fb) := ⟨_, rfl, HD⟩
    rw [← eW] at HRF9 HRC9 HSW HZ9
    rw [← ewb] at HZ9
    change Exit.then _ _ _ _ (Wc.setCells X1.heap.size 0 [.string x.name, .int .i64 x.params, .int .i64 x.locals, .slice ca N cc, .slice ha H hc, .slice (some ⟨fb, 0, none⟩) N N, .slice ia H ic, .slice none 0 0, .int .i64 0])
    rw [← eW, ← ewb]
    clear eW ewb
    clear hSW hRF9 hRC9 hHeld hSf hSc
    have x3 := (unhide HSW).cell (p := ⟨v0.heap.size, 3, none⟩) lx |>.trans c3
    have w7 := cell9 (unhide HZ9) 7 _ rfl
    have lw := World.block_lt_of_cell? _ _ w7
    have l0 := World.block_lt_of_cell? _ _ x3
    have nm1 := Bxv.new W (.int .i64 (-1)) 3
    have HRP := hide (repeat_any (w := W.alloc (.cells #[.int .i64 (-1)] 3)) (xb := W.heap.size) (xo := 0) (xc := 1) N hN1 (by omega) nm1.1)
    clear nm1
    go_wp2_with fail
    refine (unhide HRP).mono ?_
    rintro e W2 ⟨hb, rfl, hRP⟩
    obtain ⟨H0, B2, G2⟩ := fun_rep (unhide HZ9) (unhide HRF9) (unhide HRC9) (unhide HSW) (unhide HD) hRP (by unfold maxLen; omega)
    have x3 := B2.cell (p := ⟨v0.heap.size, 3, none⟩) lx |>.trans c3
    have w7 := cell9 H0.wk 7 _ rfl
    have w8 := cell9 H0.wk 8 _ rfl
    have z7 := H0.wk.free rfl 7
    have z8 := H0.wk.free rfl 8
    have lw := World.block_lt_of_cell? _ _ w7
    have l0 := World.block_lt_of_cell? _ _ x3
    have hS0 := fun_s0 (unhide HOF) (unhide HX1) (unhide hN) (by rw [unhide HCV, unhide HHV]; exact H0) B2 (unhide HD) G2
    have HMA := hide (meetAll_any (Iv f (fls f.code.length f.hs)) (mu f) rfl hS0.2 hS0.1 (Iv.first (unhide HOF) _) (fun A l s hA hl => hA.step (unhide HOF) (fls_len _ _) hl))
    have HBZ := hide hS0.2.wz
    have HHZ := hide hS0.2.hz
    clear hRP HRP H0 B2 G2 hS0
    go_wp2_with fail
    refine (unhide HMA).mono ?_
    rintro e X9 ⟨⟨_, rfl⟩, A, iv9, lv9, hI9, hL9, hS9⟩
    have HI9 := hide hI9
    have HL9 := hide hL9
    have HS9 := hide hS9
    have HBL := hide hS9.bl
    have x3 := hS9.bl.cell (p := ⟨v0.heap.size, 3, none⟩) lx |>.trans c3
    have w7 := hS9.cell (j := 7) rfl
    have w8 := hS9.cell (j := 8) rfl
    rw [unhide hN] at w7
    have lw := World.block_lt_of_cell? _ _ w7
    have l0 := World.block_lt_of_cell? _ _ x3
    clear hI9 hL9 hS9 HMA z7 z8
    obtain ⟨wr, hwr⟩ : ∃ wr, Hid (A.wr = wr) := ⟨_, rfl⟩
    rw [unhide hwr] at w8
    have hW := (unhide HI9).wrong (unhide HOF) (unhide HL9)
    rw [unhide hN, unhide hwr] at hW
    rcases hW with ⟨rfl, hnb⟩ | ⟨p, rfl, hpN, hb, hlt⟩
    · have hhl : A.hts.length = N := by rw [(unhide HI9).len, unhide hN]
      have hrn : Rn X9 (.slice (some ⟨hb, 0, none⟩) N N) A.hts := Rx.of_ro (by rw [hhl]; have := (unhide HS9).ho; rw [unhide hN] at this; exact this)
      have HIX := hide (index_any (-1) hrn)
      obtain ⟨ix, hix⟩ : ∃ ix, Hid (ixl A.hts (-1) = ix) := ⟨_, rfl⟩
      rw [unhide hix] at HIX
      have HNB := hide hnb
      clear hnb hrn
      go_wp2_with fail
      refine (unhide HIX).mono ?_
      rintro e X10 ⟨rfl, hb10⟩
      have HB10 : Hid (Below X9.heap.size X9 X10) := by first | exact hb10 | (rw [hb10]; exact Below.refl _ _)
      have x3 := (unhide HB10).cell (p := ⟨v0.heap.size, 3, none⟩) l0 |>.trans x3
      have w7 := (unhide HB10).cell (p := ⟨wb, 7, none⟩) lw |>.trans w7
      have lw := World.block_lt_of_cell? _ _ w7
      have l0 := World.block_lt_of_cell? _ _ x3
      have HBE : Hid (Below v0.heap.size v0 X10) := ((unhide HB1).trans ((unhide HBL).mono (unhide HB1).size)).trans ((unhide HB10).mono (by have := (unhide HB1).size; have := (unhide HBL).size; omega))
      clear hb10 HIX w8
      by_cases hneg : ∃ p : Nat, A.hts[p]? = some (-1)
      · obtain ⟨p, hp, hpl⟩ := least_neg hneg
        have hixp : ix = (p : Int) := by rw [← unhide hix]; exact ixl_hit hp (fun j y hj hy e => hpl j hj (by rw [hy, e]))
        have HF := hide (fn_un (unhide HOF) (unhide HI9) (unhide HL9) (unhide HNB) hp hpl)
        subst hixp
        have hp0 : (0 : Int) ≤ (p : Int) := by omega
        clear hneg hp hpl
        go_wp2_with fail
        go_ret3
        exact ⟨_, _, _, none, rfl, unhide HF, unhide HBE, fun _ => rfl, fun l e => by cases e⟩
      · have hixp : ix = -1 := by rw [← unhide hix]; exact ixl_miss (fun j y hj hy e => hneg ⟨j, by rw [hy, e]⟩)
        obtain ⟨M, hM⟩ : ∃ M, M + 1 = f.code.length := ⟨N - 1, by rw [unhide hN]; omega⟩
        have hMN : M + 1 = N := by rw [hM, unhide hN]
        obtain ⟨⟨op, a⟩, hi⟩ : ∃ q, f.code[M]? = some q := ⟨_, List.getElem?_eq_getElem (by omega)⟩
        obtain ⟨cb, co, cc', ecv, _, _, lc, hc9⟩ := Rx.elem zI (unhide HX1).2.2.2.1 hi
        rw [unhide HCV, unhide hN] at ecv
        cases ecv
        have kc := ((unhide HB10).cell (p := ⟨cb, co + M * 2 + 0, none⟩) (Nat.lt_of_lt_of_le lc (unhide HBL).size)).trans (((unhide HBL).cell (p := ⟨cb, co + M * 2 + 0, none⟩) lc).trans (hc9 0 _ rfl))
        rw [Nat.add_zero] at kc
        have lc := World.block_lt_of_cell? _ _ kc
        have hw : IntKind.i64.wrap ((N : Int) - 1) = (M : Int) := by rw [IntKind.wrap_i64]; omega
        have m0 : (0 : Int) ≤ (M : Int) := by omega
        have m1 : (M : Int) < (N : Int) := by omega
        obtain ⟨en, hE⟩ : ∃ T, Hid (enB op = T) := ⟨_, rfl⟩
        have HE := hide (ends_any X10 op)
        rw [unhide hE] at HE
        have HNG := hide hneg
        have HM := hide hM
        have HI := hide hi
        clear hneg hM hi hc9 hMN
        subst hixp
        go_wp2_with fail
        refine (unhide HE).mono ?_
        rintro e X11 ⟨rfl, rfl⟩
        cases en with
        | false =>
          have HF := hide (fn_last (unhide HOF) (unhide HI9) (unhide HL9) (unhide HNB) (unhide HNG) (unhide HM) (unhide HI) (unhide hE))
          go_wp2_with fail
          go_ret3
          exact ⟨_, _, _, none, rfl, unhide HF, unhide HBE, fun _ => rfl, fun l e => by cases e⟩
        | true =>
          have HF := hide (fn_ok (unhide HOF) (unhide HI9) (unhide HL9) (unhide HNB) (unhide HNG) (unhide HM) (unhide HI) (unhide hE))
          go_wp2_with fail
          go_ret3
          refine ⟨_, _, _, some A.hts, rfl, unhide HF, unhide HBE, (fun e => by cases e), fun l e => ?_⟩
          cases e
          have hro := (unhide HS9).ho
          rw [← (unhide HI9).len] at hro
          refine ⟨?_, fun k hk => ?_⟩
          · have := hro.keep (fun g hg => (unhide HB10).block g (hro.lt g hg))
            rw [(unhide HI9).len, unhide hN] at this ⊢
            exact this
          · simp [Value.ownBlock] at hk
            have := (unhide HHZ).1
            have := (unhide HB1).size
            omega
    · have hpi : (p : Int) < (N : Int) := by omega
      have HF : Hid (FnR f none (p : Int) 9) := .inl ⟨rfl, rfl, p, rfl, hb, hlt⟩
      clear hb hlt
      go_wp2_with fail
      go_quiet (fail)
      go_wp2_with fail
      go_ret3
      exact ⟨_, _, _, none, rfl, unhide HF, Go.Proofs.YtlogmdldjmkkjaaGreatDoor.Below.drewN ((unhide HB1).trans ((unhide HBL).mono (unhide HB1).size)) _, fun _ => rfl, fun l e => by cases e⟩
end Go.Proofs.YtlogmdldjmkkjaaGreatDoor
