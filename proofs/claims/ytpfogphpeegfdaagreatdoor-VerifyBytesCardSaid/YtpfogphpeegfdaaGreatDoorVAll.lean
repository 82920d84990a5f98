/-
  meetAll.
-/
import Derived.Test.YtpfogphpeegfdaaGreatDoorVGo
namespace Go.Proofs.YtpfogphpeegfdaaGreatDoor
open Go.RowKit
set_option linter.unusedVariables false
set_option linter.unusedSimpArgs false
/-- Before meet is made. -/
structure S0 (w0 : World) (wb fb hb : Nat) (x : Fv) (f : Fc) (fl : List Int) (iv : Value) (idle : List Hd) (hts : List Int) (wr : Int) (X : World) : Prop where
  wk : Ro X 9 (.slice (some ⟨wb, 0, none⟩) 1 1) 1 (wkC x fb hb f.code.length iv wr)
  fo : Ro X 1 (.slice (some ⟨fb, 0, none⟩) f.code.length f.code.length) f.code.length (flt enN fl)
  ho : Ro X 1 (.slice (some ⟨hb, 0, none⟩) f.code.length f.code.length) f.code.length (flt enN hts)
  io : Ro X 4 iv idle.length (flt enH idle)
  iz : ∀ k, iv.ownBlock = some k → w0.heap.size ≤ k ∧ k ≠ wb ∧ k ≠ fb ∧ k ≠ hb
  bl : Below w0.heap.size w0 X
  is : ∀ h ∈ idle, h ∈ f.hs
  il : idle.length ≤ f.hs.length
section
variable {w0 X Y : World} {Z wb fb hb : Nat} {x : Fv} {f : Fc} {fl : List Int} {iv lv : Value} {idle : List Hd} {hts : List Int} {wr : Int} {met left : List Spot}
theorem S0.st (h : S0 w0 wb fb hb x f fl iv idle hts wr X) (t1 t2 : TypeId) :
    St w0 X.heap.size wb fb hb x f fl iv (.slice none 0 0) idle hts wr [] [] (((X.alloc (.map #[] 0)).alloc (.cells #[.map (some X.heap.size)] t1)).alloc (.cells #[.slice none 0 0] t2)) := by
  have f3 : Fr (fun _ => False) X (((X.alloc (.map #[] 0)).alloc (.cells #[.map (some X.heap.size)] t1)).alloc (.cells #[.slice none 0 0] t2)) := (((Fr.refl _ X).alloc _).alloc _).alloc _
  have f2 : Fr (fun _ => False) (X.alloc (.map #[] 0)) (((X.alloc (.map #[] 0)).alloc (.cells #[.map (some X.heap.size)] t1)).alloc (.cells #[.slice none 0 0] t2)) := ((Fr.refl _ _).alloc _).alloc _
  have f1 : Fr (fun _ => False) ((X.alloc (.map #[] 0)).alloc (.cells #[.map (some X.heap.size)] t1)) (((X.alloc (.map #[] 0)).alloc (.cells #[.map (some X.heap.size)] t1)).alloc (.cells #[.slice none 0 0] t2)) := (Fr.refl _ _).alloc _
  refine ⟨h.wk.fr f3 (fun _ _ e => e), h.fo.fr f3 (fun _ _ e => e), h.ho.fr f3 (fun _ _ e => e), h.io.fr f3 (fun _ _ e => e), ⟨?_, ?_, ?_, ?_, ?_⟩, fun k hk => ?_, h.bl.trans (f3.below h.bl.size (fun _ _ e => e)), h.is, h.il⟩
  · exact (Bxv.new' _ _ _ (by simp)).keep f1 (fun e => e)
  · exact (MS.made X).keep (f2.block _ (by simp) (fun e => e))
  · exact Bxv.new' _ _ _ (by simp)
  · exact ⟨rfl, .inl ⟨rfl, rfl⟩⟩
  · intro k hk; simp [Value.ownBlock] at hk
  · have := h.iz k hk; have := h.io.lt k hk; omega
/-- The last is taken off. -/
theorem St.pop {l : List Spot} {s : Spot} {g off n cap : Nat} (h : St w0 Z wb fb hb x f fl iv lv idle hts wr met left X) (g0 : Bs w0 Z wb fb hb x f) (e : left = l ++ [s]) (ev : lv = .slice (some ⟨g, off, none⟩) n cap) :
    St w0 Z wb fb hb x f fl iv (.slice (some ⟨g, off, none⟩) (n - 1) cap) idle hts wr met l (X.setCell ⟨Z + 2, 0, none⟩ (.slice (some ⟨g, off, none⟩) (n - 1) cap)) ∧ Fr (fun k => k = Z + 2) X (X.setCell ⟨Z + 2, 0, none⟩ (.slice (some ⟨g, off, none⟩) (n - 1) cap)) := by
  subst e ev
  have fs : Fr (fun k => k = Z + 2) X (X.setCell ⟨Z + 2, 0, none⟩ (.slice (some ⟨g, off, none⟩) (n - 1) cap)) := (Fr.refl _ X).cellset (Z + 2) 0 _ rfl
  have hlf := h.ml.lf
  obtain ⟨_, _, e, hc, _⟩ := hlf.shape
  cases e
  have hl : (l ++ [s]).length - 1 = l.length := by simp
  have hown := h.ml.own g rfl
  have g1 := g0.wz; have g2 := g0.fz; have g3 := g0.hz
  refine ⟨⟨h.wk.fr fs ?_, h.fo.fr fs ?_, h.ho.fr fs ?_, h.io.fr fs (fun k hk => ?_), ⟨h.ml.bm.keep fs (by omega), h.ml.ms.keep (fs.block _ (by have := h.ml.bl.lt; omega) (by omega)), h.ml.bl.set _, ?_, fun k hk => h.ml.own k hk⟩, h.iz, h.bl.trans (fs.below h.bl.size (fun k hk => by omega)), h.is, h.il⟩, fs⟩
  · intro k hk; simp [Value.ownBlock] at hk; omega
  · intro k hk; simp [Value.ownBlock] at hk; omega
  · intro k hk; simp [Value.ownBlock] at hk; omega
  · have := h.iz k hk; omega
  · rw [hl]
    rw [hl] at fs
    have r1 : Ro X 2 (.slice (some ⟨g, off, none⟩) l.length cap) l.length (flt enI l) := by
      refine (hlf.sets rfl (o := off) (m := l.length) (vs := []) (ys := flt enI l) (by omega) (by simp) (by simp at hc; omega) (by rw [flt_length zI]) (fun j hj => ?_) (fun j hj q => by simp at q; omega)).1
      rw [if_neg (by simp), flt_append, List.getElem?_append_left (by rw [flt_length zI]; exact hj)]
    refine r1.fr fs (fun k hk => ?_)
    simp [Value.ownBlock] at hk
    omega
/-- A height is put. -/
theorem St.puth {p : Nat} (h : St w0 Z wb fb hb x f fl iv lv idle hts wr met left X) (g0 : Bs w0 Z wb fb hb x f) (hp : p < f.code.length) (v : Int) :
    St w0 Z wb fb hb x f fl iv lv idle (hts.set p v) wr met left (X.setCell ⟨hb, p, none⟩ (.int .i64 v)) := by
  have fs : Fr (fun k => k = hb) X (X.setCell ⟨hb, p, none⟩ (.int .i64 v)) := (Fr.refl _ X).cellset hb p _ rfl
  have g1 := g0.wz; have g2 := g0.fz; have g3 := g0.hz; have g4 := g0.wh; have g5 := g0.fh
  have hpn := h.ho.putN hp v
  rw [Nat.zero_add] at hpn
  refine ⟨h.wk.fr fs ?_, h.fo.fr fs ?_, hpn, h.io.fr fs (fun k hk => ?_), h.ml.keep fs (by omega) (by omega) (by omega) (fun k hk => ?_), h.iz, h.bl.trans (fs.below h.bl.size (fun k hk => by omega)), h.is, h.il⟩
  · intro k hk; simp [Value.ownBlock] at hk; omega
  · intro k hk; simp [Value.ownBlock] at hk; omega
  · have := h.iz k hk; omega
  · have := h.ml.own k hk; omega
end
set_option maxRecDepth 100000 in
set_option maxHeartbeats 6400000 in
theorem meetAll_any {w0 X : World} {wb fb hb : Nat} {x : Fv} {f : Fc} {fl : List Int} {iv : Value} {idle : List Hd} {hts : List Int} {wr : Int} (I : Sa → Prop) (mu : Sa → Nat) {Z : Nat} (hZ : X.heap.size = Z) (g : Bs w0 Z wb fb hb x f) (h : S0 w0 wb fb hb x f fl iv idle hts wr X)
    (hI : I ⟨idle, hts, wr, mtM [] (0, 0), mtL [] [] (0, 0)⟩) (hstep : ∀ A l s, I A → A.left = l ++ [s] → ∃ (p : Nat) (op a fv : Int), s.1 = (p : Int) ∧ Sp f fl I mu A l p s.2 op a fv) :
    Calls Tryz.prog 50 #[.pointer (some ⟨wb, 0, none⟩)] X fun e X' => (∃ v, e = .returned v) ∧ ∃ A iv lv, I A ∧ A.left = [] ∧ St w0 Z wb fb hb x f fl iv lv A.idle A.hts A.wr A.met A.left X' := by
  have hS1 := h.st 140 141
  have HG := hide g
  rw [hZ] at hS1
  obtain ⟨X1, eX1⟩ : ∃ X1, X1 = ((X.alloc (.map #[] 0)).alloc (.cells #[.map (some X.heap.size)] 140)).alloc (.cells #[.slice none 0 0] 141) := ⟨_, rfl⟩
  have HM0 := hide (meet_any 0 0 (OkS.of (by omega) (by omega) (by omega) (by omega)) hS1.ml (by simp) (by simp))
  rw [hZ] at eX1
  rw [← eX1] at hS1 HM0
  have HS1 := hide hS1
  have HI := hide hI
  have HST := hide hstep
  have hmm := @run_makeMap Tryz.prog
  clear hS1 g h hI hstep
  go_enter Tryz.func50, Tryz.ntmps50
  go_wp2_with fail
  rw [← eX1]
  refine (unhide HM0).mono ?_
  rintro e X2 ⟨⟨_, rfl⟩, lv0, hM2, hF2, hN2⟩
  have HS2 := hide ((unhide HS1).mets (unhide HG) hM2 hF2)
  clear hM2 hF2 hN2 HM0 HS1 hmm eX1
  go_wp2_with fail
  rw [show Z + 1 + 1 = Z + 2 from rfl]
  go_loopg [10] (mu ⟨idle, hts, wr, mtM [] (0, 0), mtL [] [] (0, 0)⟩) (fun gg t10 wi => Hid (∃ A iv lv, I A ∧ mu A ≤ gg ∧ St w0 Z wb fb hb x f fl iv lv A.idle A.hts A.wr A.met A.left wi))
  case atStart => exact ⟨_, iv, lv0, unhide HI, Nat.le_refl _, unhide HS2⟩
  case round =>
    have hA := hrel
    clear hrel
    obtain ⟨A, iv2, lv, hIA, hmu, hSA⟩ := unhide hA
    have HIA := hide hIA
    have HMU := hide hmu
    have HSA := hide hSA
    have cl := hSA.ml.bl.1
    have fzl := hSA.ml.bl.2
    have ll := hSA.ml.bl.lt
    obtain ⟨la, lc, ev, hlc, hlm⟩ := hSA.ml.lf.shape
    unfold maxLen at hlm
    obtain ⟨L, hL⟩ : ∃ L, Hid (A.left.length = L) := ⟨_, rfl⟩
    rw [unhide hL] at ev hlc
    subst ev
    clear hA hIA hmu HI HS2
    rcases List.eq_nil_or_concat A.left with hnil | ⟨l, s, hcon⟩
    · have hL0 : L = 0 := by rw [← unhide hL, hnil]; rfl
      subst hL0
      have HNIL := hide hnil
      clear hnil hSA
      go_wp2_with fail
      go_end0
      exact ⟨⟨_, rfl⟩, A, iv2, _, unhide HIA, unhide HNIL, unhide HSA⟩
    · rw [List.concat_eq_append] at hcon
      have hL1 : L = l.length + 1 := by rw [← unhide hL, hcon]; simp
      obtain ⟨p, op, a, fv, hsp, SP⟩ := unhide HST A l s (unhide HIA) (by rw [hcon])
      obtain ⟨s1, ht⟩ := s
      simp only at hsp SP
      subst hsp
      obtain ⟨M, hM⟩ : ∃ M, Hid (l.length = M) := ⟨_, rfl⟩
      have hLM : L = M + 1 := by rw [hL1, unhide hM]
      have hel : A.left[M]? = some ((p : Int), ht) := by rw [hcon, ← unhide hM]; simp
      obtain ⟨lg, off, c', e, _, _, llg, hc⟩ := Rx.elem zI (Rx.of_ro hSA.ml.lf) hel
      rw [unhide hL] at e
      cases e
      have k0 := hc 0 _ rfl
      have k1 := hc 1 _ rfl
      rw [Nat.add_zero] at k0
      obtain ⟨N, hN⟩ : ∃ N, Hid (f.code.length = N) := ⟨_, rfl⟩
      have hp : p < N := by rw [← unhide hN]; exact (List.getElem?_eq_some_iff.1 SP.hi).1
      have hNm : N ≤ 1048576 := by rw [← unhide hN]; exact (unhide HG).nm
      have hhl : A.hts.length = N := by have := hSA.ho.1; rw [flt_map, List.length_map, Nat.mul_one, unhide hN] at this; exact this
      obtain ⟨hv, hhv⟩ : ∃ q, A.hts[p]? = some q := ⟨_, List.getElem?_eq_getElem (by omega)⟩
      have i0 : (0 : Int) ≤ (M : Int) := by omega
      have i1 : (M : Int) < (L : Int) := by omega
      have i2 : (0 : Int) < (L : Int) := by omega
      have hMl : M ≤ L := by omega
      have hw : IntKind.i64.wrap ((L : Int) - 1) = (M : Int) := by rw [IntKind.wrap_i64]; omega
      have hP0 := hSA.pop (unhide HG) hcon rfl
      have hLs : L - 1 = M := by omega
      rw [hLs] at hP0
      obtain ⟨W2, eW2⟩ : ∃ W2, W2 = wr.setCell ⟨Z + 2, 0, none⟩ (.slice (some ⟨lg, off, none⟩) M lc) := ⟨_, rfl⟩
      rw [← eW2] at hP0
      have hs2 : W2.heap.size = wr.heap.size := by rw [eW2]; simp
      have nb := fun j z (hz : #[Value.int .i64 (p : Int), .int .i64 ht].toList[j]? = some z) => new_cells W2 #[.int .i64 (p : Int), .int .i64 ht] 143 j z hz
      obtain ⟨W3, eW3⟩ : ∃ W3, W3 = W2.alloc (.cells #[.int .i64 (p : Int), .int .i64 ht] 143) := ⟨_, rfl⟩
      have hP1 := hP0.1.keep (unhide HG) ((Fr.refl (fun _ => False) W2).alloc (.cells #[.int .i64 (p : Int), .int .i64 ht] 143)) (fun _ _ e => e)
      rw [← eW3] at hP1
      have hP : St _ _ _ _ _ _ _ _ _ _ _ _ _ _ _ W3 ∧ True := ⟨hP1, trivial⟩
      have s0 : W3.cell? ⟨wr.heap.size, 0, none⟩ = some (.int .i64 (p : Int)) := by
        have := nb 0 _ rfl; rw [Go.WideShapes.add_plain, hs2] at this
        rw [eW3]; exact this
      have s1 : W3.cell? ⟨wr.heap.size, 1, none⟩ = some (.int .i64 ht) := by
        have := nb 1 _ rfl; rw [Go.WideShapes.add_plain, hs2] at this
        rw [eW3]; exact this
      have ls0 := World.block_lt_of_cell? _ _ s0
      have c7 := hP.1.cell (j := 7) rfl
      rw [unhide hN] at c7
      have lw7 := World.block_lt_of_cell? _ _ c7
      have ch := hP.1.hcell hhv
      have lh := World.block_lt_of_cell? _ _ ch
      have j0 : (0 : Int) ≤ (p : Int) := by omega
      have j1 : (p : Int) < (N : Int) := by omega
      have hZs : Hid (Z + 3 ≤ wr.heap.size) := by unfold Hid; omega
      have hLG : Hid (lg ≠ wr.heap.size) := by unfold Hid; omega
      have HP := hide hP.1
      have HSP := hide SP
      have HLL : Hid (l.length < 50000000) := by have := SP.hl; unfold Hid; rw [hcon] at this; simp at this; omega
      have HHV := hide hhv
      rw [eW2] at eW3
      clear hP hP0 hP1 nb hs2 eW2 W2 hc hel SP hSA hhl hL1 hcon hhv hLM hLs
      go_wp2_with fail
      rw [← eW3]
      obtain ⟨sb, hsb⟩ : ∃ sb, wr.heap.size = sb := ⟨_, rfl⟩
      rw [hsb] at s0 s1 ls0 hZs hLG ⊢
      clear hsb
      clear eW3 hw k0 k1 cl fzl ll llg i0 i1 i2 hMl
      by_cases h1 : hv = -1
      · subst h1
        go_quiet (fail)
        obtain ⟨W4, eW4⟩ : ∃ W4, W4 = W3.drewN nq := ⟨_, rfl⟩
        have fr4 : Fr (fun _ => False) W3 W4 := by rw [eW4]; exact Fr.drewN nq
        have H4 := hide ((unhide HP).keep (unhide HG) fr4 (fun _ _ e => e))
        have s0 := (fr4.cell (a := ⟨sb, 0, none⟩) ls0 (fun e => e)).trans s0
        have s1 := (fr4.cell (a := ⟨sb, 1, none⟩) ls0 (fun e => e)).trans s1
        have c7 := (fr4.cell (a := ⟨wb, 7, none⟩) lw7 (fun e => e)).trans c7
        have ch := (fr4.cell (a := ⟨hb, p, none⟩) lh (fun e => e)).trans ch
        have ls0 := World.block_lt_of_cell? _ _ s0
        have lw7 := World.block_lt_of_cell? _ _ c7
        have lh := World.block_lt_of_cell? _ _ ch
        have fzh := (unhide H4).ho.free rfl p
        rw [← eW4]
        clear eW4 fr4 HP
        have hwh : Hid (¬ wb = hb) := (unhide HG).wh
        have hsh : Hid (¬ sb = hb) := by have := (unhide HG).hz; have := unhide hZs; unfold Hid; omega
        have hSt : Fr (fun k => k = hb) W4 ((W4.setCell ⟨hb, p, none⟩ (.int .i64 ht)).drew) := ((Fr.refl (fun k => k = hb) W4).setCell ⟨hb, p, none⟩ (.inr rfl) _).drew
        go_wp2_with fail
        refine wp_region_held_drew (S := (fun wx => Fr (fun k => k = hb) W4 wx)) (by kernel_rfl) ((Fr.refl _ W4).drew) (fun hHeld => ?_)
        refine wpAnyH_take (i := 0) (oi := _) (v := .pointer (some ⟨wb, 0, none⟩)) rfl (by kernel_rfl) (by kernel_rfl) (by kernel_rfl) (fun _ _ _ h => h) (Or.inl ⟨by rfl, (by intro w hSw; go_simp)⟩) (by assumption) ?_
        go_simp
        refine wpAnyH_take (i := 1) (oi := _) (v := .pointer (some ⟨wb, 0, none⟩)) rfl (by kernel_rfl) (by kernel_rfl) (by kernel_rfl) (fun _ _ _ h => h) (Or.inl ⟨by rfl, (by intro w hSw; go_simp)⟩) (by assumption) ?_
        go_simp
        refine wpAnyH_take (i := 2) (oi := _) (v := .pointer (some ⟨wb, 7, none⟩)) rfl (by kernel_rfl) (by kernel_rfl) (by kernel_rfl) (fun _ _ _ h => h) (Or.inl ⟨by rfl, (by intro w hSw; go_simp)⟩) (by assumption) ?_
        go_simp
        refine wpAnyH_take (i := 3) (oi := _) (v := .slice (some ⟨hb, 0, none⟩) N N) rfl (by kernel_rfl) (by kernel_rfl) (by kernel_rfl) (fun _ _ _ h => h) (Or.inl ⟨by rfl, (by intro w hSw; have q0 := (hSw.cell (a := ⟨wb, 7, none⟩) lw7 (fun e => unhide hwh e)).trans c7; go_simp)⟩) (by assumption) ?_
        go_simp
        refine wpAnyH_take (i := 4) (oi := _) (v := .pointer (some ⟨sb, 0, none⟩)) rfl (by kernel_rfl) (by kernel_rfl) (by kernel_rfl) (fun _ _ _ h => h) (Or.inl ⟨by rfl, (by intro w hSw; go_simp)⟩) (by assumption) ?_
        go_simp
        refine wpAnyH_take (i := 5) (oi := _) (v := .int .i64 (p : Int)) rfl (by kernel_rfl) (by kernel_rfl) (by kernel_rfl) (fun _ _ _ h => h) (Or.inl ⟨by rfl, (by intro w hSw; have q0 := (hSw.cell (a := ⟨sb, 0, none⟩) ls0 (fun e => unhide hsh e)).trans s0; go_simp)⟩) (by assumption) ?_
        go_simp
        refine wpAnyH_take (i := 6) (oi := _) (v := .pointer (some ⟨sb, 1, none⟩)) rfl (by kernel_rfl) (by kernel_rfl) (by kernel_rfl) (fun _ _ _ h => h) (Or.inl ⟨by rfl, (by intro w hSw; go_simp)⟩) (by assumption) ?_
        go_simp
        refine wpAnyH_take (i := 7) (oi := _) (v := .int .i64 ht) rfl (by kernel_rfl) (by kernel_rfl) (by kernel_rfl) (fun _ _ _ h => h) (Or.inl ⟨by rfl, (by intro w hSw; have q0 := (hSw.cell (a := ⟨sb, 1, none⟩) ls0 (fun e => unhide hsh e)).trans s1; go_simp)⟩) (by assumption) ?_
        go_simp
        refine wpAnyH_take (i := 8) (oi := _) (v := .pointer (some ⟨hb, p, none⟩)) rfl (by kernel_rfl) (by kernel_rfl) (by kernel_rfl) (fun _ _ _ h => h) (Or.inl ⟨by rfl, (by intro w hSw; go_simp)⟩) (by assumption) ?_
        go_simp
        refine wpAnyH_ready (rs := [9]) (by kernel_rfl) (by simp) ?_
        refine AllReadyH.cons (o := _) rfl (fun K hK => ?_) AllReadyH.nil
        go_simp
        refine hK.out _ _ (hSt) (fun hHeld9x => ?_)
        clear hK K
        go_simp
        refine wpAnyH_done (by kernel_rfl) ?_ _
        have H5 := hide (((unhide H4).puth (unhide HG) (by rw [unhide hN]; exact hp) ht).keep (unhide HG) (Fr.refl (fun _ => False) _).drew (fun _ _ e => e))
        obtain ⟨W5, eW5⟩ : ∃ W5, W5 = (W4.setCell ⟨hb, p, none⟩ (.int .i64 ht)).drew := ⟨_, rfl⟩
        rw [← eW5] at H5 hSt ⊢
        have s0 := (hSt.cell (a := ⟨sb, 0, none⟩) ls0 (fun e => unhide hsh e)).trans s0
        have s1 := (hSt.cell (a := ⟨sb, 1, none⟩) ls0 (fun e => unhide hsh e)).trans s1
        have ls0 := World.block_lt_of_cell? _ _ s0
        have HC := hide (wake_any (p : Int) (unhide HG) (unhide H5) (by have := unhide HLL; omega) (by have := (unhide HSP).hm; omega))
        clear eW5 hSt H4 hHeld c7 lw7 ch lh fzh
        go_wp2_with fail
        refine (unhide HC).mono ?_
        rintro e W6 ⟨⟨_, rfl⟩, iv3, lv3, hS6, hF6, hN6⟩
        have hns : ¬ stS Z (.slice (some ⟨lg, off, none⟩) M lc) sb := by
          have := unhide hZs
          have := unhide hLG
          rintro (q | q | q | q)
          · omega
          · omega
          · omega
          · simp [Value.ownBlock] at q; omega
        have s0 := (hF6.cell (a := ⟨sb, 0, none⟩) ls0 hns).trans s0
        have s1 := (hF6.cell (a := ⟨sb, 1, none⟩) ls0 hns).trans s1
        have ls0 := World.block_lt_of_cell? _ _ s0
        have ew : wak p ht { A with left := l } = ⟨idl p A.idle, A.hts.set p ht, A.wr, (wkF p A.idle (A.met, l)).1, (wkF p A.idle (A.met, l)).2⟩ := by unfold wak; rw [if_pos (unhide HHV)]
        have hset : (A.hts.set p ht)[p]? = some ht := List.getElem?_set_self (List.getElem?_eq_some_iff.1 (unhide HHV)).1
        have HNX := hide ((unhide HSP).nxt ht (by rw [ew]; exact hset))
        rw [ew] at HNX
        have hwl := wkF_length p A.idle (A.met, l)
        have hil := (unhide H5).il
        have hihm := (unhide HG).hm
        have HC2 := hide (goOn_any (unhide HG) hS6 (by have := unhide HLL; simp only at hwl; omega) (by have := (unhide HSP).hm; simp only at hwl; omega) (unhide HSP).hi (unhide HSP).hok (unhide HSP).hja hset (unhide HSP).hf (unhide HSP).h0 (unhide HSP).h1)
        clear hS6 hF6 hN6 HC H5 ew hset hwl hil hihm hns
        go_wp2_with fail
        refine (unhide HC2).mono ?_
        rintro e W7 ⟨⟨_, rfl⟩, lv4, hS7, _, _⟩
        have HR : Hid (∃ A iv lv, I A ∧ mu A ≤ gk - 1 ∧ St w0 Z wb fb hb x f fl iv lv A.idle A.hts A.wr A.met A.left W7) := ⟨_, _, lv4, (unhide HNX).1, by have := (unhide HNX).2; have := unhide HMU; omega, hS7⟩
        clear hS7
        go_wp2_with fail
        go_roundg (gk - 1)
        case measure => have := (unhide HNX).2; have := unhide HMU; omega
        case rel => exact HR
      · have h1b : (hv == -1) = false := by simpa using h1
        have ew : wak p ht { A with left := l } = { A with left := l } := by unfold wak; rw [if_neg (fun e => h1 (Option.some.inj ((unhide HHV).symm.trans e)))]
        have HNX := hide ((unhide HSP).nxt hv (by rw [ew]; exact unhide HHV))
        rw [ew] at HNX
        go_quiet (fail)
        have H4 := hide ((unhide HP).keep (unhide HG) (Fr.drewN (S := fun _ => False) nq) (fun _ _ e => e))
        have fr4 : Fr (fun _ => False) W3 (W3.drewN nq) := Fr.drewN nq
        have s0 := (fr4.cell (a := ⟨sb, 0, none⟩) ls0 (fun e => e)).trans s0
        have s1 := (fr4.cell (a := ⟨sb, 1, none⟩) ls0 (fun e => e)).trans s1
        obtain ⟨W4, eW4⟩ : ∃ W4, W4 = W3.drewN nq := ⟨_, rfl⟩
        rw [← eW4] at H4 s0 s1 ⊢
        have ls0 := World.block_lt_of_cell? _ _ s0
        have HC2 := hide (goOn_any (unhide HG) (unhide H4) (by have := unhide HLL; omega) (by have := (unhide HSP).hm; omega) (unhide HSP).hi (unhide HSP).hok (unhide HSP).hja (unhide HHV) (unhide HSP).hf (unhide HSP).h0 (unhide HSP).h1)
        clear eW4 fr4 c7 lw7 ch lh HP H4 ew
        go_wp2_with fail
        refine (unhide HC2).mono ?_
        rintro e W7 ⟨⟨_, rfl⟩, lv4, hS7, _, _⟩
        have HR : Hid (∃ A iv lv, I A ∧ mu A ≤ gk - 1 ∧ St w0 Z wb fb hb x f fl iv lv A.idle A.hts A.wr A.met A.left W7) := ⟨_, _, lv4, (unhide HNX).1, by have := (unhide HNX).2; have := unhide HMU; omega, hS7⟩
        clear hS7
        go_wp2_with fail
        go_roundg (gk - 1)
        case measure => have := (unhide HNX).2; have := unhide HMU; omega
        case rel => exact HR
end Go.Proofs.YtpfogphpeegfdaaGreatDoor
