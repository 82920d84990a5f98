/-
  ProfileBook's law.
-/
import Derived.Test.YtjjfpokmpcpicaaBkL
namespace Go.Proofs.Ytjjfpokmpcpicaa
open Go.RowKit
set_option linter.unusedVariables false
set_option linter.unusedSimpArgs false
/-- Boxes, each as it was made. -/
structure BX (w : World) (cs : List (Nat × Array Value × TypeId)) (W : World) : Prop where
  h : ∀ (i : Nat) (e : Nat × Array Value × TypeId), cs[i]? = some e → W.heap[e.1]? = some (.cells e.2.1 e.2.2)
  b : Below w.heap.size w W
section
variable {w W W' : World} {cs : List (Nat × Array Value × TypeId)}
theorem BX.go (h : BX w cs W) (k : Below W.heap.size W W') : BX w cs W' := ⟨fun i e he => (k.block _ (Array.getElem?_eq_some_iff.1 (h.h i e he)).1).trans (h.h i e he), bl_past h.b k⟩
theorem BX.add (h : BX w cs W) (a : Array Value) (t : TypeId) : BX w (cs ++ [(W.heap.size, a, t)]) (W.alloc (.cells a t)) := by
  have g := h.go (bl_one W (.cells a t))
  refine ⟨fun i e he => ?_, g.b⟩
  by_cases q : i < cs.length
  · exact g.h i e (by rw [List.getElem?_append_left q] at he; exact he)
  · rw [List.getElem?_append_right (by omega)] at he
    have : i - cs.length = 0 := by
      have := (List.getElem?_eq_some_iff.1 he).1
      simp at this; omega
    rw [this] at he
    cases he
    exact heap_alloc_new W _
theorem BX.fr {Z : Nat → Prop} (h : BX w cs W) (k : Fr Z W W') (hz : ∀ (i : Nat) (e : Nat × Array Value × TypeId), cs[i]? = some e → ¬ Z e.1) (hw : ∀ b, b < w.heap.size → ¬ Z b) : BX w cs W' :=
  ⟨fun i e he => (k.block _ (Array.getElem?_eq_some_iff.1 (h.h i e he)).1 (hz i e he)).trans (h.h i e he), h.b.trans (k.below h.b.size hw)⟩
theorem BX.lt (h : BX w cs W) {i : Nat} {e : Nat × Array Value × TypeId} (he : cs[i]? = some e) : e.1 < W.heap.size := (Array.getElem?_eq_some_iff.1 (h.h i e he)).1
end
theorem BX.start (w : World) (a0 a1 a2 a3 : Array Value) : BX w [(w.heap.size, a0, 25), (w.heap.size + 1, a1, 25), (w.heap.size + 1 + 1, a2, 28), (w.heap.size + 1 + 1 + 1, a3, 28)] ((((w.alloc (.cells a0 25)).alloc (.cells a1 25)).alloc (.cells a2 28)).alloc (.cells a3 28)) := by
  have h := ((((⟨fun i e he => by simp at he, Below.refl _ w⟩ : BX w [] w).add a0 25).add a1 25).add a2 28).add a3 28
  simpa only [World.size_alloc, List.nil_append, List.cons_append] using h
theorem PgL.sh {w : World} {v : Value} {sh : List Nat} (h : PgL w v sh) : ∃ ca cn cc ra n rc, v = .agg #[.slice ca cn cc, .slice ra n rc] := by
  obtain ⟨cv, fa, xs, rfl, _, h2, ⟨ca, cn, cc, rfl⟩, _⟩ := h
  obtain ⟨a, c, rfl, _, _⟩ := h2.shape
  exact ⟨_, _, _, _, _, _, rfl⟩
theorem NtV.all {w : World} {na : Option Addr} {m nc : Nat} {ns : List Nt} (h : NtV w (.slice na m nc) ns) {i : Nat} {n : Nt} (hn : ns[i]? = some n) :
    ∃ b off la lc, na = some ⟨b, off, none⟩ ∧ b < w.heap.size ∧ (∀ W, Below w.heap.size w W → (W.cell? ⟨b, off + i * 6, none⟩ = some (.int .i64 n.on) ∧ W.cell? ⟨b, off + i * 6 + 1, none⟩ = some (.int .i64 n.fn) ∧ W.cell? ⟨b, off + i * 6 + 2, none⟩ = some (.int .i64 n.pc) ∧ W.cell? ⟨b, off + i * 6 + 3, none⟩ = some (.slice la n.ar.length lc) ∧ W.cell? ⟨b, off + i * 6 + 4, none⟩ = some (.int .i64 n.k) ∧ W.cell? ⟨b, off + i * 6 + 5, none⟩ = some (.bool n.ak)) ∧ Rx W 2 (.slice la n.ar.length lc) n.ar.length (flt enI n.ar)) ∧ ∀ Z : Nat → Prop, (∀ k, Z k → w.heap.size ≤ k) → 0 < n.ar.length → ∀ b, (Value.slice la n.ar.length lc).ownBlock = some b → ¬ Z b := by
  obtain ⟨b, off, la, lc, e, hb, ⟨n0, n1, n2, n3, n4, n5⟩, hr, hf⟩ := h.far (Below.refl _ w) hn
  exact ⟨b, off, la, lc, e, hb, fun W hW => ⟨⟨(hW.cell (p := ⟨b, off + i * 6, none⟩) hb).trans n0, (hW.cell (p := ⟨b, off + i * 6 + 1, none⟩) hb).trans n1, (hW.cell (p := ⟨b, off + i * 6 + 2, none⟩) hb).trans n2, (hW.cell (p := ⟨b, off + i * 6 + 3, none⟩) hb).trans n3, (hW.cell (p := ⟨b, off + i * 6 + 4, none⟩) hb).trans n4, (hW.cell (p := ⟨b, off + i * 6 + 5, none⟩) hb).trans n5⟩, hr.below hW (Nat.le_refl _)⟩, hf⟩
theorem dc_self (f : List (List Sp)) : Dc (f = f) = true := Dc_true rfl
set_option maxRecDepth 100000 in
set_option maxHeartbeats 12800000 in
theorem bookLaw {w : World} {pv qv av bv nv : Value} {shp shq : List Nat} {f g : List (List Sp)} {ns : List Nt} (hp : PgL w pv shp) (hq : PgL w qv shq) (ha : PfV w av f) (hb : PfV w bv g) (hn : NtV w nv ns)
    (hf1 : f.length ≤ 5864062014634) (hf2 : ∀ l ∈ f, l.length ≤ 5864062014634) (hg1 : g.length ≤ 5864062014634) (hg2 : ∀ l ∈ g, l.length ≤ 5864062014634) (hOf : OkF f) (hOg : OkF g)
    (hp1 : shp.length ≤ 5864062014634) (hp2 : shp.sum ≤ 5864062014634) (hq1 : shq.length ≤ 5864062014634) (hq2 : shq.sum ≤ 5864062014634) (hn1 : ns.length ≤ 5864062014634) (hn2 : ∀ n ∈ ns, OkN n) :
    Calls Try.prog 3 #[pv, qv, .agg #[av], .agg #[bv], nv] w fun e w' => e = .returned (.bool true) ∧ Below w.heap.size w w' := by
  have HP := hide (fun W (hW : Below w.heap.size w W) => hp.below hW (Nat.le_refl _))
  have HQ := hide (fun W (hW : Below w.heap.size w W) => hq.below hW (Nat.le_refl _))
  have HA := hide (fun W (hW : Below w.heap.size w W) => ha.below hW (Nat.le_refl _))
  have HB := hide (fun W (hW : Below w.heap.size w W) => hb.below hW (Nat.le_refl _))
  have HN := hide hn
  obtain ⟨ca, cn, cc, ra, rn, rc, rfl⟩ := hp.sh
  obtain ⟨da, dn, dc, ta, tn, tc, rfl⟩ := hq.sh
  obtain ⟨a, acap, rfl, -, -⟩ := ha.shape
  obtain ⟨b, bcap, rfl, -, -⟩ := hb.shape
  obtain ⟨na, nc, rfl, hn3, hn4⟩ := hn.shape
  have HF1 := hide hf1
  have HF2 := hide hf2
  have HG1 := hide hg1
  have HG2 := hide hg2
  have HOF := hide hOf
  have HOG := hide hOg
  have HP1 := hide hp1
  have HP2 := hide hp2
  have HQ1 := hide hq1
  have HQ2 := hide hq2
  have HN2 := hide hn2
  obtain ⟨FL, hFL⟩ : ∃ L, Hid (f.length = L) := ⟨_, hide rfl⟩
  obtain ⟨GL, hGL⟩ : ∃ L, Hid (g.length = L) := ⟨_, hide rfl⟩
  obtain ⟨NL, hNL⟩ : ∃ L, Hid (ns.length = L) := ⟨_, hide rfl⟩
  rw [unhide hFL] at HA ⊢
  rw [unhide hGL] at HB ⊢
  rw [unhide hNL] at HN hn3 hn1 ⊢
  unfold maxLen at hn4
  clear hp hq ha hb hn hf1 hf2 hg1 hg2 hOf hOg hp1 hp2 hq1 hq2 hn2
  have H0 := hide (BX.start w #[.slice ca cn cc, .slice ra rn rc] #[.slice da dn dc, .slice ta tn tc] #[.slice a FL acap] #[.slice b GL bcap])
  go_enter Try.func3, Try.ntmps3
  go_wp2_with fail
  refine (lentP_any (unhide HA _ (unhide H0).b) (unhide HF1) (unhide HF2)).mono ?_
  rintro e w1 ⟨x, vx, rfl, hx, b1⟩
  obtain ⟨xa, xc, ex, -, -⟩ := hx.lpf.shape
  rw [unhide hFL] at ex
  subst ex
  have H1 := hide ((unhide H0).go b1)
  have hs1 := b1.size
  have HX : Hid (LO (fun k => w.heap.size + 4 ≤ k ∧ k < w1.heap.size) w1 (.slice xa FL xc) f vx) := hx.mono (fun k hk e => ⟨by simp only [World.size_alloc] at e; omega, hk⟩)
  clear hx b1 H0
  have H1v := hide ((unhide H1).add #[.slice xa FL xc] 28)
  have HXv : Hid (LO (fun k => w.heap.size + 4 ≤ k ∧ k < w1.heap.size) (w1.alloc (.cells #[.slice xa FL xc] 28)) (.slice xa FL xc) f vx) := (unhide HX).below staysL (bl_one _ _)
  obtain ⟨cs3, fs3, zs3⟩ := blk_cells ((unhide H1).h 3 _ rfl)
  have qs3 := cs3 0
  simp at qs3 zs3
  clear cs3 fs3
  obtain ⟨ct3, ft3, zt3⟩ := blk_cells ((unhide H1v).h 3 _ rfl)
  have qt3 := ct3 0
  simp at qt3 zt3
  clear ct3 ft3
  go_wp2_with fail
  clear qs3 zs3
  clear qt3 zt3
  refine (lentP_any (unhide HB _ (unhide H1v).b) (unhide HG1) (unhide HG2)).mono ?_
  rintro e w2 ⟨y, vy, rfl, hy, b2⟩
  obtain ⟨ya, yc, ey, -, -⟩ := hy.lpf.shape
  rw [unhide hGL] at ey
  subst ey
  have H2 := hide ((unhide H1v).go b2)
  have HX2 : Hid (LO (fun k => w.heap.size + 4 ≤ k ∧ k < w1.heap.size) w2 (.slice xa FL xc) f vx) := (unhide HXv).below staysL b2
  have hs2 := b2.size
  have HY : Hid (LO (fun k => w1.heap.size + 1 ≤ k ∧ k < w2.heap.size) w2 (.slice ya GL yc) g vy) := hy.mono (fun k hk e => ⟨by simp only [World.size_alloc] at e; omega, hk⟩)
  clear hy b2 H1v HXv HX
  have H2v := hide ((unhide H2).add #[.slice ya GL yc] 28)
  have HX2v := hide ((unhide HX2).below staysL (bl_one w2 (.cells #[.slice ya GL yc] 28)))
  have HYv := hide ((unhide HY).below staysL (bl_one w2 (.cells #[.slice ya GL yc] 28)))
  obtain ⟨cs0, fs0, zs0⟩ := blk_cells ((unhide H2).h 0 _ rfl)
  have qs0 := cs0 0
  have qs0b := cs0 1
  simp at qs0 qs0b zs0
  clear cs0 fs0
  obtain ⟨cs4, fs4, zs4⟩ := blk_cells ((unhide H2).h 4 _ rfl)
  have qs4 := cs4 0
  simp at qs4 zs4
  clear cs4 fs4
  obtain ⟨ct0, ft0, zt0⟩ := blk_cells ((unhide H2v).h 0 _ rfl)
  have qt0 := ct0 0
  have qt0b := ct0 1
  simp at qt0 qt0b zt0
  clear ct0 ft0
  obtain ⟨ct4, ft4, zt4⟩ := blk_cells ((unhide H2v).h 4 _ rfl)
  have qt4 := ct4 0
  simp at qt4 zt4
  clear ct4 ft4
  go_wp2_with fail
  clear qs0 zs0 qs0b qs4 zs4
  clear qt0 zt0 qt0b qt4 zt4
  refine (new_any (unhide HP _ (unhide H2v).b) (unhide HX2v).lpf (unhide HOF) (unhide HP1) (unhide HP2)).mono ?_
  rintro e w3 ⟨pa, rfl, hba, b3⟩
  have H3 := hide ((unhide H2v).go b3)
  have HX3 := hide ((unhide HX2v).below staysL b3)
  have HY3 := hide ((unhide HYv).below staysL b3)
  have hs3 := b3.size
  simp only [World.size_alloc] at hs1 hs2 hs3
  have HBA : Hid (BkM (fun k => w2.heap.size + 1 ≤ k ∧ k < w3.heap.size) w3 pa (newP shp f)) := hba.mono (fun k hk e => ⟨by simp only [World.size_alloc] at e; exact e, hk⟩)
  clear hba b3 H2v HX2v HYv
  obtain ⟨cs1, fs1, zs1⟩ := blk_cells ((unhide H3).h 1 _ rfl)
  have qs1 := cs1 0
  have qs1b := cs1 1
  simp at qs1 qs1b zs1
  clear cs1 fs1
  obtain ⟨cs5, fs5, zs5⟩ := blk_cells ((unhide H3).h 5 _ rfl)
  have qs5 := cs5 0
  simp at qs5 zs5
  clear cs5 fs5
  go_wp2_with fail
  clear qs1 zs1 qs1b qs5 zs5
  refine (new_any (unhide HQ _ (unhide H3).b) (unhide HY3).lpf (unhide HOG) (unhide HQ1) (unhide HQ2)).mono ?_
  rintro e w4 ⟨pb, rfl, hbb, b4⟩
  have H4 := hide ((unhide H3).go b4)
  have HX4 := hide ((unhide HX3).below staysL b4)
  have HY4 := hide ((unhide HY3).below staysL b4)
  have HBA4 := hide ((unhide HBA).below b4)
  have hs4 := b4.size
  have HBB : Hid (BkM (fun k => w3.heap.size ≤ k ∧ k < w4.heap.size) w4 pb (newP shq g)) := hbb.mono (fun k hk e => ⟨e, hk⟩)
  clear hbb b4 H3 HX3 HY3 HBA
  obtain ⟨cs2, fs2, zs2⟩ := blk_cells ((unhide H4).h 2 _ rfl)
  have qs2 := cs2 0
  simp at qs2 zs2
  clear cs2 fs2
  obtain ⟨cs4, fs4, zs4⟩ := blk_cells ((unhide H4).h 4 _ rfl)
  have qs4 := cs4 0
  simp at qs4 zs4
  clear cs4 fs4
  go_wp2_with fail
  clear qs2 zs2 qs4 zs4
  refine (keptP_any (unhide HX4) (unhide HA _ (unhide H4).b)).mono ?_
  rintro e w5 ⟨rfl, b5⟩
  have H5 := hide ((unhide H4).go b5)
  have HX5 := hide ((unhide HX4).below staysL b5)
  have HY5 := hide ((unhide HY4).below staysL b5)
  have HBA5 := hide ((unhide HBA4).below b5)
  have HBB5 := hide ((unhide HBB).below b5)
  have hs5 := b5.size
  clear b5 H4 HX4 HY4 HBA4 HBB
  obtain ⟨cs3, fs3, zs3⟩ := blk_cells ((unhide H5).h 3 _ rfl)
  have qs3 := cs3 0
  simp at qs3 zs3
  clear cs3 fs3
  obtain ⟨cs5, fs5, zs5⟩ := blk_cells ((unhide H5).h 5 _ rfl)
  have qs5 := cs5 0
  simp at qs5 zs5
  clear cs5 fs5
  go_wp2_with fail
  clear qs3 zs3 qs5 zs5
  refine (keptP_any (unhide HY5) (unhide HB _ (unhide H5).b)).mono ?_
  rintro e w6 ⟨rfl, b6⟩
  have H6 := hide ((unhide H5).go b6)
  have HX6 := hide ((unhide HX5).below staysL b6)
  have HY6 := hide ((unhide HY5).below staysL b6)
  have HBA6 := hide ((unhide HBA5).below b6)
  have HBB6 := hide ((unhide HBB5).below b6)
  have hs6 := b6.size
  clear b6 H5 HX5 HY5 HBA5 HBB5
  obtain ⟨cs4, fs4, zs4⟩ := blk_cells ((unhide H6).h 4 _ rfl)
  have qs4 := cs4 0
  simp at qs4 zs4
  clear cs4 fs4
  go_wp2_with fail
  clear qs4 zs4
  refine (scribble_any (LO.so (unhide HX6))).mono ?_
  rintro e w7 ⟨rfl, f7⟩
  have hzb : ∀ (i : Nat) (e : Nat × Array Value × TypeId), ([(w.heap.size, #[Value.slice ca cn cc, .slice ra rn rc], 25), (w.heap.size + 1, #[.slice da dn dc, .slice ta tn tc], 25), (w.heap.size + 1 + 1, #[.slice a FL acap], 28), (w.heap.size + 1 + 1 + 1, #[.slice b GL bcap], 28), (w1.heap.size, #[.slice xa FL xc], 28), (w2.heap.size, #[.slice ya GL yc], 28)] : List (Nat × Array Value × TypeId))[i]? = some e → ¬ (w.heap.size + 4 ≤ e.1 ∧ e.1 < w1.heap.size) ∧ ¬ (w1.heap.size + 1 ≤ e.1 ∧ e.1 < w2.heap.size) := fun i e he => by
    have hm := List.mem_of_getElem? he
    simp only [List.mem_cons, List.not_mem_nil, or_false] at hm
    rcases hm with rfl | rfl | rfl | rfl | rfl | rfl <;> simp only <;> omega
  have H7 := hide ((unhide H6).fr f7 (fun i e he => (hzb i e he).1) (fun b hb e => by omega))
  have HY7 := hide ((unhide HY6).frZ staysL f7 (fun b _ e q => by omega))
  have HBA7 := hide ((unhide HBA6).fr f7 (fun b _ e q => by omega))
  have HBB7 := hide ((unhide HBB6).fr f7 (fun b _ e q => by omega))
  have hs7 := f7.size
  clear f7 H6 HX6 HY6 HBA6 HBB6
  have HZB := hide hzb
  clear hzb
  obtain ⟨cs5, fs5, zs5⟩ := blk_cells ((unhide H7).h 5 _ rfl)
  have qs5 := cs5 0
  simp at qs5 zs5
  clear cs5 fs5
  go_wp2_with fail
  clear qs5 zs5
  refine (scribble_any (LO.so (unhide HY7))).mono ?_
  rintro e w8 ⟨rfl, f8⟩
  have H8 := hide ((unhide H7).fr f8 (fun i e he => (unhide HZB i e he).2) (fun b hb e => by omega))
  have HBA8 := hide ((unhide HBA7).fr f8 (fun b _ e q => by omega))
  have HBB8 := hide ((unhide HBB7).fr f8 (fun b _ e q => by omega))
  have hs8 := f8.size
  clear f8 H7 HY7 HBA7 HBB7 HZB
  obtain ⟨cs0, fs0, zs0⟩ := blk_cells ((unhide H8).h 0 _ rfl)
  have qs0 := cs0 0
  have qs0b := cs0 1
  simp at qs0 qs0b zs0
  clear cs0 fs0
  obtain ⟨cs2, fs2, zs2⟩ := blk_cells ((unhide H8).h 2 _ rfl)
  have qs2 := cs2 0
  simp at qs2 zs2
  clear cs2 fs2
  go_wp2_with fail
  clear qs0 zs0 qs0b qs2 zs2
  refine (refNew_any (unhide HP _ (unhide H8).b) (unhide HA _ (unhide H8).b) (unhide HP1) (unhide HP2)).mono ?_
  rintro e w9 ⟨fv, vf, rfl, hsf, b9⟩
  obtain ⟨fva, fvc, efv, -, -⟩ := hsf.row.shape
  subst efv
  have H9 := hide ((unhide H8).go b9)
  have HBA9 := hide ((unhide HBA8).below b9)
  have HBB9 := hide ((unhide HBB8).below b9)
  have hs9 := b9.size
  have HSF := hide hsf
  clear hsf b9 H8 HBA8 HBB8
  have H9v := hide ((unhide H9).add #[.slice fva (newP shp f).length fvc] 28)
  obtain ⟨cs1, fs1, zs1⟩ := blk_cells ((unhide H9).h 1 _ rfl)
  have qs1 := cs1 0
  have qs1b := cs1 1
  simp at qs1 qs1b zs1
  clear cs1 fs1
  obtain ⟨cs3, fs3, zs3⟩ := blk_cells ((unhide H9).h 3 _ rfl)
  have qs3 := cs3 0
  simp at qs3 zs3
  clear cs3 fs3
  obtain ⟨ct1, ft1, zt1⟩ := blk_cells ((unhide H9v).h 1 _ rfl)
  have qt1 := ct1 0
  have qt1b := ct1 1
  simp at qt1 qt1b zt1
  clear ct1 ft1
  obtain ⟨ct3, ft3, zt3⟩ := blk_cells ((unhide H9v).h 3 _ rfl)
  have qt3 := ct3 0
  simp at qt3 zt3
  clear ct3 ft3
  go_wp2_with fail
  clear qs1 zs1 qs1b qs3 zs3
  clear qt1 zt1 qt1b qt3 zt3
  refine (refNew_any (unhide HQ _ (unhide H9v).b) (unhide HB _ (unhide H9v).b) (unhide HQ1) (unhide HQ2)).mono ?_
  rintro e w10 ⟨gv, vg, rfl, hsg, b10⟩
  obtain ⟨gva, gvc, egv, -, -⟩ := hsg.row.shape
  subst egv
  have bA := bl_past (bl_one w9 (.cells #[.slice fva (newP shp f).length fvc] 28)) b10
  have bB := bl_past bA (bl_one w10 (.cells #[.slice gva (newP shq g).length gvc] 28))
  have hs10 := b10.size
  simp only [World.size_alloc] at hs10
  obtain ⟨fvL, hfvL⟩ : ∃ z, Hid (Value.slice fva (newP shp f).length fvc = z) := ⟨_, hide rfl⟩
  have HLI : Hid (LI w (w2.heap.size + 1) w3.heap.size w8.heap.size w9.heap.size w10.heap.size pa pb shp shq (newP shp f) (newP shq g) (newP shp f) (newP shq g) (.slice fva (newP shp f).length fvc) (.slice gva (newP shq g).length gvc) vf vg (w10.alloc (.cells #[.slice gva (newP shq g).length gvc] 28))) := by
    refine ⟨bl_past (unhide H9).b bB, by omega, by omega, by omega, by omega, by omega, by simp, (unhide HBA9).below bB, ((unhide HBB9).below bB).mono (fun k _ e => ⟨e.1, by omega⟩), newP_ok (unhide HOF), newP_ok (unhide HOG), newP_lens _ _, newP_lens _ _, ?_, heap_alloc_new w10 _, ?_, ?_⟩
    · exact ((bl_past b10 (bl_one w10 _)).block _ (by simp)).trans (heap_alloc_new w9 _)
    · exact ((unhide HSF).mono (fun k hk e => ⟨e, by omega, by omega⟩)).below staysS bB
    · exact (hsg.mono (fun k hk e => by simp only [World.size_alloc] at e; exact ⟨by omega, by omega, by omega⟩)).below staysS (bl_one w10 _)
  clear hsg b10 bA bB HSF HBA9 HBB9 H9v H9 hfvL
  go_wp2_with fail
  obtain ⟨A0, hA0⟩ : ∃ z, Hid (w2.heap.size + 1 = z) := ⟨_, hide rfl⟩
  obtain ⟨A1, hA1⟩ : ∃ z, Hid (w3.heap.size = z) := ⟨_, hide rfl⟩
  obtain ⟨A2, hA2⟩ : ∃ z, Hid (w8.heap.size = z) := ⟨_, hide rfl⟩
  obtain ⟨m1, hm1⟩ : ∃ z, Hid (w9.heap.size = z) := ⟨_, hide rfl⟩
  obtain ⟨m2, hm2⟩ : ∃ z, Hid (w10.heap.size = z) := ⟨_, hide rfl⟩
  rw [unhide hA0, unhide hA1, unhide hA2, unhide hm1, unhide hm2] at HLI
  rw [unhide hm1, unhide hm2]
  clear hA0 hA1 hA2 hm1 hm2 hs1 hs2 hs3 hs4 hs5 hs6 hs7 hs8 hs9 hs10 H1 H2 HX2 HY
  go_loopg [17] NL (fun gg t17 wr => ∃ (i : Nat) (fa fb : List (List Sp)) (fv gv : Value) (vf vg : List Value), Hid (i + gg = NL) ∧ t17 = .int .i64 (i : Int) ∧ Hid (LI w A0 A1 A2 m1 m2 pa pb shp shq fa fb fa fb fv gv vf vg wr))
  case atStart => exact ⟨0, _, _, _, _, _, _, by unfold Hid; omega, rfl, HLI⟩
  case round =>
    clear HLI
    obtain ⟨i, fa, fb, fv, gv, vf, vg, hi, rfl, hI⟩ := hrel
    by_cases hlt : i < NL
    · have i0 : (0 : Int) ≤ (i : Int) := by omega
      have i1 : (i : Int) < (NL : Int) := by omega
      obtain ⟨n, hn⟩ : ∃ n, ns[i]? = some n := ⟨_, List.getElem?_eq_getElem (by rw [unhide hNL]; exact hlt)⟩
      have hok := unhide HN2 n (List.mem_of_getElem? hn)
      obtain ⟨nb, noff, la, lc, ena, hnb, hall, hfar⟩ := (unhide HN).all hn
      subst ena
      obtain ⟨on, fn, pc, ar, k, ak⟩ := n
      simp only at hall hfar
      obtain ⟨hk1, hk2, hk3, hk4⟩ := hok
      simp only at hk1 hk2 hk3 hk4
      obtain ⟨AL, hAL⟩ : ∃ z, Hid (ar.length = z) := ⟨_, hide rfl⟩
      have HALL := hide hall
      have HFAR := hide hfar
      clear hall hfar hn
      rw [unhide hAL] at HALL HFAR
      obtain ⟨⟨n0, n1, n2, n3, n4, n5⟩, -⟩ := unhide HALL wr (unhide hI).bl
      have hnw : nb < wr.heap.size := Nat.lt_of_lt_of_le hnb (unhide hI).bl.size
      obtain ⟨X, hX⟩ : ∃ X, Hid (wr.heap.size = X) := ⟨_, hide rfl⟩
      have HXM : Hid (m2 < X ∧ m1 < m2 ∧ A2 ≤ m1 ∧ A1 ≤ A2 ∧ A0 ≤ A1 ∧ w.heap.size ≤ A0) := by rw [← unhide hX]; exact ⟨(unhide hI).s5, (unhide hI).s4, (unhide hI).s3, (unhide hI).s2, (unhide hI).s1, (unhide hI).s0⟩
      obtain ⟨fva, fvc, efv, -, -⟩ := (unhide hI).sf.row.shape
      subst efv
      obtain ⟨gva, gvc, egv, -, -⟩ := (unhide hI).sg.row.shape
      subst egv
      obtain ⟨fl, hfl⟩ : ∃ z, Hid (fa.length = z) := ⟨_, hide rfl⟩
      obtain ⟨gl, hgl⟩ : ∃ z, Hid (fb.length = z) := ⟨_, hide rfl⟩
      rw [unhide hfl, unhide hgl] at hI
      go_wp2_with fail
      clear n0 n1 n2 n3 n4 n5 hnw
      have HV := hide ((unhide hI).on (bl_one wr (.cells #[.int .i64 on, .int .i64 fn, .int .i64 pc, .slice la AL lc, .int .i64 k, .bool ak] 38)))
      have HVX := hide (heap_alloc_new wr (.cells #[.int .i64 on, .int .i64 fn, .int .i64 pc, .slice la AL lc, .int .i64 k, .bool ak] 38))
      obtain ⟨V, hV⟩ : ∃ V, Hid (wr.alloc (.cells #[.int .i64 on, .int .i64 fn, .int .i64 pc, .slice la AL lc, .int .i64 k, .bool ak] 38) = V) := ⟨_, hide rfl⟩
      rw [unhide hV] at HV HVX ⊢
      rw [unhide hX] at HVX
      rw [unhide hX]
      clear hV hI
      refine (pick_any V on 2 (by omega) (by omega)).mono ?_
      rintro e w1 ⟨rfl, ew⟩
      rw [ew]
      clear ew w1
      by_cases hpk : pck on 2 = 1
      · rw [hpk]
        obtain ⟨cx, -, zx⟩ := blk_cells (unhide HVX)
        have x0 := cx 0
        have x1 := cx 1
        have x2 := cx 2
        have x3 := cx 3
        have x4 := cx 4
        have x5 := cx 5
        simp at x0 x1 x2 x3 x4 x5
        clear cx
        obtain ⟨cm, -, zm⟩ := blk_cells (unhide HV).x2
        have ym := cm 0
        simp at ym
        clear cm
        go_wp2_with fail
        clear x0 x1 x2 x3 x4 x5 zx
        clear ym zm
        refine (refNote_any (unhide HV).sg.pf (by rw [lens_len (unhide HV).lb]; exact unhide HQ1) (lens_le (unhide HV).lb (unhide HQ2)) (unhide HV).ob fn pc (by rw [unhide hAL]; exact (unhide HALL V (unhide HV).bl).2) hk4 k).mono ?_
        rintro e w1 ⟨nv', vn', rfl, hs1, b1⟩
        obtain ⟨nva, nvc, env, -, -⟩ := hs1.row.shape
        subst env
        obtain ⟨nl, hnl⟩ : ∃ z, Hid ((noteP fb (fn, pc) ar k).length = z) := ⟨_, hide rfl⟩
        rw [unhide hnl] at hs1 ⊢
        have HI2 := hide ((unhide HV).setG b1 hs1)
        have hxv1 := (b1.block _ (Array.getElem?_eq_some_iff.1 (unhide HVX)).1).trans (unhide HVX)
        have hxm1 := (b1.block _ (Array.getElem?_eq_some_iff.1 (unhide HV).x2).1).trans (unhide HV).x2
        obtain ⟨cm, fm, zm⟩ := blk_cells hxm1
        have ym := cm 0
        have gm := fm 0
        simp at ym
        clear cm fm hxm1
        have tX : Fr (fun b => b = m2) w1 (w1.setCell ⟨m2, 0, none⟩ (.slice nva nl nvc)) := Fr.setCell (S := fun b => b = m2) (Fr.refl _ w1) ⟨m2, 0, none⟩ (.inr rfl) _
        have HX2 := hide ((tX.block _ (Array.getElem?_eq_some_iff.1 hxv1).1 (by have := unhide HXM; omega)).trans hxv1)
        clear tX hs1 b1 hxv1 HVX HV
        obtain ⟨cx, -, zx⟩ := blk_cells (unhide HX2)
        have x0 := cx 0
        have x1 := cx 1
        have x2 := cx 2
        have x3 := cx 3
        have x4 := cx 4
        have x5 := cx 5
        simp at x0 x1 x2 x3 x4 x5
        clear cx
        go_wp2_with fail
        clear x0 x1 x2 x3 x4 x5 zx
        clear ym gm zm
        obtain ⟨W2, hW2⟩ : ∃ W, Hid (w1.setCell ⟨m2, 0, none⟩ (.slice nva nl nvc) = W) := ⟨_, hide rfl⟩
        rw [unhide hW2] at HI2 HX2 ⊢
        clear hW2
        refine (tellN_any (unhide HI2).bb (unhide HI2).ob on fn pc hk2 (by rw [unhide hAL]; exact (unhide HALL W2 (unhide HI2).bl).2) hk4 k hk3 ak (fun h0 b hb => unhide HFAR (fun k => A1 ≤ k ∧ k < A2) (fun k hk => by have := unhide HXM; omega) (by rw [← unhide hAL]; exact h0) b hb)).mono ?_
        rintro e w3 ⟨rfl, hb3, f3⟩
        have HI3 := hide ((unhide HI2).tellB hb3 (ntP_ok (n := ⟨on, fn, pc, ar, k, ak⟩) (unhide HI2).ob hk3) (by rw [noteP_lens]; exact (unhide HI2).lb) f3)
        have HX3 := hide ((f3.block _ (Array.getElem?_eq_some_iff.1 (unhide HX2)).1 (by have := unhide HXM; omega)).trans (unhide HX2))
        clear hb3 f3 HI2 HX2
        obtain ⟨cx, -, zx⟩ := blk_cells (unhide HX3)
        have x0 := cx 0
        have x1 := cx 1
        have x2 := cx 2
        have x3 := cx 3
        have x4 := cx 4
        have x5 := cx 5
        simp at x0 x1 x2 x3 x4 x5
        clear cx
        cases ak
        · go_wp2_with fail
          go_roundg (gk - 1)
          case measure => have := unhide hi; omega
          case rel => exact ⟨i + 1, _, _, _, _, _, _, by have := unhide hi; unfold Hid; omega, by go_num, HI3⟩
        · go_wp2_with fail
          clear x0 x1 x2 x3 x4 x5 zx
          refine (profile_any (unhide HI3).ba (unhide HI3).oa (by rw [lens_len (unhide HI3).la]; exact unhide HP1) (by rw [(unhide HI3).la]; exact unhide HP2)).mono ?_
          rintro e w4 ⟨ov, vo, rfl, hso, b4⟩
          obtain ⟨ova, ovc, eov, -, -⟩ := hso.row.shape
          subst eov
          have hso4 := hso.mono (Z' := fun k => w3.heap.size ≤ k ∧ k < w4.heap.size) (fun k hk e => ⟨e, hk⟩)
          have hso5 := hso4.below staysS (bl_one w4 (.cells #[.slice ova fa.length ovc] 28))
          have b5 := bl_past b4 (bl_one w4 (.cells #[.slice ova fa.length ovc] 28))
          have HI4 := hide ((unhide HI3).on b4)
          have HI5 := hide ((unhide HI3).on b5)
          have HSO5 := hide hso5
          have HB5 := hide b5
          have hx5 := heap_alloc_new w4 (.cells #[.slice ova fa.length ovc] 28)
          have HX5 := hide hx5
          obtain ⟨cm, -, zm⟩ := blk_cells (unhide HI4).x1
          have ym := cm 0
          obtain ⟨cn', -, zn⟩ := blk_cells (unhide HI5).x1
          have yn := cn' 0
          simp at ym yn
          clear cm cn' hso hso4 hso5 b4 b5 hx5 HX3
          go_wp2_with fail
          clear ym zm yn zn
          refine (sameP_any (unhide HSO5).pf (unhide HI5).sf.pf).mono ?_
          rintro e w6 ⟨rfl, b6⟩
          rw [dc_self]
          have HSO6 := hide ((unhide HSO5).below staysS b6)
          have HI6 := hide ((unhide HI5).on b6)
          have hx6 := (b6.block _ (Array.getElem?_eq_some_iff.1 (unhide HX5)).1).trans (unhide HX5)
          have HB6 := hide (bl_past (unhide HB5) b6)
          obtain ⟨cm, -, zm⟩ := blk_cells hx6
          have ym := cm 0
          simp at ym
          clear cm hx6 b6 HSO5 HI5 HX5 HB5 HI4
          go_wp2_with fail
          clear ym zm
          refine (scribble_any (unhide HSO6)).mono ?_
          rintro e w7 ⟨rfl, f7⟩
          have HI7 := hide ((unhide HI3).on ((unhide HB6).trans (f7.below (unhide HB6).size (fun b hb e => by omega))))
          clear f7 HSO6 HI6 HB6 HI3
          go_wp2_with fail
          go_roundg (gk - 1)
          case measure => have := unhide hi; omega
          case rel => exact ⟨i + 1, _, _, _, _, _, _, by have := unhide hi; unfold Hid; omega, by go_num, HI7⟩
      · have hpk2 : (pck on 2 == 1) = false := by simp [hpk]
        obtain ⟨cx, -, zx⟩ := blk_cells (unhide HVX)
        have x0 := cx 0
        have x1 := cx 1
        have x2 := cx 2
        have x3 := cx 3
        have x4 := cx 4
        have x5 := cx 5
        simp at x0 x1 x2 x3 x4 x5
        clear cx
        obtain ⟨cm, -, zm⟩ := blk_cells (unhide HV).x1
        have ym := cm 0
        simp at ym
        clear cm
        go_wp2_with fail
        clear x0 x1 x2 x3 x4 x5 zx
        clear ym zm
        refine (refNote_any (unhide HV).sf.pf (by rw [lens_len (unhide HV).la]; exact unhide HP1) (lens_le (unhide HV).la (unhide HP2)) (unhide HV).oa fn pc (by rw [unhide hAL]; exact (unhide HALL V (unhide HV).bl).2) hk4 k).mono ?_
        rintro e w1 ⟨nv', vn', rfl, hs1, b1⟩
        obtain ⟨nva, nvc, env, -, -⟩ := hs1.row.shape
        subst env
        obtain ⟨nl, hnl⟩ : ∃ z, Hid ((noteP fa (fn, pc) ar k).length = z) := ⟨_, hide rfl⟩
        rw [unhide hnl] at hs1 ⊢
        have HI2 := hide ((unhide HV).setF b1 hs1)
        have hxv1 := (b1.block _ (Array.getElem?_eq_some_iff.1 (unhide HVX)).1).trans (unhide HVX)
        have hxm1 := (b1.block _ (Array.getElem?_eq_some_iff.1 (unhide HV).x1).1).trans (unhide HV).x1
        obtain ⟨cm, fm, zm⟩ := blk_cells hxm1
        have ym := cm 0
        have gm := fm 0
        simp at ym
        clear cm fm hxm1
        have tX : Fr (fun b => b = m1) w1 (w1.setCell ⟨m1, 0, none⟩ (.slice nva nl nvc)) := Fr.setCell (S := fun b => b = m1) (Fr.refl _ w1) ⟨m1, 0, none⟩ (.inr rfl) _
        have HX2 := hide ((tX.block _ (Array.getElem?_eq_some_iff.1 hxv1).1 (by have := unhide HXM; omega)).trans hxv1)
        clear tX hs1 b1 hxv1 HVX HV
        obtain ⟨cx, -, zx⟩ := blk_cells (unhide HX2)
        have x0 := cx 0
        have x1 := cx 1
        have x2 := cx 2
        have x3 := cx 3
        have x4 := cx 4
        have x5 := cx 5
        simp at x0 x1 x2 x3 x4 x5
        clear cx
        go_wp2_with fail
        clear x0 x1 x2 x3 x4 x5 zx
        clear ym gm zm
        obtain ⟨W2, hW2⟩ : ∃ W, Hid (w1.setCell ⟨m1, 0, none⟩ (.slice nva nl nvc) = W) := ⟨_, hide rfl⟩
        rw [unhide hW2] at HI2 HX2 ⊢
        clear hW2
        refine (tellN_any (unhide HI2).ba (unhide HI2).oa on fn pc hk2 (by rw [unhide hAL]; exact (unhide HALL W2 (unhide HI2).bl).2) hk4 k hk3 ak (fun h0 b hb => unhide HFAR (fun k => A0 ≤ k ∧ k < A1) (fun k hk => by have := unhide HXM; omega) (by rw [← unhide hAL]; exact h0) b hb)).mono ?_
        rintro e w3 ⟨rfl, hb3, f3⟩
        have HI3 := hide ((unhide HI2).tellA hb3 (ntP_ok (n := ⟨on, fn, pc, ar, k, ak⟩) (unhide HI2).oa hk3) (by rw [noteP_lens]; exact (unhide HI2).la) f3)
        have HX3 := hide ((f3.block _ (Array.getElem?_eq_some_iff.1 (unhide HX2)).1 (by have := unhide HXM; omega)).trans (unhide HX2))
        clear hb3 f3 HI2 HX2
        obtain ⟨cx, -, zx⟩ := blk_cells (unhide HX3)
        have x0 := cx 0
        have x1 := cx 1
        have x2 := cx 2
        have x3 := cx 3
        have x4 := cx 4
        have x5 := cx 5
        simp at x0 x1 x2 x3 x4 x5
        clear cx
        cases ak
        · go_wp2_with fail
          go_roundg (gk - 1)
          case measure => have := unhide hi; omega
          case rel => exact ⟨i + 1, _, _, _, _, _, _, by have := unhide hi; unfold Hid; omega, by go_num, HI3⟩
        · go_wp2_with fail
          clear x0 x1 x2 x3 x4 x5 zx
          refine (profile_any (unhide HI3).ba (unhide HI3).oa (by rw [lens_len (unhide HI3).la]; exact unhide HP1) (by rw [(unhide HI3).la]; exact unhide HP2)).mono ?_
          rintro e w4 ⟨ov, vo, rfl, hso, b4⟩
          obtain ⟨ova, ovc, eov, -, -⟩ := hso.row.shape
          subst eov
          have hso4 := hso.mono (Z' := fun k => w3.heap.size ≤ k ∧ k < w4.heap.size) (fun k hk e => ⟨e, hk⟩)
          have hso5 := hso4.below staysS (bl_one w4 (.cells #[.slice ova (noteP fa (fn, pc) ar k).length ovc] 28))
          have b5 := bl_past b4 (bl_one w4 (.cells #[.slice ova (noteP fa (fn, pc) ar k).length ovc] 28))
          have HI4 := hide ((unhide HI3).on b4)
          have HI5 := hide ((unhide HI3).on b5)
          have HSO5 := hide hso5
          have HB5 := hide b5
          have hx5 := heap_alloc_new w4 (.cells #[.slice ova (noteP fa (fn, pc) ar k).length ovc] 28)
          have HX5 := hide hx5
          obtain ⟨cm, -, zm⟩ := blk_cells (unhide HI4).x1
          have ym := cm 0
          obtain ⟨cn', -, zn⟩ := blk_cells (unhide HI5).x1
          have yn := cn' 0
          simp at ym yn
          clear cm cn' hso hso4 hso5 b4 b5 hx5 HX3
          go_wp2_with fail
          clear ym zm yn zn
          refine (sameP_any (unhide HSO5).pf (unhide HI5).sf.pf).mono ?_
          rintro e w6 ⟨rfl, b6⟩
          rw [dc_self]
          have HSO6 := hide ((unhide HSO5).below staysS b6)
          have HI6 := hide ((unhide HI5).on b6)
          have hx6 := (b6.block _ (Array.getElem?_eq_some_iff.1 (unhide HX5)).1).trans (unhide HX5)
          have HB6 := hide (bl_past (unhide HB5) b6)
          obtain ⟨cm, -, zm⟩ := blk_cells hx6
          have ym := cm 0
          simp at ym
          clear cm hx6 b6 HSO5 HI5 HX5 HB5 HI4
          go_wp2_with fail
          clear ym zm
          refine (scribble_any (unhide HSO6)).mono ?_
          rintro e w7 ⟨rfl, f7⟩
          have HI7 := hide ((unhide HI3).on ((unhide HB6).trans (f7.below (unhide HB6).size (fun b hb e => by omega))))
          clear f7 HSO6 HI6 HB6 HI3
          go_wp2_with fail
          go_roundg (gk - 1)
          case measure => have := unhide hi; omega
          case rel => exact ⟨i + 1, _, _, _, _, _, _, by have := unhide hi; unfold Hid; omega, by go_num, HI7⟩
    · have hiL : i = NL := by have := unhide hi; omega
      have i1 : ¬ (i : Int) < (NL : Int) := by omega
      obtain ⟨fva, fvc, efv, -, -⟩ := (unhide hI).sf.row.shape
      subst efv
      obtain ⟨gva, gvc, egv, -, -⟩ := (unhide hI).sg.row.shape
      subst egv
      obtain ⟨fl, hfl⟩ : ∃ z, Hid (fa.length = z) := ⟨_, hide rfl⟩
      obtain ⟨gl, hgl⟩ : ∃ z, Hid (fb.length = z) := ⟨_, hide rfl⟩
      rw [unhide hfl, unhide hgl] at hI
      go_wp2_with fail
      have HSS : Hid (∀ W, Below wr.heap.size wr W → W.cell? ⟨m1, 0, none⟩ = some (.slice fva fl fvc) ∧ W.cell? ⟨m2, 0, none⟩ = some (.slice gva gl gvc)) := fun W hW => by
        have h := (unhide hI).on hW
        exact ⟨(blk_cells h.x1).1 0, (blk_cells h.x2).1 0⟩
      obtain ⟨V, hV⟩ : ∃ V, Hid (wr.drew = V) := ⟨_, hide rfl⟩
      have HVB : Hid (Below wr.heap.size wr V) := by rw [← unhide hV]; exact bl_drew wr
      have HSV := hide (unhide HSS V (unhide HVB))
      have HIV := hide ((unhide hI).on (unhide HVB))
      refine wp_region_held_drew (S := (fun W => W.cell? ⟨m1, 0, none⟩ = some (.slice fva fl fvc) ∧ W.cell? ⟨m2, 0, none⟩ = some (.slice gva gl gvc))) (by kernel_rfl) (unhide HSS _ (bl_drew _)) (fun hHeld => ?_)
      clear hHeld
      rw [unhide hV]
      refine wpAnyH_take (i := 0) (oi := _) (v := .pointer (some ⟨pa, 0, none⟩)) rfl (by kernel_rfl) (by kernel_rfl) (by kernel_rfl) (fun _ _ _ h => h) (Or.inl ⟨by rfl, (by intro w' hSw; obtain ⟨s0, s1⟩ := hSw; go_simp)⟩) (unhide HSV) ?_
      go_simp
      refine wpAnyH_take (i := 2) (oi := _) (v := .agg #[.slice fva fl fvc]) rfl (by kernel_rfl) (by kernel_rfl) (by kernel_rfl) (fun _ _ _ h => h) (Or.inl ⟨by rfl, (by intro w' hSw; obtain ⟨s0, s1⟩ := hSw; go_simp)⟩) (unhide HSV) ?_
      go_simp
      refine wpAnyH_ready (rs := [1]) (by kernel_rfl) (by simp) ?_
      refine AllReadyH.cons (o := _) rfl (fun K hK => ?_) AllReadyH.nil
      go_simp
      refine (profile_any (unhide HIV).ba (unhide HIV).oa (by rw [lens_len (unhide HIV).la]; exact unhide HP1) (by rw [(unhide HIV).la]; exact unhide HP2)).mono ?_
      rintro e w4 ⟨ov, vo, rfl, hso, b4⟩
      obtain ⟨ova, ovc, eov, -, -⟩ := hso.row.shape
      subst eov
      have HB4 := hide (bl_past (unhide HVB) b4)
      have HI4 := hide ((unhide hI).on (unhide HB4))
      have HS4 := hide (unhide HSS _ (unhide HB4))
      have HO4 := hide hso
      clear hso b4
      refine hK.out _ _ (unhide HS4) (fun _ => ?_)
      clear hK K
      go_simp
      refine wpAnyH_ready (rs := [3]) (by kernel_rfl) (by simp) ?_
      refine AllReadyH.cons (o := _) rfl (fun K hK => ?_) AllReadyH.nil
      go_simp
      refine (sameP_any (unhide HO4).pf (unhide HI4).sf.pf).mono ?_
      rintro e w5 ⟨rfl, b5⟩
      rw [dc_self]
      have HB5 := hide (bl_past (unhide HB4) b5)
      have HI5 := hide ((unhide hI).on (unhide HB5))
      have HS5 := hide (unhide HSS _ (unhide HB5))
      clear b5
      refine hK.out _ _ (unhide HS5) (fun _ => ?_)
      clear hK K
      go_simp
      refine wpAnyH_take (i := 4) (oi := _) (v := .bool true) rfl (by kernel_rfl) (by kernel_rfl) (by kernel_rfl) (fun _ _ _ h => h) (Or.inl ⟨by rfl, (by intro w' hSw; obtain ⟨s0, s1⟩ := hSw; go_simp)⟩) (unhide HS5) ?_
      go_simp
      refine wpAnyH_take (i := 5) (oi := _) (v := .pointer (some ⟨pb, 0, none⟩)) rfl (by kernel_rfl) (by kernel_rfl) (by kernel_rfl) (fun _ _ _ h => h) (Or.inl ⟨by rfl, (by intro w' hSw; obtain ⟨s0, s1⟩ := hSw; go_simp)⟩) (unhide HS5) ?_
      go_simp
      refine wpAnyH_take (i := 7) (oi := _) (v := .agg #[.slice gva gl gvc]) rfl (by kernel_rfl) (by kernel_rfl) (by kernel_rfl) (fun _ _ _ h => h) (Or.inl ⟨by rfl, (by intro w' hSw; obtain ⟨s0, s1⟩ := hSw; go_simp)⟩) (unhide HS5) ?_
      go_simp
      refine wpAnyH_ready (rs := [6]) (by kernel_rfl) (by simp) ?_
      refine AllReadyH.cons (o := _) rfl (fun K hK => ?_) AllReadyH.nil
      go_simp
      refine (profile_any (unhide HI5).bb (unhide HI5).ob (by rw [lens_len (unhide HI5).lb]; exact unhide HQ1) (by rw [(unhide HI5).lb]; exact unhide HQ2)).mono ?_
      rintro e w6 ⟨pv', vp', rfl, hso, b6⟩
      obtain ⟨ova2, ovc2, eov, -, -⟩ := hso.row.shape
      subst eov
      have HB6 := hide (bl_past (unhide HB5) b6)
      have HI6 := hide ((unhide hI).on (unhide HB6))
      have HS6 := hide (unhide HSS _ (unhide HB6))
      have HO6 := hide hso
      clear hso b6
      refine hK.out _ _ (unhide HS6) (fun _ => ?_)
      clear hK K
      go_simp
      refine wpAnyH_ready (rs := [8]) (by kernel_rfl) (by simp) ?_
      refine AllReadyH.cons (o := _) rfl (fun K hK => ?_) AllReadyH.nil
      go_simp
      refine (sameP_any (unhide HO6).pf (unhide HI6).sg.pf).mono ?_
      rintro e w7 ⟨rfl, b7⟩
      rw [dc_self]
      have HB7 := hide (bl_past (unhide HB6) b7)
      have HI7 := hide ((unhide hI).on (unhide HB7))
      have HS7 := hide (unhide HSS _ (unhide HB7))
      clear b7
      refine hK.out _ _ (unhide HS7) (fun _ => ?_)
      clear hK K
      go_simp
      refine wpAnyH_take (i := 9) (oi := _) (v := .bool true) rfl (by kernel_rfl) (by kernel_rfl) (by kernel_rfl) (fun _ _ _ h => h) (Or.inl ⟨by rfl, (by intro w' hSw; obtain ⟨s0, s1⟩ := hSw; go_simp)⟩) (unhide HS7) ?_
      go_simp
      refine wpAnyH_ready (rs := [10]) (by kernel_rfl) (by simp) ?_
      refine AllReadyH.cons (o := _) rfl (fun K hK => ?_) AllReadyH.nil
      go_simp
      refine hK.out _ _ (unhide HS7) (fun _ => ?_)
      clear hK K
      go_simp
      refine wpAnyH_done (by kernel_rfl) ?_ _
      go_wp2_with fail
      go_ret
      exact ⟨rfl, (unhide HI7).bl⟩
end Go.Proofs.Ytjjfpokmpcpicaa
