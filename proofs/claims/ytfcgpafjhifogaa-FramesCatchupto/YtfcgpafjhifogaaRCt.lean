/-
  The document's Catch.
-/
import Derived.Test.YtfcgpafjhifogaaRRt
import Derived.Test.YtfcgpafjhifogaaCat
import Derived.Deep.CutRange
namespace Go.Proofs.Ytfcgpafjhifogaa
open Go.RowKit
set_option linter.unusedVariables false
set_option linter.unusedSimpArgs false
theorem PgV.fnc {Y : World} {p : Pg} {pa : Value} {pba : Option Addr} {pbn pbc : Nat} (h : PgV Y (.agg #[pa, .slice pba pbn pbc]) p) {i : Nat} {f : Fc} (hf : p.funcs[i]? = some f) :
    ∃ b off a1 c1 a2 c2, pba = some ⟨b, off, none⟩ ∧ b < Y.heap.size ∧ i < pbn ∧ Y.cell? ⟨b, off + i * 5, none⟩ = some (.string f.name) ∧ Y.cell? ⟨b, off + i * 5 + 1, none⟩ = some (.int .i64 f.params) ∧ Y.cell? ⟨b, off + i * 5 + 2, none⟩ = some (.int .i64 f.locals) ∧ Y.cell? ⟨b, off + i * 5 + 3, none⟩ = some (.slice a1 f.code.length c1) ∧ Y.cell? ⟨b, off + i * 5 + 4, none⟩ = some (.slice a2 f.hs.length c2) ∧
    ∀ (j : Nat) (z : Hd), f.hs[j]? = some z → ∃ hb ho, a2 = some ⟨hb, ho, none⟩ ∧ hb < Y.heap.size ∧ Y.cell? ⟨hb, ho + j * 4 + 2, none⟩ = some (.int .i64 z.target) ∧ Y.cell? ⟨hb, ho + j * 4 + 3, none⟩ = some (.int .i64 z.height) := by
  obtain ⟨_, _, e, _, hfs⟩ := h
  obtain ⟨a, c, e2, _, _, h3⟩ := hfs.at
  cases e
  cases e2
  obtain ⟨b, off, x, ea, lb, hx, hcs⟩ := h3 i f hf
  obtain ⟨a1, c1, a2, c2, rfl⟩ := hx.parts
  refine ⟨b, off, a1, c1, a2, c2, ea, lb, (List.getElem?_eq_some_iff.1 hf).1, hcs 0 _ rfl, hcs 1 _ rfl, hcs 2 _ rfl, hcs 3 _ rfl, hcs 4 _ rfl, fun j z hz => ?_⟩
  obtain ⟨hb, ho, hc, eh, _, _, hbl, hcs2⟩ := hx.2.2.2.2.elem zH hz
  cases eh
  exact ⟨hb, ho, rfl, hbl, hcs2 2 _ rfl, hcs2 3 _ rfl⟩
set_option maxRecDepth 100000 in
set_option maxHeartbeats 6400000 in
theorem rcatch_any {w : World} {pv lv : Value} {p : Pg} {fs : List Fm} (x : Int × Int) (h : PgV w pv p) (hl : FsV w lv fs) (hN : p.funcs.length ≤ 1048576) (hO : ∀ k g, fnAt p k = some g → g.hs.length ≤ 1048576 ∧ g.locals < 9223372036854775808) (hL : fs.length ≤ 1048576) (hS : ∀ f ∈ fs, f.sl.length ≤ 1048576) :
    Calls Try.prog 18 #[pv, lv, .agg #[.int .i64 x.1, .int .i64 x.2]] w (RcP w (ct p fs x)) := by
  obtain ⟨pa, pb, rfl⟩ : ∃ a b, pv = .agg #[a, b] := by obtain ⟨a, b, e, _⟩ := h; exact ⟨a, b, e⟩
  obtain ⟨paa, pan, pac, epa⟩ : ∃ a n c, pa = .slice a n c := by
    obtain ⟨_, _, e, ⟨_, a, c, e2, _⟩, _⟩ := h
    cases e; exact ⟨a, _, c, e2⟩
  obtain ⟨pba, pbn, pbc, epb⟩ : ∃ a n c, pb = .slice a n c := by
    obtain ⟨_, _, e, _, hfs⟩ := h
    obtain ⟨a, c, e2, _⟩ := hfs.at
    cases e; exact ⟨a, _, c, e2⟩
  subst epa epb
  obtain ⟨la, lc, rfl, hlc, hlm⟩ := hl.shape
  unfold maxLen at hlm
  obtain ⟨n, hn⟩ : ∃ N, Hid (fs.length = N) := ⟨_, hide rfl⟩
  rw [unhide hn] at hL hlc hl ⊢
  have HU : Hid (∀ Y, Below w.heap.size w Y → PgV Y (.agg #[.slice paa pan pac, .slice pba pbn pbc]) p ∧ FsV Y (.slice la n lc) fs) := fun Y hb => ⟨h.below hb (Nat.le_refl _), hl.below hb (Nat.le_refl _)⟩
  have HO := hide hO
  have HS := hide hS
  obtain ⟨o, ho⟩ : ∃ o, Hid (ct p fs x = o) := ⟨_, hide rfl⟩
  rw [unhide ho]
  clear h hl hO hS
  have HC52 := hide (fun (Y : World) (hb : Below w.heap.size w Y) (f : Fm) (v : Value) (hv : FmA Y v f) (hf : f ∈ fs) => rtakes_any (unhide HU Y hb).1 hv hN (fun g hg => unhide HO f.fn g hg) (unhide HS f hf))
  have HC22 := hide (fun (Y : World) (hb : Below w.heap.size w Y) (k : Nat) (hk : k ≤ n) => copyMs_any (lv := .slice la k lc) (fs := fs.take k) ((unhide HU Y hb).2.upto (by rw [unhide hn]; exact hk)) (by rw [List.length_take]; omega) (fun z hz => unhide HS z (List.mem_of_mem_take hz)))
  go_enter Try.func18, Try.ntmps18
  go_wp2_with fail
  obtain ⟨W0, hW0⟩ : ∃ W0, Hid ((w.alloc (.cells #[.slice paa pan pac, .slice pba pbn pbc] 25)).alloc (.cells #[.int .i64 x.1, .int .i64 x.2] 41) = W0) := ⟨_, hide rfl⟩
  have HB0 : Hid (Below w.heap.size w W0) := by rw [← unhide hW0]; exact ((Below.refl _ w).alloc (Nat.le_refl _) _).alloc (by simp) _
  have HBP : Hid (W0.heap[w.heap.size]? = some (.cells #[.slice paa pan pac, .slice pba pbn pbc] 25)) := by rw [← unhide hW0]; exact blkT (heap_alloc_new w _) ((Below.refl _ _).alloc (Nat.le_refl _) _)
  have HBT : Hid (W0.heap[w.heap.size + 1]? = some (.cells #[.int .i64 x.1, .int .i64 x.2] 41)) := by unfold Hid; rw [← unhide hW0]; have := heap_alloc_new (w.alloc (.cells #[.slice paa pan pac, .slice pba pbn pbc] 25)) (.cells #[.int .i64 x.1, .int .i64 x.2] 41); simpa using this
  obtain ⟨P, hP⟩ : ∃ P, Hid (w.heap.size = P) := ⟨_, hide rfl⟩
  obtain ⟨T, hT⟩ : ∃ P, Hid (w.heap.size + 1 = P) := ⟨_, hide rfl⟩
  rw [unhide hT] at HBT
  rw [unhide hP] at HBP
  rw [unhide hW0, unhide hT, unhide hP]
  have HCB : Hid (∀ Y, Below W0.heap.size W0 Y → (Y.cell? ⟨P, 0, none⟩ = some (.slice paa pan pac) ∧ Y.cell? ⟨P, 1, none⟩ = some (.slice pba pbn pbc) ∧ Y.cell? ⟨T, 0, none⟩ = some (.int .i64 x.1) ∧ Y.cell? ⟨T, 1, none⟩ = some (.int .i64 x.2)) ∧ P < Y.heap.size ∧ T < Y.heap.size ∧ Below w.heap.size w Y) := fun Y hb => by
    obtain ⟨c1, _, l1⟩ := blk_cells (blkT (unhide HBP) hb)
    obtain ⟨c2, _, l2⟩ := blk_cells (blkT (unhide HBT) hb)
    exact ⟨⟨c1 0, c1 1, c2 0, c2 1⟩, l1, l2, (unhide HB0).trans (hb.mono (unhide HB0).size)⟩
  clear HBP HBT hW0
  go_loopg [8] n (fun gg t8 wr => ∃ (k : Nat), Hid (k = gg ∧ k ≤ n) ∧ t8 = .int .i64 (k : Int) ∧ Hid (o = ctN p fs x k ∧ Below W0.heap.size W0 wr))
  case atStart => exact ⟨n, ⟨rfl, Nat.le_refl _⟩, rfl, by rw [← unhide ho, ct, unhide hn], Below.refl _ _⟩
  case round =>
    obtain ⟨k, hk, rfl, hG⟩ := hrel
    clear ho
    by_cases hk0 : k = 0
    · subst hk0
      have ho := (unhide hG).1
      rw [show ctN p fs x 0 = none from rfl] at ho
      subst ho
      have HE := hide (unhide HCB _ (unhide hG).2).2.2.2
      clear hG
      go_wp2_with fail
      go_ret2
      exact ⟨_, [], rfl, OF.nil _ _, unhide HE⟩
    · obtain ⟨m, hm⟩ : ∃ m, Hid (k = m + 1) := ⟨k - 1, hide (by omega)⟩
      have hkn := (unhide hk).2
      obtain ⟨f, hf⟩ : ∃ f, Hid (fs[m]? = some f) := ⟨_, hide (List.getElem?_eq_getElem (by have := unhide hm; rw [unhide hn]; omega))⟩
      have HFM : Hid (f ∈ fs) := List.mem_of_getElem? (unhide hf)
      obtain ⟨⟨g0, g1, g2, g3⟩, lP, lT, hbw⟩ := unhide HCB _ (unhide hG).2
      obtain ⟨lb, off, sa, sc, ea, llb, k0, k1, k2, hsv, hsc1, hsc2⟩ := (unhide HU _ hbw).2.three (unhide hf)
      subst ea
      obtain ⟨fl, hfl⟩ : ∃ L, Hid (f.sl.length = L) := ⟨_, hide rfl⟩
      have hfl1 : fl ≤ 1048576 := by rw [← unhide hfl]; exact unhide HS f (unhide HFM)
      rw [unhide hfl] at k2 hsc1
      have HSV : Hid (∀ Y, Below wr.heap.size wr Y → Rx Y 2 (.slice sa fl sc) f.sl.length (flt enI f.sl)) := fun Y hb => by rw [← unhide hfl]; exact hsv.below hb (Nat.le_refl _)
      have hw1 : IntKind.i64.wrap ((k : Int) - 1) = (m : Int) := by have := unhide hm; rw [IntKind.wrap_i64] <;> omega
      have m0 : (0 : Int) ≤ (m : Int) := by omega
      have m1 : (m : Int) < (n : Int) := by have := unhide hm; omega
      have kp : (0 : Int) < (k : Int) := by omega
      have kp2 : (0 : Int) ≤ (k : Int) := by omega
      have kp3 : (k : Int) ≤ (lc : Int) := by omega
      have HBW := hide hbw
      have HXC := hide (fun (O : Obj) => unhide HC52 (wr.alloc O) (hbw.alloc hbw.size O) f (.agg #[.int .i64 f.fn, .int .i64 f.pc, .slice sa fl sc]) ⟨_, rfl, unhide HSV _ ((Below.refl _ _).alloc (Nat.le_refl _) O)⟩ (unhide HFM))
      clear hsv hbw
      go_wp2_with fail
      refine (unhide HXC _).mono ?_
      rintro e w1 ⟨r, rfl, htk, hb1⟩
      have HB1 : Hid (Below wr.heap.size wr w1) := ((Below.refl _ wr).alloc (Nat.le_refl _) _).trans (hb1.mono (by simp))
      obtain ⟨F, hF⟩ : ∃ F, Hid (wr.heap.size = F) := ⟨_, hide rfl⟩
      have HBF : Hid (w1.heap[F]? = some (.cells #[.int .i64 f.fn, .int .i64 f.pc, .slice sa fl sc] 30)) := by rw [← unhide hF]; exact blkT (heap_alloc_new wr _) hb1
      have HB1W : Hid (Below W0.heap.size W0 w1) := (unhide hG).2.trans ((unhide HB1).mono (unhide hG).2.size)
      rw [unhide hF]
      have HTK := hide htk
      clear htk hb1 HXC k0 k1 k2 g0 g1 g2 g3 lP lT llb
      rcases unhide HTK with ⟨er, hnone⟩ | ⟨i, g, z, er, hg, hz, hsome, hfit⟩
      · have HNX : Hid (o = ctN p fs x m) := by rw [(unhide hG).1, unhide hm, ctN_none (unhide hf) hnone]; exact hide rfl
        clear hnone HTK
        subst er
        go_wp2_with fail
        go_roundg m
        case measure => have := (unhide hk).1; have := unhide hm; omega
        case rel => exact ⟨m, ⟨rfl, by have := unhide hm; omega⟩, by go_num, unhide HNX, unhide HB1W⟩
      · have HOS : Hid (o = some (fs.take m ++ [⟨f.fn, z.target, f.sl.take (g.locals + z.height).toNat ++ [x]⟩])) := by rw [(unhide hG).1, unhide hm, ctN_some (unhide hf) hsome]; exact hide rfl
        subst er
        obtain ⟨q0, q1, q2⟩ := fnAt_some hg
        obtain ⟨K, hK⟩ : ∃ K : Nat, Hid (f.fn.toNat = K) := ⟨_, hide rfl⟩
        rw [unhide hK] at q2
        obtain ⟨⟨g0, g1, g2, g3⟩, lP, lT, hbw1⟩ := unhide HCB _ (unhide HB1W)
        obtain ⟨fb, fo, a1, c1, a2, c2, ep, lfb, hKn, r0, r1, r2, r3, r4, hhs⟩ := (unhide HU _ hbw1).1.fnc q2
        subst ep
        obtain ⟨hb_, ho_, ea2, lhb, z2, z3⟩ := hhs i z hz
        subst ea2
        obtain ⟨NH, hNH⟩ : ∃ n, Hid (g.hs.length = n) := ⟨_, hide rfl⟩
        have hi1 : i < NH := by rw [← unhide hNH]; exact (List.getElem?_eq_some_iff.1 hz).1
        have hNH1 : NH ≤ 1048576 := by rw [← unhide hNH]; exact (unhide HO f.fn g hg).1
        rw [unhide hNH] at r4
        obtain ⟨fb1, fb2, fb3⟩ := fitB_le hfit
        rw [unhide hfl] at fb3
        obtain ⟨KK, hKK⟩ : ∃ K : Nat, Hid ((g.locals + z.height).toNat = K) := ⟨_, hide rfl⟩
        have hwk : IntKind.i64.wrap (g.locals + z.height) = (KK : Int) := by have := unhide hKK; rw [IntKind.wrap_i64] <;> omega
        have kk0 : (0 : Int) ≤ (KK : Int) := by omega
        have kkf : KK ≤ fl := by have := unhide hKK; omega
        have kk1 : (KK : Int) ≤ (sc : Int) := by omega
        rw [unhide hKK] at HOS
        obtain ⟨cF, _, lF⟩ := blk_cells (unhide HBF)
        have hfk : f.fn = (K : Int) := by have := unhide hK; omega
        have x0 : w1.cell? ⟨F, 0, none⟩ = some (.int .i64 (K : Int)) := by rw [← hfk]; exact cF 0
        have kb0 : (0 : Int) ≤ (K : Int) := by omega
        have kb1 : (K : Int) < (pbn : Int) := by omega
        have ib0 : (0 : Int) ≤ (i : Int) := by omega
        have ib1 : (i : Int) < (NH : Int) := by omega
        have HX22 := hide (fun (O : Obj) => unhide HC22 (w1.alloc O) (hbw1.alloc hbw1.size O) k hkn)
        have HFK := hide hfk
        have HBW1 := hide hbw1
        clear hhs hg hz hsome hfit q0 q1 q2 hfk cF hbw1 hNH HTK hK fb3
        go_wp2_with fail
        refine (unhide HX22 _).mono ?_
        rintro e w2 ⟨v2, xs2, rfl, ho2, hb2⟩
        have htl : (fs.take k).length = k := by rw [List.length_take, unhide hn]; omega
        have HTL := hide htl
        obtain ⟨g2', off2, cp2, ev2, hcp, hcpm, gl, _⟩ := ho2.row.full (by rw [htl]; omega)
        rw [htl] at ev2 hcp
        subst ev2
        obtain ⟨GB, hGB⟩ : ∃ B, Hid (w1.heap.size = B) := ⟨_, hide rfl⟩
        have HBG : Hid (w2.heap[GB]? = some (.cells #[.string g.name, .int .i64 g.params, .int .i64 g.locals, .slice a1 g.code.length c1, .slice (some ⟨hb_, ho_, none⟩) NH c2] 83)) := by rw [← unhide hGB]; exact blkT (heap_alloc_new w1 _) hb2
        have HB2 : Hid (Below w1.heap.size w1 w2) := ((Below.refl _ w1).alloc (Nat.le_refl _) _).trans (hb2.mono (by simp))
        have HO2 : Hid (OF w1.heap.size w2 (.slice (some ⟨g2', off2, none⟩) k cp2) (fs.take k) xs2) := ho2.low (by simp)
        have hGBlt : Hid (GB < g2') := by have h1 := ho2.rb g2' rfl; simp at h1; have := unhide hGB; unfold Hid; omega
        rw [unhide hGB]
        have z2' := ((unhide HB2).cell (p := ⟨hb_, _, none⟩) lhb).trans z2
        have z3' := ((unhide HB2).cell (p := ⟨hb_, _, none⟩) lhb).trans z3
        have lhb2 := Nat.lt_of_lt_of_le lhb (unhide HB2).size
        obtain ⟨cG, _, lG⟩ := blk_cells (unhide HBG)
        have cG2 := cG 2
        have cG4 := cG 4
        clear ho2 hb2 htl cG r0 r1 r2 r3 r4 g0 g1 g2 g3 x0 z2 z3 HX22 lP lT lfb lF
        go_wp2_with fail
        go_region
        go_wp2_with fail
        have hbD : Below w2.heap.size w2 w2.drew := below_drw (Below.refl _ w2)
        obtain ⟨X, hX⟩ : ∃ X, Hid (w2.drew = X) := ⟨_, hide rfl⟩
        rw [unhide hX] at hbD ⊢
        have HO2n := hide ((unhide HO2).fr (Fr.of_below (S := fun _ => False) hbD) (fun _ _ _ e => e))
        have HBGn := hide (blkT (unhide HBG) hbD)
        have HB2n : Hid (Below w1.heap.size w1 X) := (unhide HB2).trans (hbD.mono (unhide HB2).size)
        have z2'' := (hbD.cell (p := ⟨hb_, _, none⟩) lhb2).trans z2'
        have lhb3 := Nat.lt_of_lt_of_le lhb2 hbD.size
        have lG3 := Nat.lt_of_lt_of_le lG hbD.size
        have gl3 := Nat.lt_of_lt_of_le gl hbD.size
        clear HO2 HBG HB2 hbD hX z2' z3' cG2 cG4 lhb2 lG gl hwk
        have HO2 := HO2n
        have HBG := HBGn
        have HB2 := HB2n
        clear HO2n HBGn HB2n
        obtain ⟨y, hy⟩ : ∃ y, Hid (xs2[m]? = some y) := ⟨_, hide (List.getElem?_eq_getElem (by rw [(unhide HO2).len, unhide HTL]; have := unhide hm; omega))⟩
        have HFT : Hid ((fs.take k)[m]? = some f) := by unfold Hid; rw [List.getElem?_take, if_pos (by have := unhide hm; omega)]; exact unhide hf
        obtain ⟨e1, e2, e3⟩ := (unhide HO2).el m f y (unhide HFT) (unhide hy)
        obtain ⟨ya, yc, ey, _⟩ := e3.shape
        rw [unhide hfl] at ey
        obtain ⟨b', o', c', eb', _, _, _, hcs⟩ := Rx.elem zM (by have := Rx.of_ro (unhide HO2).row; rw [(unhide HO2).len.symm] at this; exact this) (unhide hy)
        rw [(unhide HO2).len, unhide HTL] at eb'
        cases eb'
        have k1 := hcs 1 _ rfl
        have k2 := hcs 2 _ rfl
        rw [e2] at k1
        rw [ey] at k2
        have fz := fun j => (unhide HO2).row.free (by rw [unhide HTL]) j
        have fz1 := fz (off2 + m * 3 + 1)
        have fz2 := fz (off2 + m * 3 + 2)
        have lgw : w1.heap.size ≤ g2' := (unhide HO2).rb g2' rfl
        obtain ⟨TK, hTK⟩ : ∃ l, Hid (f.sl.take KK = l) := ⟨_, hide rfl⟩
        have HLK : Hid (TK.length = KK) := by rw [← unhide hTK]; unfold Hid; rw [List.length_take]; have := unhide hfl; omega
        rw [unhide hTK] at HOS
        have HSP : Hid (∀ Y, Below X.heap.size X Y → Y.cell? ⟨F, 2, none⟩ = some (.slice sa fl sc) ∧ Y.cell? ⟨T, 0, none⟩ = some (.int .i64 x.1) ∧ Y.cell? ⟨T, 1, none⟩ = some (.int .i64 x.2)) := fun Y hb => by
          have hb' : Below w1.heap.size w1 Y := (unhide HB2).trans (hb.mono (unhide HB2).size)
          have q := (unhide HCB Y ((unhide HB1W).trans (hb'.mono (unhide HB1W).size))).1
          exact ⟨(blk_cells (blkT (unhide HBF) hb')).1 2, q.2.2.1, q.2.2.2⟩
        have HFT2 : Hid (F < w1.heap.size ∧ T < w1.heap.size) := ⟨(blk_cells (unhide HBF)).2.2, (unhide HCB _ (unhide HB1W)).2.2.1⟩
        have HC46 : Hid (∀ Y, Below X.heap.size X Y → Calls Try.prog 46 #[.slice sa KK sc] Y fun e w' => ∃ a c, e = .returned (.slice a KK c) ∧ Ro w' 2 (.slice a KK c) KK (flt enI TK) ∧ Below Y.heap.size Y w' ∧ ∀ b, (Value.slice a KK c).ownBlock = some b → Y.heap.size ≤ b) := fun Y hb => by
          have hb' : Below wr.heap.size wr Y := (unhide HB1).trans (((unhide HB2).trans (hb.mono (unhide HB2).size)).mono (unhide HB1).size)
          have h1 := unhide HSV Y hb'
          rw [unhide hfl] at h1
          have h2 := Rx.upto h1 (k := KK) (c := sc) kkf (by omega) (by unfold maxLen at hsc2 ⊢; omega)
          rw [flt_take zI, unhide hTK] at h2
          refine (copyV_any (l := TK) (by rw [unhide HLK]; exact h2) (by rw [unhide HLK]; omega)).mono ?_
          rintro e w' ⟨v', rfl, hg⟩
          obtain ⟨a, c, e2, _⟩ := hg.1.shape
          rw [unhide HLK] at e2
          subst e2
          exact ⟨a, c, rfl, by have := hg.1; rw [unhide HLK] at this; exact this, hg.2.1, hg.2.2⟩
        have HD : Hid (Below X.heap.size X X.drew) := below_drw (Below.refl _ X)
        obtain ⟨s0, s1, s2⟩ := unhide HSP X (Below.refl _ _)
        have lF := Nat.lt_of_lt_of_le (unhide HFT2).1 (unhide HB2).size
        have lT := Nat.lt_of_lt_of_le (unhide HFT2).2 (unhide HB2).size
        have m1' : (m : Int) < (k : Int) := by have := unhide hm; omega
        have kkb : KK ≤ 1048576 := by omega
        clear fz hcs e1 e2 e3
        have HEY := hide ey
        clear ey
        go_cut [12] from 16 to 73 (fun t12 wc => t12 = .slice (some ⟨g2', off2, none⟩) k cp2 ∧ ∃ (sv : Value) (w5 : World), Hid (wc = w5.setCell ⟨g2', off2 + m * 3 + 2, none⟩ sv ∧ Fr (fun _ => False) X w5 ∧ Ro w5 2 sv (TK ++ [x]).length (flt enI (TK ++ [x])) ∧ ∀ b, sv.ownBlock = some b → X.heap.size ≤ b))
        case first =>
         as_aux_lemma =>
          go_region_held3 (fun w' => w'.cell? ⟨F, 2, none⟩ = some (.slice sa fl sc) ∧ w'.cell? ⟨T, 0, none⟩ = some (.int .i64 x.1) ∧ w'.cell? ⟨T, 1, none⟩ = some (.int .i64 x.2)) (first | exact hS4 | exact hS5 | exact hS6 _ | exact unhide HSP _ ((unhide HD).alloc (Nat.le_refl _) _) | exact unhide HSP _ (hb4X.alloc hb4X.size _) | go_keep)
            (first
             | (go_at_call 46; (first | refine (unhide HC46 _ (unhide HD)).mono ?_ | refine (unhide HC46 _ ((unhide HD).alloc (Nat.le_refl _) _)).mono ?_); rintro e w4 ⟨va4, vc4, rfl, hr4, hb4, hv4⟩; have hb4X : Below X.heap.size X w4 := (by first | exact (unhide HD).trans hb4 | exact ((unhide HD).alloc (Nat.le_refl _) _).trans (hb4.mono (by simp))); have hS4 := unhide HSP w4 hb4X; have hv4X : ∀ b, (Value.slice va4 KK vc4).ownBlock = some b → X.heap.size ≤ b := (fun b hb => by have h1 := hv4 b hb; (try simp at h1); omega))
             | ((first | refine step_appW (by rfl) _ _ rfl _ _ rfl rfl _ TK x (hr4.fr ((Fr.refl (fun _ => False) _).alloc _) (fun _ _ e => e)) (rx_blk zI (heap_alloc_new _ _) [x] rfl 1 rfl (by unfold maxLen; omega)) (by omega) ?_ | refine step_appW (by rfl) _ _ rfl _ _ rfl rfl _ TK x hr4 (rx_blk zI (blkT (heap_alloc_new _ _) hb4) [x] rfl 1 rfl (by unfold maxLen; omega)) (by omega) ?_); intro v5 w5 hr5 hgr5 hat5; have hF5 : Fr (fun b => (Value.slice va4 KK vc4).ownBlock = some b) w4 w5 := (by first | exact ((Fr.refl _ w4).alloc _).grown hgr5 (fun k e => .inr e) | exact (Fr.refl _ w4).grown hgr5 (fun k e => .inr e)); have hb5X : Below X.heap.size X w5 := hb4X.trans (hF5.below hb4X.size (fun b hb e => by have := hv4X b e; omega)); have hS5 := unhide HSP w5 hb5X; obtain ⟨a5, c5, ev5, _⟩ := hr5.shape; subst ev5; have hv5 : ∀ b, (Value.slice a5 (KK + 1) c5).ownBlock = some b → X.heap.size ≤ b := (fun b hb => by have h4 := hb4X.size; rcases hat5 with q | q <;> rw [q] at hb <;> first | exact hv4X b hb | (cases hb; (try simp); omega)); have k5 : w5.cell? ⟨g2', off2 + m * 3 + 2, none⟩ = some (.slice ya fl yc) := (hb5X.cell (p := ⟨g2', _, none⟩) gl3).trans k2; have f5 : w5.frozen? ⟨g2', off2 + m * 3 + 2, none⟩ = false := ((Fr.of_below (S := fun _ => False) hb5X).frozen (a := ⟨g2', _, none⟩) gl3 (fun e => e)).trans fz2; have l5 : g2' < w5.heap.size := Nat.lt_of_lt_of_le gl3 hb5X.size; have hS6 : ∀ u, (w5.setCell ⟨g2', off2 + m * 3 + 2, none⟩ u).cell? ⟨F, 2, none⟩ = some (.slice sa fl sc) ∧ (w5.setCell ⟨g2', off2 + m * 3 + 2, none⟩ u).cell? ⟨T, 0, none⟩ = some (.int .i64 x.1) ∧ (w5.setCell ⟨g2', off2 + m * 3 + 2, none⟩ u).cell? ⟨T, 1, none⟩ = some (.int .i64 x.2) := (fun u => (have h1 := unhide HFT2; ⟨(World.cell?_setCell_far _ _ _ _ (by show g2' ≠ F; omega)).trans hS5.1, (World.cell?_setCell_far _ _ _ _ (by show g2' ≠ T; omega)).trans hS5.2.1, (World.cell?_setCell_far _ _ _ _ (by show g2' ≠ T; omega)).trans hS5.2.2⟩))))
          all_goals (have HB5 := hide hb5X; have HR5 := hide hr5; have HV5 := hide hv5; go_wp2_with fail; go_meet; case rel => exact ⟨rfl, _, w5, rfl, Fr.of_below (unhide HB5), (by rw [List.length_append, flt_append, flt_one, unhide HLK]; exact unhide HR5), unhide HV5⟩)
        case rest =>
          obtain ⟨rfl, sv, w5, hcr⟩ := hcut
          obtain ⟨ewc, hF5, hr5, how⟩ := unhide hcr
          subst ewc
          have gl5 := Nat.lt_of_lt_of_le gl3 hF5.size
          have p1 := (hF5.cell (a := ⟨g2', off2 + m * 3 + 1, none⟩) gl3 (fun e => e)).trans k1
          have pf1 := (hF5.frozen (a := ⟨g2', off2 + m * 3 + 1, none⟩) gl3 (fun e => e)).trans fz1
          obtain ⟨G, hGG⟩ : ∃ G : Fm, Hid ((⟨f.fn, z.target, TK ++ [x]⟩ : Fm) = G) := ⟨_, hide rfl⟩
          rw [unhide hGG] at HOS
          have HSET : Hid ((fs.take k).set m G = fs.take m ++ [G]) := by
            have hkm := unhide hm
            have htl := unhide HTL
            refine List.ext_getElem? (fun j => ?_)
            by_cases qi : j = m
            · subst qi
              rw [List.getElem?_set_self (by omega), List.getElem?_append_right (by rw [List.length_take]; omega), List.length_take, Nat.min_eq_left (by rw [unhide hn]; omega), Nat.sub_self]
              rfl
            · rw [List.getElem?_set_ne (fun e => qi e.symm), List.getElem?_take]
              by_cases qj : j < m
              · rw [if_pos (by omega), List.getElem?_append_left (by rw [List.length_take, unhide hn]; omega), List.getElem?_take, if_pos qj]
              · rw [if_neg (by omega), List.getElem?_append_right (by rw [List.length_take]; omega), List.length_take, Nat.min_eq_left (by rw [unhide hn]; omega)]
                exact (List.getElem?_eq_none (by simp; omega)).symm
          have HFIN : Hid ((∃ xs', OF w.heap.size ((w5.setCell ⟨g2', off2 + m * 3 + 2, none⟩ sv).setCell ⟨g2', off2 + m * 3 + 1, none⟩ (.int .i64 z.target)) (.slice (some ⟨g2', off2, none⟩) k cp2) (fs.take m ++ [G]) xs') ∧ Below w.heap.size w ((w5.setCell ⟨g2', off2 + m * 3 + 2, none⟩ sv).setCell ⟨g2', off2 + m * 3 + 1, none⟩ (.int .i64 z.target))) := by
            have hGp : G.pc = z.target := by rw [← unhide hGG]
            have hGs : G.sl = TK ++ [x] := by rw [← unhide hGG]
            obtain ⟨v1, v2⟩ := (unhide HO2).put (G := G) (unhide HTL) (unhide HFT) (unhide hy) (hF5.mono (fun _ _ e => e.elim)) (by rw [hGs]; exact hr5) (fun b hb => .inr (how b hb)) (by rw [← unhide hGG])
            rw [hGp] at v1 v2
            rw [unhide HSET] at v1
            have s1 := (unhide HBW1).size
            have s2 := (unhide HB2).size
            have bX : Below w.heap.size w X := (unhide HBW1).trans ((unhide HB2).mono s1)
            refine ⟨⟨_, v1.low s1⟩, bX.trans (v2.below bX.size (fun b hb e => ?_))⟩
            rcases e with e | e
            · have := ((unhide HO2).eb m y b (unhide hy) e).1; omega
            · omega
          obtain ⟨cG, _, lG⟩ := blk_cells (unhide HBG)
          have cG4 := (hF5.cell (a := ⟨GB, 4, none⟩) lG3 (fun e => e)).trans (cG 4)
          have zt := (hF5.cell (a := ⟨hb_, ho_ + i * 4 + 2, none⟩) lhb3 (fun e => e)).trans z2''
          have n1 : g2' ≠ GB := fun e => by have := unhide hGBlt; omega
          have n2 : g2' ≠ hb_ := fun e => by omega
          have cG4' := (World.cell?_setCell_far w5 ⟨g2', off2 + m * 3 + 2, none⟩ ⟨GB, 4, none⟩ sv n1).trans cG4
          have zt' := (World.cell?_setCell_far w5 ⟨g2', off2 + m * 3 + 2, none⟩ ⟨hb_, ho_ + i * 4 + 2, none⟩ sv n2).trans zt
          have lGb := Nat.lt_of_lt_of_le lG3 hF5.size
          have lhb5 := Nat.lt_of_lt_of_le lhb3 hF5.size
          obtain ⟨sva, svc, esv, _⟩ := hr5.shape
          obtain ⟨L5, hL5⟩ : ∃ L, Hid ((TK ++ [x]).length = L) := ⟨_, hide rfl⟩
          rw [unhide hL5] at esv
          subst esv
          have hoo := unhide HOS
          subst hoo
          clear hF5 hr5 how hcr cG4 zt cG
          go_wp2_with fail
          go_ret2
          obtain ⟨⟨xs', o1⟩, o2⟩ := unhide HFIN
          exact ⟨_, xs', rfl, o1, o2⟩
end Go.Proofs.Ytfcgpafjhifogaa
