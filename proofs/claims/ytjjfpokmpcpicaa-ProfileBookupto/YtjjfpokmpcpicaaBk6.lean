/-
  Profile.
-/
import Derived.Test.YtjjfpokmpcpicaaBk6a
namespace Go.Proofs.Ytjjfpokmpcpicaa
open Go.RowKit
set_option linter.unusedVariables false
set_option linter.unusedSimpArgs false
theorem infR2 : (Try.prog.info? 53).map (fun i => (i.zero, i.size, i.bytes)) = some (some (.slice none 0 0), 1, 24) := by kernel_rfl
set_option maxRecDepth 100000 in
set_option maxHeartbeats 12800000 in
theorem profile_any {{Z : Nat → Prop}} {{w : World}} {{p : Nat}} {{f : List (List Sp)}} (h : BkM Z w p f) (hO : OkF f) (hF : f.length ≤ 5864062014634) (hN : (f.map List.length).sum ≤ 5864062014634) :
    Calls Try.prog 13 #[.pointer (some ⟨p, 0, none⟩)] w fun e w' => ∃ gv vs, e = .returned (.agg #[gv]) ∧ SO (fun k => w.heap.size ≤ k) w' gv f vs ∧ Below w.heap.size w w' := by
  have HPL := hide (fun W (hW : Below w.heap.size w W) => places_any (h.fr (Fr.of_below (S := fun _ => False) hW) (fun _ _ _ e => e)) hF hN)
  obtain ⟨mb, n, g, hg, hn, hc, hz⟩ := h
  obtain ⟨bc, -, bl⟩ := blk_cells hg.book
  have b0 := bc 0
  obtain ⟨q, hq⟩ : ∃ q, Hid (w.heap.size = q) := ⟨_, hide rfl⟩
  obtain ⟨NF, hNF⟩ : ∃ NF, Hid (f.length = NF) := ⟨_, hide rfl⟩
  obtain ⟨pl, hpl⟩ : ∃ l, Hid (plc (f.map List.length) 0 = l) := ⟨_, hide rfl⟩
  obtain ⟨L, hL⟩ : ∃ L, Hid (pl.length = L) := ⟨_, hide rfl⟩
  have HLS : Hid (L = (f.map List.length).sum) := by unfold Hid; rw [← unhide hL, ← unhide hpl, plc_len]
  obtain ⟨MO, hMO⟩ : ∃ O : Obj, Hid (Obj.cells (madeCells (Value.slice none 0 0).cells (NF * 1)) 53 = O) := ⟨_, hide rfl⟩
  have hmk : ∀ W : World, (Instr.makeSlice 26 (.int .i64 (NF : Int)) (.int .i64 (NF : Int))).run Try.prog W = .ok (.slice (some ⟨W.heap.size, 0, none⟩) NF NF) (W.alloc MO) := fun W => by
    obtain ⟨i3, hi3, hz3, hs3, hb3⟩ := info_parts infR2
    have := run_make (P := Try.prog) W 26 53 i3 _ Try.underlying26 hi3 hz3 .i64 .i64 (NF : Int) (NF : Int) (by omega) (by omega) (by rw [hb3]; have := unhide hNF; omega) (by have := unhide hNF; omega)
    rw [hs3] at this
    rw [← unhide hMO]
    simpa using this
  have HG := hide hg
  have HC := hide hc
  have HO := hide hO
  have HFB := hide hF
  have HNB := hide hN
  rw [unhide hpl] at HPL
  have HST := hide (fun pv w2 hgx => PrI.start w f (by unfold maxLen; omega) (pv := pv) (pl := pl) (w2 := w2) hgx)
  rw [unhide hNF] at b0 HST
  rw [unhide hMO] at HST
  have HB1 : Hid (Below w.heap.size w ((w.alloc (.cells #[.slice none 0 0] 28)).alloc MO)) := ((Below.refl _ w).alloc (Nat.le_refl _) _).alloc (by simp only [World.size_alloc]; omega) _
  clear hg hc hz bc hn hO hN hF
  go_enter Try.func13, Try.ntmps13
  go_wp2_with fail
  refine (unhide HPL _ (unhide HB1)).mono ?_
  rintro e w2 ⟨pv, rfl, hgx⟩
  have HPI := hide (unhide HST pv w2 hgx)
  clear hgx HST HB1 HPL hmk b0
  obtain ⟨pa, pc, epv, hp1, hp2⟩ := (unhide HPI).pr.shape
  subst epv
  rw [unhide hL] at HPI hp1 ⊢
  go_wp2_with fail
  rw [unhide hq]
  go_loopg [14] L (fun gg t14 wr => ∃ (k : Nat) (vs : List Value), Hid (k + gg = L) ∧ t14 = .int .i64 (k : Int) ∧ Hid (PrI w f (.slice pa L pc) pl k vs wr))
  case atStart => exact ⟨0, _, by unfold Hid; omega, rfl, HPI⟩
  case round =>
    clear HPI
    obtain ⟨k, vs, hk, rfl, hP⟩ := hrel
    by_cases hlt : k < L
    · have k0 : (0 : Int) ≤ (k : Int) := by omega
      have k1 : (k : Int) < (L : Int) := by omega
      have HLT := hide hlt
      have hLb : L ≤ 5864062014634 := by have h1 := unhide HLS; have h2 := unhide HNB; omega
      obtain ⟨i, l, j, s, h1, h2, h3, h4, h5⟩ := pre_step f k 0 (by rw [← unhide HLS]; exact hlt)
      rw [unhide hpl, Nat.zero_add] at h3
      have hi : i < NF := by rw [← unhide hNF]; exact (List.getElem?_eq_some_iff.1 h1).1
      obtain ⟨pb, po, pcap, ep, _, _, hpb, hpc⟩ := (Rx.of_ro (unhide hP).pr).elem zI h3
      rw [unhide hL] at ep
      cases ep
      have c0 : wr.cell? ⟨pb, po + k * 2, none⟩ = some (.int .i64 (i : Int)) := hpc 0 _ rfl
      have c1 : wr.cell? ⟨pb, po + k * 2 + 1, none⟩ = some (.int .i64 (j : Int)) := hpc 1 _ rfl
      -- the spot
      have hga : (g ((i : Int), (j : Int))).map (·.2) = some s := by rw [unhide HC]; exact spAt_of h1 h2
      obtain ⟨sb, hgs⟩ : ∃ sb, g ((i : Int), (j : Int)) = some (sb, s) := by
        cases hh : g ((i : Int), (j : Int)) with
        | none => rw [hh] at hga; cases hga
        | some bb => obtain ⟨b1, b2⟩ := bb; rw [hh] at hga; simp at hga; exact ⟨b1, by rw [hga]⟩
      obtain ⟨bx, hbx⟩ : ∃ bx, Hid (wr.heap.size = bx) := ⟨_, hide rfl⟩
      obtain ⟨X, hX⟩ : ∃ X, Hid (wr.alloc (.cells #[.int .i64 (i : Int), .int .i64 (j : Int)] 78) = X) := ⟨_, hide rfl⟩
      have hWX : Below wr.heap.size wr X := by rw [← unhide hX]; exact (Below.refl _ wr).alloc (Nat.le_refl _) _
      have hPX := (unhide hP).on hWX
      have hbX : X.heap[bx]? = some (.cells #[.int .i64 (i : Int), .int .i64 (j : Int)] 78) := by rw [← unhide hX, ← unhide hbx]; exact heap_alloc_new wr _
      have hXs : X.heap.size = bx + 1 := by rw [← unhide hX, ← unhide hbx, World.size_alloc]
      have hGX : BkG X p mb f.length n g := (unhide HG).fr (Fr.of_below (S := fun _ => False) hPX.bl) (fun _ _ e => e)
      have hpl2 : p < q := by rw [← unhide hq]; exact (unhide HG).ltS (.inl rfl)
      have hml2 : mb < q := by rw [← unhide hq]; exact (unhide HG).ltS (.inr (.inl rfl))
      have hqb : q + 1 < bx := by
        have := hPX.ow.row.lt (w.heap.size + 1) rfl
        have h9 := (unhide hP).ow.row.lt (w.heap.size + 1) rfl
        rw [unhide hbx, unhide hq] at h9
        exact h9
      have hok : OkV ((i : Int), (j : Int)) := spAt_ok (unhide HFB) (fun l' hl' => by have h7 := le_sum (List.mem_map.2 ⟨l', hl', rfl⟩ : l'.length ∈ f.map List.length); have := unhide HNB; omega) (by rw [spAt_of h1 h2]; rfl)
      obtain ⟨ob1, ho1⟩ : ∃ o, Hid (X.heap[bx]? = o) := ⟨_, hide rfl⟩
      obtain ⟨ob2, ho2⟩ : ∃ o, Hid (X.heap[p]? = o) := ⟨_, hide rfl⟩
      obtain ⟨ob3, ho3⟩ : ∃ o, Hid (X.heap[mb]? = o) := ⟨_, hide rfl⟩
      have HU : Hid (∀ V, (fun V => V.heap[bx]? = ob1 ∧ V.heap[p]? = ob2 ∧ V.heap[mb]? = ob3) V → V.cell? ⟨bx, 0, none⟩ = some (.int .i64 (i : Int)) ∧ V.cell? ⟨bx, 1, none⟩ = some (.int .i64 (j : Int)) ∧ V.cell? ⟨p, 1, none⟩ = some (.map (some mb)) ∧ (Instr.lookup 57 (.map (some mb)) (.agg #[.int .i64 (i : Int), .int .i64 (j : Int)]) false).run Try.prog V = .ok (.pointer (some ⟨sb, 0, none⟩)) V ∧ True) := fun V hV => by
        obtain ⟨v1, v2, v3⟩ := hV
        have a1 := (blk_cells ((v1.trans (unhide ho1).symm).trans hbX)).1
        have a2 := (blk_cells ((v2.trans (unhide ho2).symm).trans hGX.book)).1
        have a3 := (hGX.map.keep (v3.trans (unhide ho3).symm)).look1 ((i : Int), (j : Int)) hok
        rw [hgs] at a3
        exact ⟨a1 0, a1 1, a2 1, a3, trivial⟩
      have HS0 : Hid ((fun V => V.heap[bx]? = ob1 ∧ V.heap[p]? = ob2 ∧ V.heap[mb]? = ob3) X.drew) := ⟨unhide ho1, unhide ho2, unhide ho3⟩
      have HX0 : Hid (Below X.heap.size X X.drew) := ⟨rfl, rfl, rfl, Nat.le_refl _, fun _ _ => rfl⟩
      have HSB : Hid (∀ V, Below X.heap.size X V → (fun V => V.heap[bx]? = ob1 ∧ V.heap[p]? = ob2 ∧ V.heap[mb]? = ob3) V) := fun V hV => ⟨(hV.block _ (by omega)).trans (unhide ho1), (hV.block _ (by omega)).trans (unhide ho2), (hV.block _ (by omega)).trans (unhide ho3)⟩
      have HBA : Hid (∀ V, Below X.heap.size X V → Below X.heap.size X (V.alloc (.cells #[.int .i64 s.c, .int .u16 s.a, .int .u16 s.b, .int .i64 s.k] 56))) := fun V hV => hV.alloc hV.size _
      have hvi : i < vs.length := by have := hPX.ow.len; rw [pre_len] at this; rw [this, unhide hNF]; exact hi
      obtain ⟨x, hx⟩ : ∃ x, vs[i]? = some x := ⟨_, List.getElem?_eq_getElem hvi⟩
      have HY : Hid (∀ V, Below X.heap.size X V → V.cell? ⟨q + 1, i, none⟩ = some x ∧ q + 1 < V.heap.size) := fun V hV => by
        have hPV := hPX.on hV
        obtain ⟨b, o, c, e, _, _, _, hc⟩ := (Rx.of_ro (by have := hPV.ow.row; rw [← hPV.ow.len] at this; exact this)).elem zV hx
        rw [unhide hq] at e
        injection e with e1 e2 e3
        cases e1
        have a := hc 0 _ rfl
        refine ⟨by simpa using a, ?_⟩
        have := hV.size
        omega
      have hos : okS s := unhide HO l (List.mem_of_getElem? h1) s (List.mem_of_getElem? h2)
      have HTELL : Hid (Calls Try.prog 30 #[.pointer (some ⟨sb, 0, none⟩)] X.drew fun e w' => e = .returned (.agg #[.int .i64 s.c, .int .u16 s.a, .int .u16 s.b, .int .i64 s.k]) ∧ Below X.heap.size X.drew w') := tell_any (w := X.drew) (hGX.spot _ _ _ hgs) hos
      have HAPP : Hid (∀ V, Below X.heap.size X V → ∃ xa xn xc w1, (Builtin.append_ #[53, 53] 53 #[x, .slice (some ⟨V.heap.size, 0, none⟩) 1 1]).run Try.prog (V.alloc (.cells #[.int .i64 s.c, .int .u16 s.a, .int .u16 s.b, .int .i64 s.k] 56)) = .ok (.slice xa xn xc) w1 ∧ Hid ((fun V => V.heap[bx]? = ob1 ∧ V.heap[p]? = ob2 ∧ V.heap[mb]? = ob3) (w1.setCell ⟨q + 1, i, none⟩ (.slice xa xn xc))) ∧ Hid ((fun V => V.heap[bx]? = ob1 ∧ V.heap[p]? = ob2 ∧ V.heap[mb]? = ob3) w1) ∧ Hid (w1.cell? ⟨q + 1, i, none⟩ = some x) ∧ Hid (w1.frozen? ⟨q + 1, i, none⟩ = false) ∧ Hid (PrI w f (.slice (some ⟨pb, po, none⟩) L pc) pl (k + 1) (vs.set i (.slice xa xn xc)) (w1.setCell ⟨q + 1, i, none⟩ (.slice xa xn xc)))) := fun V hV => by
        have hVA := unhide HBA V hV
        have hPA := hPX.on hVA
        obtain ⟨i4, hi4, hz4, hs4, hb4⟩ := info_parts infS
        have hro : Ro (V.alloc (.cells #[.int .i64 s.c, .int .u16 s.a, .int .u16 s.b, .int .i64 s.k] 56)) 4 x (l.take j).length (flt enS (l.take j)) := hPA.ow.el i _ x h4 hx
        have hjl : (l.take j).length ≤ 5864062014634 := by
          have h7 := le_sum (List.mem_map.2 ⟨l, List.mem_of_getElem? h1, rfl⟩ : l.length ∈ f.map List.length)
          have := unhide HNB
          rw [List.length_take]
          omega
        obtain ⟨x', w1, hrun, r1, r2, r3⟩ := Ro.app (P := Try.prog) 53 53 56 i4 _ 4 24 Try.underlying53 hi4 hz4 hs4 hb4 rfl (by decide) hro ⟨V.heap.size, 0, none⟩ 1 1 (enS s) rfl (new_cells V _ _) (by simp [enS, Value.oneCell']) (by omega) (by unfold maxLen; omega) (by omega)
        obtain ⟨xa, xc, ex, _, _⟩ := r1.shape
        subst ex
        have hZ : ∀ z, (V.alloc (.cells #[.int .i64 s.c, .int .u16 s.a, .int .u16 s.b, .int .i64 s.k] 56)).heap.size ≤ z → PZ w (.slice (some ⟨pb, po, none⟩) L pc) z := fun z hz => by
          have h6 := hVA.size
          refine ⟨by rw [unhide hq]; omega, fun e => ?_⟩
          have := (hPA.pb z e).2
          omega
        obtain ⟨o1, o2, o3, o4⟩ := SO.appSet hPA.ow h4 hx r1 r2 r3 hZ
        rw [unhide hq] at o1 o2 o3 o4
        have hxk : ∀ z, x.ownBlock = some z → q + 1 ≤ z ∧ z < bx := fun z hz => by
          have a := (unhide hP).ow.eb i x z hx hz
          exact ⟨by rw [← unhide hq]; exact a.1.1, by rw [← unhide hbx]; exact a.2.1⟩
        have hbk : ∀ z, (z = bx ∨ z = p ∨ z = mb) → w1.heap[z]? = X.heap[z]? := fun z hz => by
          rw [r2.block z (Nat.lt_of_lt_of_le (by omega : z < X.heap.size) hVA.size) (fun e => by have := hxk z e.symm; omega)]
          exact hVA.block z (by omega)
        have hbs : ∀ (u : Value) (z : Nat), (z = bx ∨ z = p ∨ z = mb) → (w1.setCell ⟨q + 1, i, none⟩ u).heap[z]? = X.heap[z]? := fun u z hz => by
          rw [Below.heap_setCell _ _ _ _ (fun e => by have e2 : z = q + 1 := e; omega)]
          exact hbk z hz
        refine ⟨xa, _, xc, w1, hrun, ⟨(hbs _ _ (.inl rfl)).trans (unhide ho1), (hbs _ _ (.inr (.inl rfl))).trans (unhide ho2), (hbs _ _ (.inr (.inr rfl))).trans (unhide ho3)⟩, ⟨(hbk _ (.inl rfl)).trans (unhide ho1), (hbk _ (.inr (.inl rfl))).trans (unhide ho2), (hbk _ (.inr (.inr rfl))).trans (unhide ho3)⟩, o3, o4, ?_⟩
        have hf := hPA.bl.trans (o2.below hPA.bl.size (fun z hz e => by have := e.1; omega))
        refine ⟨hf, ?_, ?_, ?_, fun b hb => ⟨(hPA.pb b hb).1, Nat.lt_of_lt_of_le (hPA.pb b hb).2 o2.size⟩⟩
        · rw [o2.block _ (Array.getElem?_eq_some_iff.1 hPA.b0).1 (fun e => by have := e.1; omega)]; exact hPA.b0
        · rw [h5, unhide hq]; exact o1
        · exact hPA.pr.fr o2 (fun b hb e => e.2 hb)
      have i0 : (0 : Int) ≤ (i : Int) := by omega
      have i1 : (i : Int) < (NF : Int) := by omega
      clear hok hGX hPX hWX hbX h1 h2 h3 h4 h5 hga hgs hpc hvi hx hos
      go_wp2_with fail
      rw [unhide hbx, unhide hX]
      clear c0 c1
      refine wp_region_held_drew (S := (fun V => V.heap[bx]? = ob1 ∧ V.heap[p]? = ob2 ∧ V.heap[mb]? = ob3)) (by kernel_rfl) (unhide HS0) (fun hHeld => ?_)
      clear hHeld
      refine wpAnyH_take (i := 0) (oi := _) (v := .slice (some ⟨q + 1, 0, none⟩) NF NF) rfl (by kernel_rfl) (by kernel_rfl) (by kernel_rfl) (fun _ _ _ h => h) (Or.inl ⟨by rfl, (by intro w' hSw; obtain ⟨x0, x1, x2, x3, x4⟩ := unhide HU w' hSw; go_simp)⟩) (unhide HS0) ?_
      go_simp
      refine wpAnyH_take (i := 1) (oi := _) (v := .pointer (some ⟨bx, 0, none⟩)) rfl (by kernel_rfl) (by kernel_rfl) (by kernel_rfl) (fun _ _ _ h => h) (Or.inl ⟨by rfl, (by intro w' hSw; obtain ⟨x0, x1, x2, x3, x4⟩ := unhide HU w' hSw; go_simp)⟩) (unhide HS0) ?_
      go_simp
      refine wpAnyH_take (i := 2) (oi := _) (v := .int .i64 (i : Int)) rfl (by kernel_rfl) (by kernel_rfl) (by kernel_rfl) (fun _ _ _ h => h) (Or.inl ⟨by rfl, (by intro w' hSw; obtain ⟨x0, x1, x2, x3, x4⟩ := unhide HU w' hSw; go_simp)⟩) (unhide HS0) ?_
      go_simp
      refine wpAnyH_take (i := 3) (oi := _) (v := .slice (some ⟨q + 1, 0, none⟩) NF NF) rfl (by kernel_rfl) (by kernel_rfl) (by kernel_rfl) (fun _ _ _ h => h) (Or.inl ⟨by rfl, (by intro w' hSw; obtain ⟨x0, x1, x2, x3, x4⟩ := unhide HU w' hSw; go_simp)⟩) (unhide HS0) ?_
      go_simp
      refine wpAnyH_take (i := 4) (oi := _) (v := .pointer (some ⟨bx, 0, none⟩)) rfl (by kernel_rfl) (by kernel_rfl) (by kernel_rfl) (fun _ _ _ h => h) (Or.inl ⟨by rfl, (by intro w' hSw; obtain ⟨x0, x1, x2, x3, x4⟩ := unhide HU w' hSw; go_simp)⟩) (unhide HS0) ?_
      go_simp
      refine wpAnyH_take (i := 5) (oi := _) (v := .int .i64 (i : Int)) rfl (by kernel_rfl) (by kernel_rfl) (by kernel_rfl) (fun _ _ _ h => h) (Or.inl ⟨by rfl, (by intro w' hSw; obtain ⟨x0, x1, x2, x3, x4⟩ := unhide HU w' hSw; go_simp)⟩) (unhide HS0) ?_
      go_simp
      refine wpAnyH_take (i := 6) (oi := _) (v := .pointer (some ⟨q + 1, i, none⟩)) rfl (by kernel_rfl) (by kernel_rfl) (by kernel_rfl) (fun _ _ _ h => h) (Or.inl ⟨by rfl, (by intro w' hSw; obtain ⟨x0, x1, x2, x3, x4⟩ := unhide HU w' hSw; go_simp)⟩) (unhide HS0) ?_
      go_simp
      refine wpAnyH_take (i := 8) (oi := _) (v := .pointer (some ⟨p, 0, none⟩)) rfl (by kernel_rfl) (by kernel_rfl) (by kernel_rfl) (fun _ _ _ h => h) (Or.inl ⟨by rfl, (by intro w' hSw; obtain ⟨x0, x1, x2, x3, x4⟩ := unhide HU w' hSw; go_simp)⟩) (unhide HS0) ?_
      go_simp
      refine wpAnyH_take (i := 9) (oi := _) (v := .pointer (some ⟨p, 0, none⟩)) rfl (by kernel_rfl) (by kernel_rfl) (by kernel_rfl) (fun _ _ _ h => h) (Or.inl ⟨by rfl, (by intro w' hSw; obtain ⟨x0, x1, x2, x3, x4⟩ := unhide HU w' hSw; go_simp)⟩) (unhide HS0) ?_
      go_simp
      refine wpAnyH_take (i := 10) (oi := _) (v := .pointer (some ⟨p, 1, none⟩)) rfl (by kernel_rfl) (by kernel_rfl) (by kernel_rfl) (fun _ _ _ h => h) (Or.inl ⟨by rfl, (by intro w' hSw; obtain ⟨x0, x1, x2, x3, x4⟩ := unhide HU w' hSw; go_simp)⟩) (unhide HS0) ?_
      go_simp
      refine wpAnyH_take (i := 11) (oi := _) (v := .map (some mb)) rfl (by kernel_rfl) (by kernel_rfl) (by kernel_rfl) (fun _ _ _ h => h) (Or.inl ⟨by rfl, (by intro w' hSw; obtain ⟨x0, x1, x2, x3, x4⟩ := unhide HU w' hSw; go_simp)⟩) (unhide HS0) ?_
      go_simp
      refine wpAnyH_take (i := 12) (oi := _) (v := .agg #[.int .i64 (i : Int), .int .i64 (j : Int)]) rfl (by kernel_rfl) (by kernel_rfl) (by kernel_rfl) (fun _ _ _ h => h) (Or.inl ⟨by rfl, (by intro w' hSw; obtain ⟨x0, x1, x2, x3, x4⟩ := unhide HU w' hSw; go_simp)⟩) (unhide HS0) ?_
      go_simp
      refine wpAnyH_take (i := 13) (oi := _) (v := .pointer (some ⟨sb, 0, none⟩)) rfl (by kernel_rfl) (by kernel_rfl) (by kernel_rfl) (fun _ _ _ h => h) (Or.inl ⟨by rfl, (by intro w' hSw; obtain ⟨x0, x1, x2, x3, x4⟩ := unhide HU w' hSw; go_simp)⟩) (unhide HS0) ?_
      go_simp
      refine wpAnyH_ready (rs := [7, 14]) (by kernel_rfl) (by simp) ?_
      refine AllReadyH.cons (o := _) rfl (fun K hK => ?_) (AllReadyH.cons (o := _) rfl (fun K hK => ?_) AllReadyH.nil)
      · obtain ⟨y0, y1⟩ := unhide HY X.drew (unhide HX0)
        go_simp
        refine hK.out _ _ (unhide HS0) (fun _ => ?_)
        clear hK K
        go_simp
        refine wpAnyH_ready (rs := [14]) (by kernel_rfl) (by simp) ?_
        refine AllReadyH.cons (o := _) rfl (fun K hK => ?_) AllReadyH.nil
        go_simp
        refine (unhide HTELL).mono ?_
        rintro e V ⟨rfl, hbV⟩
        have HBV : Hid (Below X.heap.size X V) := ⟨hbV.os, hbV.tape, hbV.output, hbV.size, hbV.block⟩
        clear hbV
        go_simp
        refine hK.out _ _ ((unhide HSB V (unhide HBV))) (fun _ => ?_)
        clear hK K
        go_simp
        refine wpAnyH_ready (rs := [15]) (by kernel_rfl) (by simp) ?_
        refine AllReadyH.cons (o := _) rfl (fun K hK => ?_) AllReadyH.nil
        go_simp
        refine hK.out _ _ ((unhide HSB _ (unhide HBA V (unhide HBV)))) (fun _ => ?_)
        clear hK K
        go_simp
        obtain ⟨xa, xn, xc, w1, hrun, HR1, HS1, HC1, HF1, HPI⟩ := unhide HAPP V (unhide HBV)
        refine wpAnyH_ready (rs := [16]) (by kernel_rfl) (by simp) ?_
        refine AllReadyH.cons (o := _) rfl (fun K hK => ?_) AllReadyH.nil
        refine step_appRun rfl _ _ (by rfl) _ _ _ (by rfl) (by rfl) hrun ?_
        refine hK.out _ _ (unhide HS1) (fun _ => ?_)
        clear hK K
        go_simp
        refine wpAnyH_take (i := 17) (oi := _) (v := .pointer (some ⟨q + 1, i, none⟩)) rfl (by kernel_rfl) (by kernel_rfl) (by kernel_rfl) (fun _ _ _ h => h) (Or.inl ⟨by rfl, (by intro w' hSw; go_simp)⟩) (unhide HS1) ?_
        go_simp
        refine wpAnyH_ready (rs := [18]) (by kernel_rfl) (by simp) ?_
        refine AllReadyH.cons (o := _) rfl (fun K hK => ?_) AllReadyH.nil
        have hc1 := unhide HC1
        have hf1 := unhide HF1
        go_simp
        refine hK.out _ _ ((unhide HR1)) (fun _ => ?_)
        clear hK K
        go_simp
        refine wpAnyH_done (by kernel_rfl) ?_ _
        clear hc1 hf1 hrun
        go_wp2_with fail
        go_roundg (gk - 1)
        case measure => have := unhide hk; omega
        case rel => exact ⟨k + 1, _, by have h1 := unhide hk; have h2 := unhide HLT; unfold Hid; omega, by go_num, HPI⟩
      · go_simp
        refine (unhide HTELL).mono ?_
        rintro e V ⟨rfl, hbV⟩
        have HBV : Hid (Below X.heap.size X V) := ⟨hbV.os, hbV.tape, hbV.output, hbV.size, hbV.block⟩
        clear hbV
        go_simp
        refine hK.out _ _ ((unhide HSB V (unhide HBV))) (fun _ => ?_)
        clear hK K
        go_simp
        refine wpAnyH_ready (rs := [7, 15]) (by kernel_rfl) (by simp) ?_
        refine AllReadyH.cons (o := _) rfl (fun K hK => ?_) (AllReadyH.cons (o := _) rfl (fun K hK => ?_) AllReadyH.nil)
        · obtain ⟨y0, y1⟩ := unhide HY V (unhide HBV)
          go_simp
          refine hK.out _ _ ((unhide HSB V (unhide HBV))) (fun _ => ?_)
          clear hK K
          go_simp
          refine wpAnyH_ready (rs := [15]) (by kernel_rfl) (by simp) ?_
          refine AllReadyH.cons (o := _) rfl (fun K hK => ?_) AllReadyH.nil
          go_simp
          refine hK.out _ _ ((unhide HSB _ (unhide HBA V (unhide HBV)))) (fun _ => ?_)
          clear hK K
          go_simp
          obtain ⟨xa, xn, xc, w1, hrun, HR1, HS1, HC1, HF1, HPI⟩ := unhide HAPP V (unhide HBV)
          refine wpAnyH_ready (rs := [16]) (by kernel_rfl) (by simp) ?_
          refine AllReadyH.cons (o := _) rfl (fun K hK => ?_) AllReadyH.nil
          refine step_appRun rfl _ _ (by rfl) _ _ _ (by rfl) (by rfl) hrun ?_
          refine hK.out _ _ (unhide HS1) (fun _ => ?_)
          clear hK K
          go_simp
          refine wpAnyH_take (i := 17) (oi := _) (v := .pointer (some ⟨q + 1, i, none⟩)) rfl (by kernel_rfl) (by kernel_rfl) (by kernel_rfl) (fun _ _ _ h => h) (Or.inl ⟨by rfl, (by intro w' hSw; go_simp)⟩) (unhide HS1) ?_
          go_simp
          refine wpAnyH_ready (rs := [18]) (by kernel_rfl) (by simp) ?_
          refine AllReadyH.cons (o := _) rfl (fun K hK => ?_) AllReadyH.nil
          have hc1 := unhide HC1
          have hf1 := unhide HF1
          go_simp
          refine hK.out _ _ ((unhide HR1)) (fun _ => ?_)
          clear hK K
          go_simp
          refine wpAnyH_done (by kernel_rfl) ?_ _
          clear hc1 hf1 hrun
          go_wp2_with fail
          go_roundg (gk - 1)
          case measure => have := unhide hk; omega
          case rel => exact ⟨k + 1, _, by have h1 := unhide hk; have h2 := unhide HLT; unfold Hid; omega, by go_num, HPI⟩
        · go_simp
          refine hK.out _ _ ((unhide HSB _ (unhide HBA V (unhide HBV)))) (fun _ => ?_)
          clear hK K
          go_simp
          refine wpAnyH_ready (rs := [7]) (by kernel_rfl) (by simp) ?_
          refine AllReadyH.cons (o := _) rfl (fun K hK => ?_) AllReadyH.nil
          obtain ⟨y0, y1⟩ := unhide HY _ (unhide HBA V (unhide HBV))
          go_simp
          refine hK.out _ _ ((unhide HSB _ (unhide HBA V (unhide HBV)))) (fun _ => ?_)
          clear hK K
          go_simp
          obtain ⟨xa, xn, xc, w1, hrun, HR1, HS1, HC1, HF1, HPI⟩ := unhide HAPP V (unhide HBV)
          refine wpAnyH_ready (rs := [16]) (by kernel_rfl) (by simp) ?_
          refine AllReadyH.cons (o := _) rfl (fun K hK => ?_) AllReadyH.nil
          refine step_appRun rfl _ _ (by rfl) _ _ _ (by rfl) (by rfl) hrun ?_
          refine hK.out _ _ (unhide HS1) (fun _ => ?_)
          clear hK K
          go_simp
          refine wpAnyH_take (i := 17) (oi := _) (v := .pointer (some ⟨q + 1, i, none⟩)) rfl (by kernel_rfl) (by kernel_rfl) (by kernel_rfl) (fun _ _ _ h => h) (Or.inl ⟨by rfl, (by intro w' hSw; go_simp)⟩) (unhide HS1) ?_
          go_simp
          refine wpAnyH_ready (rs := [18]) (by kernel_rfl) (by simp) ?_
          refine AllReadyH.cons (o := _) rfl (fun K hK => ?_) AllReadyH.nil
          have hc1 := unhide HC1
          have hf1 := unhide HF1
          go_simp
          refine hK.out _ _ ((unhide HR1)) (fun _ => ?_)
          clear hK K
          go_simp
          refine wpAnyH_done (by kernel_rfl) ?_ _
          clear hc1 hf1 hrun
          go_wp2_with fail
          go_roundg (gk - 1)
          case measure => have := unhide hk; omega
          case rel => exact ⟨k + 1, _, by have h1 := unhide hk; have h2 := unhide HLT; unfold Hid; omega, by go_num, HPI⟩

    · have hk0 : k = L ∧ gk = 0 := by have := unhide hk; omega
      obtain ⟨rfl, rfl⟩ := hk0
      have hb0 := (unhide hP).b0
      rw [unhide hq] at hb0
      obtain ⟨cq, fq, lq⟩ := blk_cells hb0
      have d0 := cq 0
      have d1 := fq 0
      have HFN : Hid (SO (fun z => w.heap.size ≤ z) (wr.setCell ⟨q, 0, none⟩ (.slice (some ⟨q + 1, 0, none⟩) NF NF)) (.slice (some ⟨q + 1, 0, none⟩) NF NF) f vs ∧ Below w.heap.size w (wr.setCell ⟨q, 0, none⟩ (.slice (some ⟨q + 1, 0, none⟩) NF NF))) := by
        have ho := (unhide hP).ow
        rw [pre_all f _ (by rw [unhide HLS]; exact Nat.le_refl _), unhide hq, unhide hNF] at ho
        have fr : Fr (fun z => z = q) wr (wr.setCell ⟨q, 0, none⟩ (.slice (some ⟨q + 1, 0, none⟩) NF NF)) := (Fr.refl (fun z => z = q) wr).setCell ⟨q, 0, none⟩ (.inr rfl) _
        refine ⟨(ho.frZ staysS fr (fun z _ hz e => by have := hz.1; have := unhide hq; omega)).mono (fun z _ hz => by have := hz.1; omega), (unhide hP).bl.trans (fr.below (unhide hP).bl.size (fun z hz e => by have := unhide hq; omega))⟩
      clear hb0 cq fq hP
      go_wp2_with fail
      refine bodyPost_ret (v := .agg #[.slice (some ⟨q + 1, 0, none⟩) NF NF]) ?_ rfl ?_
      · rw [results_cell_one rfl]
        go_simp
      · exact ⟨_, vs, rfl, unhide HFN⟩
end Go.Proofs.Ytjjfpokmpcpicaa
