/-
  The document's block.
-/
import Derived.Test.YtpbdpejhjdoleaaCi
import Derived.Test.YtpbdpejhjdoleaaRgG
namespace Go.Proofs.Ytpbdpejhjdoleaa
open Go.RowKit
set_option linter.unusedVariables false
set_option linter.unusedSimpArgs false
theorem GS.startR (w : World) : GS w [] (.slice none 0 0) [] w := ⟨Below.refl _ _, rfl, by simpa [flt] using Ro.nil w 8, by simp [Value.ownBlock], fun i x r h => by simp at h⟩
theorem GS.insR {w wr : World} {l : List RIn} {lv : Value} {rs : List InR} (h : GS w l lv rs wr) : InsV (fun _ => True) wr l lv :=
  ⟨rs, h.len, ⟨Rx.of_ro h.row, fun _ _ _ => trivial⟩, fun i u r hu hr => InP.mv _ _ _ _ _ _ _ (h.el i u r hu hr) (Fr.refl (fun _ => False) wr) (fun k _ e => ⟨fun q => q, trivial⟩)⟩
theorem stp_two {f : Op → Wr} {out : List RIn} {x : RIn} (h : mvd (inF f x) ≠ some (rgO x.dst)) : (stp (f, out) x).2 = out ++ [inF f x] := by
  unfold stp
  dsimp only
  rw [if_neg h]
theorem stp_one {f : Op → Wr} {out : List RIn} {x : RIn} (h : mvd (inF f x) = some (rgO x.dst)) : (stp (f, out) x).2 = out := by
  unfold stp
  dsimp only
  rw [if_pos h]
theorem fold_len : ∀ (l : List RIn) (s : (Op → Wr) × List RIn), (l.foldl stp s).2.length ≤ s.2.length + l.length
  | [], s => by simp
  | x :: l, s => by
    have h1 := fold_len l (stp s x)
    have h2 := stp_len s x
    simp only [List.foldl_cons, List.length_cons]
    omega
theorem trn_len (l : List RIn) : (trn l).2.length ≤ l.length := by
  have := fold_len l (f0, [])
  simpa [trn] using this
set_option maxRecDepth 100000 in
set_option maxHeartbeats 12800000 in
theorem blockR_any {w : World} {D : Nat → Prop} {l : List RIn} {v : Value} (h : InsV D w l v) (hN : l.length ≤ 1048576)
    (hM : ∀ x ∈ l, x.args.length ≤ 1048576 ∧ x.ex.length ≤ 1048576 ∧ ∀ s ∈ x.ex, s.sl.length ≤ 1048576) :
    Calls Try.prog 22 #[v] w fun e w' => ∃ lv rs, e = .returned lv ∧ GS w (trn l).2 lv rs w' := by
  obtain ⟨a, c, rfl, ha1, ha2⟩ := NV.shape h
  have HI := hide h
  have HM := hide hM
  clear h hM
  obtain ⟨L, hL⟩ : ∃ L, Hid (l.length = L) := ⟨_, hide rfl⟩
  rw [unhide hL] at HI hN ha1 ⊢
  unfold maxLen at ha2
  go_enter Try.func22, Try.ntmps22
  go_wp2_with fail
  go_loopg [3, 4] L (fun gg t3 t4 wr => ∃ (k : Nat) (lv : Value) (rs : List InR), Hid (k + gg = L) ∧ t3 = lv ∧ t4 = .int .i64 (k : Int) ∧ Hid (GS w (trn (l.take k)).2 lv rs wr))
  case atStart => exact ⟨0, _, [], by unfold Hid; omega, rfl, rfl, hide (by simpa [trn] using GS.startR w)⟩
  case round =>
    obtain ⟨k, lv, rs, hk, elv, rfl, hS⟩ := hrel
    obtain rfl := elv.symm
    by_cases hlt : k < L
    case neg =>
      have hkL : k = L := by have := unhide hk; omega
      subst hkL
      rw [List.take_of_length_le (by rw [unhide hL]; exact Nat.le_refl _)] at hS
      have i1 : ¬ (k : Int) < (k : Int) := by omega
      go_wp2_with fail
      go_ret
      first | exact ⟨_, rs, rfl, unhide hS⟩ | exact ⟨_, rfl, rs, unhide hS⟩ | exact ⟨rs, unhide hS⟩
    obtain ⟨x, hx⟩ : ∃ s, l[k]? = some s := ⟨_, List.getElem?_eq_getElem (by rw [unhide hL]; exact hlt)⟩
    obtain ⟨lb, lo, _, q, e1, hlb, _, hf, xc⟩ := NV.at zIn (show NV enIn 8 InP D w l (.slice a L c) from unhide HI) hx
    rw [unhide hL] at e1
    cases e1
    have hXM := unhide HM x (List.mem_of_getElem? hx)
    have HLW := hide (trn_lw l k (by rw [unhide hL]; omega))
    have hOL : (trn (l.take k)).2.length ≤ 1048576 := by have := trn_len (l.take k); rw [List.length_take] at this; omega
    obtain ⟨f, hF⟩ : ∃ f, Hid ((trn (l.take k)).1 = f) := ⟨_, hide rfl⟩
    obtain ⟨out, hO⟩ : ∃ f, Hid ((trn (l.take k)).2 = f) := ⟨_, hide rfl⟩
    have HNX := hide (trn_at l hx)
    rw [show trn (l.take k) = (f, out) from by rw [← unhide hF, ← unhide hO]] at HNX
    rw [unhide hF, unhide hO] at HLW
    rw [unhide hO] at hS hOL
    clear hF hO
    have HTR : Hid (∀ (W : World) (D3 : Nat → Prop) (l1 : List Op) (av : Value), Below wr.heap.size wr W → OpV D3 W l1 av → l1.length ≤ 1048576 → Calls Try.prog 35 #[lv, av] W fun e w' => ∃ v, e = .returned v ∧ Gx W 2 enO (l1.map (srcF f)) v w') := fun W D3 l1 av hb ha hn => turnedR_any ((unhide hS).on hb).insR (unhide HLW) hOL ha (by omega)
    have HCI := hide (copyIns_any (InP.mv.bel hf (unhide hS).bl) (by omega) (by omega) (fun s hs => by have := hXM.2.2 s hs; omega))
    have HXX := hide hf.2.2.2.2.2.2
    obtain ⟨rop, rcode, rdst, rav, rn, rpc, rneed, rev⟩ := q
    obtain ⟨h1, h2, h3, h4, h5, h6, h7, h8⟩ := hf
    simp only at h1 h2 h3 h4 h5 h6 h7 h8
    obtain ⟨aa, ac, ea1, hva1, hva2⟩ := h7.1.shape
    obtain ⟨ea, ec, ee1, hve1, hve2⟩ := NV.shape h8
    subst ea1 ee1 h1 h2 h3 h4 h5 h6
    obtain ⟨AL, hAL⟩ : ∃ z, Hid (x.args.length = z) := ⟨_, hide rfl⟩
    obtain ⟨EL, hEL⟩ : ∃ z, Hid (x.ex.length = z) := ⟨_, hide rfl⟩
    unfold inV at HCI
    dsimp only at HCI HXX
    rw [unhide hAL, unhide hEL] at xc HCI HXX
    rw [unhide hAL] at hva1
    rw [unhide hEL] at hve1
    unfold maxLen at hva2 hve2
    have y0 := ((unhide hS).bl.cell (p := ⟨lb, lo + k * 8 + 0, none⟩) hlb).trans (xc 0 _ rfl)
    have y1 := ((unhide hS).bl.cell (p := ⟨lb, lo + k * 8 + 1, none⟩) hlb).trans (xc 1 _ rfl)
    have y2 := ((unhide hS).bl.cell (p := ⟨lb, lo + k * 8 + 2, none⟩) hlb).trans (xc 2 _ rfl)
    have y3 := ((unhide hS).bl.cell (p := ⟨lb, lo + k * 8 + 3, none⟩) hlb).trans (xc 3 _ rfl)
    have y4 := ((unhide hS).bl.cell (p := ⟨lb, lo + k * 8 + 4, none⟩) hlb).trans (xc 4 _ rfl)
    have y5 := ((unhide hS).bl.cell (p := ⟨lb, lo + k * 8 + 5, none⟩) hlb).trans (xc 5 _ rfl)
    have y6 := ((unhide hS).bl.cell (p := ⟨lb, lo + k * 8 + 6, none⟩) hlb).trans (xc 6 _ rfl)
    have y7 := ((unhide hS).bl.cell (p := ⟨lb, lo + k * 8 + 7, none⟩) hlb).trans (xc 7 _ rfl)
    simp only [Nat.add_zero] at y0
    have HL3 : Hid (∀ W, Below w.heap.size w W → W.cell? ⟨lb, lo + k * 8 + 3, none⟩ = some (.slice aa AL ac) ∧ W.cell? ⟨lb, lo + k * 8 + 7, none⟩ = some (.slice ea EL ec) ∧ lb < W.heap.size) := fun W hW => ⟨(hW.cell (p := ⟨lb, lo + k * 8 + 3, none⟩) hlb).trans (xc 3 _ rfl), (hW.cell (p := ⟨lb, lo + k * 8 + 7, none⟩) hlb).trans (xc 7 _ rfl), Nat.lt_of_lt_of_le hlb hW.size⟩
    have hlbr : lb < wr.heap.size := Nat.lt_of_lt_of_le hlb (unhide hS).bl.size
    have i0 : (0 : Int) ≤ (k : Int) := by omega
    have i1 : (k : Int) < (L : Int) := by omega
    have HX := hide hx
    have HXM := hide hXM
    clear h7 h8 hx xc hXM
    go_wp2_with fail
    refine (unhide HCI).mono ?_
    rintro e w1 ⟨u, v, rs2, rfl, hci⟩
    clear HCI y0 y1 y2 y3 y4 y5 y6 y7 hlbr
    have HCP := hide hci
    obtain ⟨ua, uc, eu, hu1, hu2⟩ := hci.a
    obtain ⟨va, vc, ev, hv1, hv2⟩ := hci.g.1.shape
    rw [hci.len, unhide hEL] at ev
    rw [hci.len, unhide hEL] at hv1
    rw [unhide hAL] at eu hu1
    subst eu ev
    have HB1 := hide hci.g.2.1
    have H1 := hide ((BX.nil w1).add #[.int .i64 x.op, .int .i64 x.code, .int .i64 x.dst, .slice ua AL uc, .int .i64 x.n, .int .i64 x.pc, .int .i64 x.need, .slice va EL vc] 50)
    simp only [List.nil_append] at H1
    obtain ⟨Y, eY⟩ : ∃ Y, w1.alloc (.cells #[.int .i64 x.op, .int .i64 x.code, .int .i64 x.dst, .slice ua AL uc, .int .i64 x.n, .int .i64 x.pc, .int .i64 x.need, .slice va EL vc] 50) = Y := ⟨_, rfl⟩
    rw [eY] at H1
    obtain ⟨P, hP⟩ : ∃ P, Hid (w1.heap.size = P) := ⟨_, hide rfl⟩
    rw [unhide hP] at H1
    have HBY := hide (bl_past (unhide HB1) (unhide H1).b)
    have HWY := hide (bl_past (unhide hS).bl (unhide HBY))
    have HCT := hide (unhide HTR Y _ x.args _ (unhide HBY) (OpV.mv.bel (unhide HXX).1 (unhide HWY)) (unhide HXM).1)
    obtain ⟨y3, y7, ylb⟩ := unhide HL3 Y (unhide HWY)
    unfold maxLen at hu2 hv2
    clear hci y7
    go_wp2_with fail
    rw [unhide hP]
    refine (unhide HCT).mono ?_
    rintro e w3 ⟨t, rfl, ht⟩
    obtain ⟨ta, tc, et, ht1, ht2⟩ := ht.1.shape
    rw [List.length_map, unhide hAL] at et ht1
    subst et
    have H3 := hide ((unhide H1).go ht.2.1)
    have d3 := (unhide H3).ce 0 rfl 3
    have dl := (unhide H3).lt (i := 0) rfl
    have df := (blk_cells ((unhide H3).h 0 _ rfl)).2.1 3
    simp at d3 dl df
    have hPY : P < Y.heap.size := (unhide H1).lt (i := 0) rfl
    have hvP : ∀ b, (Value.slice va EL vc).ownBlock = some b → wr.heap.size ≤ b ∧ b < P := fun b hb => ⟨(unhide HCP).g.2.2 b hb, by rw [← unhide hP]; exact (unhide HCP).g.1.lt b hb⟩
    have htP : ∀ b, (Value.slice ta AL tc).ownBlock = some b → P < b := fun b hb => by have := ht.2.2 b hb; omega
    have HFT := hide (Fr.setCell (S := fun k => k = P) (Fr.refl _ w3) ⟨P, 3, none⟩ (.inr rfl) (.slice ta AL tc))
    have HBOX := setCell_block (g := P) (o := 3) ((unhide H3).h 0 _ rfl) (.slice ta AL tc)
    simp at HBOX
    have HTA := ht.1.fr (unhide HFT) (fun b hb e => by have := htP b hb; have e' : b = P := e; omega)
    have hwP : wr.heap.size ≤ P := by rw [← unhide hP]; exact (unhide HB1).size
    have HB4 : Hid (Below wr.heap.size wr (w3.setCell ⟨P, 3, none⟩ (.slice ta AL tc))) := hide ((bl_past (unhide HBY) ht.2.1).setCell (p := ⟨P, 3, none⟩) hwP _)
    have HROW : Ro (w3.setCell ⟨P, 3, none⟩ (.slice ta AL tc)) 3 (.slice va EL vc) x.ex.length (flt enSh rs2) := by
      have r0 := (unhide HCP).g.1
      rw [(unhide HCP).len] at r0
      exact ((r0.fr (Fr.of_below (S := fun _ => False) (bl_past (by rw [← unhide hP] at H1; exact (unhide H1).b) ht.2.1)) (fun _ _ e => e)).fr (unhide HFT) (fun b hb e => by have := hvP b hb; have e' : b = P := e; omega))
    obtain ⟨W4, eW4⟩ : ∃ W, w3.setCell ⟨P, 3, none⟩ (.slice ta AL tc) = W := ⟨_, rfl⟩
    rw [eW4] at HBOX HTA HB4 HROW
    rw [List.length_map, unhide hAL] at HTA
    have HC0 : Hid (CpS wr (x.ex.map (shF f)) rs2 (.slice va EL vc) 0 rs2 W4) := ⟨unhide HB4, by rw [List.length_map]; exact (unhide HCP).len, by rw [List.length_map]; exact HROW, (unhide HCP).g.2.2, fun _ _ => rfl, fun j s r hj => absurd hj (by omega), fun j r b hj => absurd hj (by omega), fun i j r q b hi => absurd hi (by omega)⟩
    have HBX4 := hide HBOX
    have HTA4 := hide HTA
    have HVP := hide hvP
    have HTP := hide htP
    clear ht HBOX HTA HROW HCT H1 hvP htP HB4 HBY HWY y3 ylb eY HFT
    go_wp2_with fail
    clear eW4 d3 dl df
    obtain ⟨w0, rfl⟩ : ∃ z, z = wr := ⟨_, rfl⟩
    obtain ⟨g0, rfl⟩ : ∃ z, z = gk := ⟨_, rfl⟩
    go_loopg [6] EL (fun gg t6 wq => ∃ (j : Nat) (ss : List ShR), Hid (j + gg = EL) ∧ t6 = .int .i64 (j : Int) ∧ Hid (CpS w0 (x.ex.map (shF f)) rs2 (.slice va EL vc) j ss wq) ∧ Hid (wq.heap[P]? = some (.cells #[.int .i64 x.op, .int .i64 x.code, .int .i64 x.dst, .slice ta AL tc, .int .i64 x.n, .int .i64 x.pc, .int .i64 x.need, .slice va EL vc] 50)) ∧ Hid (Ro wq 2 (.slice ta AL tc) AL (flt enO (x.args.map (srcF f)))))
    case atStart => exact ⟨0, rs2, by unfold Hid; omega, rfl, HC0, HBX4, HTA4⟩
    case round =>
      clear HC0 HBX4 HTA4
      obtain ⟨j, ss, hj, rfl, hC, hB, hA⟩ := hrel
      have hEl' : (x.ex.map (shF f)).length = EL := by rw [List.length_map, unhide hEL]
      have HBW := hide (bl_past (unhide hS).bl (unhide hC).bl)
      obtain ⟨bc, bf, pl⟩ := blk_cells (unhide hB)
      have c7 := bc 7
      have c0 := bc 0
      have c1 := bc 1
      have c2 := bc 2
      have c3 := bc 3
      have c4 := bc 4
      have c5 := bc 5
      have c6 := bc 6
      simp at c0 c1 c2 c3 c4 c5 c6 c7
      clear bc bf
      by_cases hlt2 : j < EL
      case neg =>
        have hjE : EL = j := by have := unhide hj; omega
        subst hjE
        have j1 : ¬ (EL : Int) < (EL : Int) := by omega
        have hwP2 : w0.heap.size ≤ P := by rw [← unhide hP]; exact (unhide HB1).size
        have HINP : Hid (InP (fun b => w0.heap.size ≤ b) wr (inF f x) ⟨x.op, x.code, x.dst, .slice ta AL tc, x.n, x.pc, x.need, .slice va EL vc⟩) := by
          refine hide ⟨rfl, rfl, rfl, rfl, rfl, rfl, ?_, ⟨ss, ?_, ?_, ?_⟩⟩
          · exact Rd.of_ro (by show Ro wr 2 _ (x.args.map (srcF f)).length _; rw [List.length_map, unhide hAL]; exact unhide hA) (fun b hb => by have := unhide HTP b hb; omega)
          · exact (unhide hC).len
          · exact Rd.of_ro (unhide hC).row (unhide hC).rb
          · intro i s r hs hr
            have hi : i < EL := by have := (List.getElem?_eq_some_iff.1 hs).1; rw [← hEl']; exact this
            exact ⟨((unhide hC).new i s r hi hs hr).1, ((unhide hC).new i s r hi hs hr).2.1, Rd.of_ro ((unhide hC).new i s r hi hs hr).2.2 (fun b hb => ((unhide hC).nb i r b hi hr hb).1)⟩
        obtain ⟨mo, hmo⟩ : ∃ z, Hid (mvd (inF f x) = z) := ⟨_, hide rfl⟩
        have HMV : Hid (∀ W, Below wr.heap.size wr W → Calls Try.prog 36 #[.agg #[.int .i64 x.op, .int .i64 x.code, .int .i64 x.dst, .slice ta AL tc, .int .i64 x.n, .int .i64 x.pc, .int .i64 x.need, .slice va EL vc]] W fun e w' => e = .returned (.bool mo.isSome) ∧ Below W.heap.size W w') := fun W hb => by
          have := moves_any (InP.mv.bel (unhide HINP) hb)
          rw [unhide hmo] at this
          exact this
        have HGB := hide (unhide hC).bl
        have HOLN := hide hOL
        go_wp2_with fail
        obtain ⟨Z, hZ⟩ : ∃ W, Hid (wr.drew = W) := ⟨_, hide rfl⟩
        have HZB : Hid (Below wr.heap.size wr Z) := by rw [← unhide hZ]; exact bl_drew wr
        have HCE : Hid (∀ W, Below Z.heap.size Z W → W.cell? ⟨P, 0, none⟩ = some (.int .i64 x.op) ∧ W.cell? ⟨P, 1, none⟩ = some (.int .i64 x.code) ∧ W.cell? ⟨P, 2, none⟩ = some (.int .i64 x.dst) ∧ W.cell? ⟨P, 3, none⟩ = some (.slice ta AL tc) ∧ W.cell? ⟨P, 4, none⟩ = some (.int .i64 x.n) ∧ W.cell? ⟨P, 5, none⟩ = some (.int .i64 x.pc) ∧ W.cell? ⟨P, 6, none⟩ = some (.int .i64 x.need) ∧ W.cell? ⟨P, 7, none⟩ = some (.slice va EL vc) ∧ P < W.heap.size) := fun W hW => by
          have hb := bl_past (unhide HZB) hW
          obtain ⟨q1, q2, q3⟩ := blk_cells ((hb.block P pl).trans (unhide hB))
          exact ⟨q1 0, q1 1, q1 2, q1 3, q1 4, q1 5, q1 6, q1 7, q3⟩
        have HS0 : Hid (Below Z.heap.size Z Z) := Below.refl _ _
        have HCALL := hide (unhide HMV Z (unhide HZB))
        clear c0 c1 c2 c3 c4 c5 c6 c7
        refine wp_region_held_drew (S := fun W => Below Z.heap.size Z W) (by kernel_rfl) (by rw [unhide hZ]; exact Below.refl _ _) (fun hHeld => ?_)
        clear hHeld
        rw [unhide hZ]
        clear hZ
        cases mo with
        | none =>
          refine wpAnyH_take (i := 0) (oi := _) (v := .agg #[.int .i64 x.op, .int .i64 x.code, .int .i64 x.dst, .slice ta AL tc, .int .i64 x.n, .int .i64 x.pc, .int .i64 x.need, .slice va EL vc]) rfl (by kernel_rfl) (by kernel_rfl) (by kernel_rfl) (fun _ _ _ h => h) (Or.inl ⟨by rfl, (by intro w2 hSw; obtain ⟨s0, s1, s2, s3, s4, s5, s6, s7, s8⟩ := unhide HCE w2 hSw; go_simp)⟩) (unhide HS0) ?_
          go_simp
          refine wpAnyH_ready (rs := [1]) (by kernel_rfl) (by simp) ?_
          refine AllReadyH.cons (o := _) rfl (fun K hK => ?_) AllReadyH.nil
          go_simp
          refine (unhide HCALL).mono ?_
          rintro e w5 ⟨rfl, b5⟩
          have HS5 := hide b5
          clear b5 HCALL
          refine hK.out _ _ (unhide HS5) (fun _ => ?_)
          clear hK K
          go_simp
          refine wpAnyH_take (i := 2) (oi := _) (v := .bool false) rfl (by kernel_rfl) (by kernel_rfl) (by kernel_rfl) (fun _ _ _ h => h) (Or.inl ⟨by rfl, (by intro w2 hSw; obtain ⟨s0, s1, s2, s3, s4, s5, s6, s7, s8⟩ := unhide HCE w2 hSw; go_simp)⟩) (unhide HS5) ?_
          go_simp
          refine wpAnyH_take (i := 3) (oi := _) (v := undef) rfl (by kernel_rfl) (by kernel_rfl) (by kernel_rfl) (fun _ _ _ h => h) (Or.inr ⟨by rfl, rfl⟩) (unhide HS5) ?_
          go_simp
          refine wpAnyH_take (i := 4) (oi := _) (v := undef) rfl (by kernel_rfl) (by kernel_rfl) (by kernel_rfl) (fun _ _ _ h => h) (Or.inr ⟨by rfl, rfl⟩) (unhide HS5) ?_
          go_simp
          refine wpAnyH_take (i := 5) (oi := _) (v := undef) rfl (by kernel_rfl) (by kernel_rfl) (by kernel_rfl) (fun _ _ _ h => h) (Or.inr ⟨by rfl, rfl⟩) (unhide HS5) ?_
          go_simp
          refine wpAnyH_take (i := 6) (oi := _) (v := undef) rfl (by kernel_rfl) (by kernel_rfl) (by kernel_rfl) (fun _ _ _ h => h) (Or.inr ⟨by rfl, rfl⟩) (unhide HS5) ?_
          go_simp
          refine wpAnyH_take (i := 7) (oi := _) (v := undef) rfl (by kernel_rfl) (by kernel_rfl) (by kernel_rfl) (fun _ _ _ h => h) (Or.inr ⟨by rfl, rfl⟩) (unhide HS5) ?_
          go_simp
          refine wpAnyH_take (i := 8) (oi := _) (v := undef) rfl (by kernel_rfl) (by kernel_rfl) (by kernel_rfl) (fun _ _ _ h => h) (Or.inr ⟨by rfl, rfl⟩) (unhide HS5) ?_
          go_simp
          refine wpAnyH_take (i := 9) (oi := _) (v := undef) rfl (by kernel_rfl) (by kernel_rfl) (by kernel_rfl) (fun _ _ _ h => h) (Or.inr ⟨by rfl, rfl⟩) (unhide HS5) ?_
          go_simp
          refine wpAnyH_take (i := 10) (oi := _) (v := undef) rfl (by kernel_rfl) (by kernel_rfl) (by kernel_rfl) (fun _ _ _ h => h) (Or.inr ⟨by rfl, rfl⟩) (unhide HS5) ?_
          go_simp
          refine wpAnyH_take (i := 11) (oi := _) (v := .bool false) rfl (by kernel_rfl) (by kernel_rfl) (by kernel_rfl) (fun _ _ _ h => h) (Or.inl ⟨by rfl, (by intro w2 hSw; obtain ⟨s0, s1, s2, s3, s4, s5, s6, s7, s8⟩ := unhide HCE w2 hSw; go_simp)⟩) (unhide HS5) ?_
          go_simp
          refine wpAnyH_take (i := 12) (oi := _) (v := .bool false) rfl (by kernel_rfl) (by kernel_rfl) (by kernel_rfl) (fun _ _ _ h => h) (Or.inl ⟨by rfl, (by intro w2 hSw; obtain ⟨s0, s1, s2, s3, s4, s5, s6, s7, s8⟩ := unhide HCE w2 hSw; go_simp)⟩) (unhide HS5) ?_
          go_simp
          refine wpAnyH_done (by kernel_rfl) ?_ _
          have HBZ : Hid (Below w0.heap.size w0 w5) := bl_past (bl_past (unhide HGB) (unhide HZB)) (unhide HS5)
          have HI5 := hide (InP.mv.bel (unhide HINP) (bl_past (unhide HZB) (unhide HS5)))
          have HO5 : Hid ((trn (l.take (k + 1))).2 = out ++ [inF f x]) := by unfold Hid; rw [unhide HNX]; exact stp_two (by rw [unhide hmo]; simp)
          obtain ⟨s0, s1, s2, s3, s4, s5, s6, s7, s8⟩ := unhide HCE w5 (unhide HS5)
          have HLR : Hid (rs.length ≤ 1048576) := by rw [(unhide hS).len]; exact unhide HOLN
          have HRW : Hid (Ro (w5.alloc (.cells #[.int .i64 x.op, .int .i64 x.code, .int .i64 x.dst, .slice ta AL tc, .int .i64 x.n, .int .i64 x.pc, .int .i64 x.need, .slice va EL vc] 50)) 8 lv rs.length (flt enIn rs)) := by
            have := ((unhide hS).on (bl_past (unhide HBZ) (box1n w5 (.cells #[.int .i64 x.op, .int .i64 x.code, .int .i64 x.dst, .slice ta AL tc, .int .i64 x.n, .int .i64 x.pc, .int .i64 x.need, .slice va EL vc] 50)))).row
            rw [(unhide hS).len]
            exact this
          clear HCE HMV
          go_wp2_with (first | (at_builtin; refine appIn rfl _ _ rfl _ rs rfl (unhide HRW) ⟨w5.heap.size, 0, none⟩ 1 ⟨x.op, x.code, x.dst, .slice ta AL tc, x.n, x.pc, x.need, .slice va EL vc⟩ rfl (new_cells _ _ _) rfl rfl (by have := unhide HLR; omega) ?_))
          intro v' w' hr hg hat
          have HG6 := hide ((unhide hS).push (bl_past (unhide HBZ) (box1n w5 _)) (InP.mv.bel (unhide HI5) (box1n w5 _)) hr (by rw [(unhide hS).len]) hg (by simpa using hat))
          clear hr hg hat s0 s1 s2 s3 s4 s5 s6 s7 s8
          go_wp2_with fail
          go_roundg (g0 - 1)
          case measure => have := unhide hk; omega
          case rel => exact ⟨k + 1, v', _, by have := unhide hk; unfold Hid; omega, rfl, by go_num, hide (by rw [unhide HO5]; exact unhide HG6)⟩
        | some o =>
          have hmm := mvd_mem (unhide hmo)
          have hA1 : AL = 1 := by
            have h1 : (x.args.map (srcF f)).length = 1 := by rw [show x.args.map (srcF f) = [o] from hmm.2.2.2]; rfl
            rw [List.length_map, unhide hAL] at h1
            exact h1
          subst hA1
          have hea : (x.args.map (srcF f))[0]? = some o := by rw [show x.args.map (srcF f) = [o] from hmm.2.2.2]; rfl
          obtain ⟨tb, tf, cc, e, _, _, htl, htc⟩ := (Rx.of_ro (show Ro wr 2 (.slice ta 1 tc) (x.args.map (srcF f)).length (flt enO (x.args.map (srcF f))) by rw [List.length_map, unhide hAL]; exact unhide hA)).elem zO hea
          rw [List.length_map, unhide hAL] at e
          obtain ⟨e5, e6⟩ : ta = some ⟨tb, tf, none⟩ ∧ tc = cc := by cases e; exact ⟨rfl, rfl⟩
          subst e5
          subst e6
          clear e
          obtain ⟨ok, on⟩ := o
          have HCG : Hid (∀ W, Below Z.heap.size Z W → W.cell? ⟨tb, tf, none⟩ = some (.int .i64 ok) ∧ W.cell? ⟨tb, tf + 1, none⟩ = some (.int .i64 on) ∧ tb < W.heap.size) := fun W hW => by
            have hb := bl_past (unhide HZB) hW
            have q0 := (hb.cell (p := ⟨tb, tf + 0 * 2 + 0, none⟩) htl).trans (htc 0 _ rfl)
            have q1 := (hb.cell (p := ⟨tb, tf + 0 * 2 + 1, none⟩) htl).trans (htc 1 _ rfl)
            simp only [Nat.zero_mul, Nat.add_zero] at q0 q1
            exact ⟨q0, q1, Nat.lt_of_lt_of_le htl hb.size⟩
          clear hmm hea htc
          refine wpAnyH_take (i := 0) (oi := _) (v := .agg #[.int .i64 x.op, .int .i64 x.code, .int .i64 x.dst, .slice (some ⟨tb, tf, none⟩) 1 tc, .int .i64 x.n, .int .i64 x.pc, .int .i64 x.need, .slice va EL vc]) rfl (by kernel_rfl) (by kernel_rfl) (by kernel_rfl) (fun _ _ _ h => h) (Or.inl ⟨by rfl, (by intro w2 hSw; obtain ⟨s0, s1, s2, s3, s4, s5, s6, s7, s8⟩ := unhide HCE w2 hSw; go_simp)⟩) (unhide HS0) ?_
          go_simp
          refine wpAnyH_ready (rs := [1]) (by kernel_rfl) (by simp) ?_
          refine AllReadyH.cons (o := _) rfl (fun K hK => ?_) AllReadyH.nil
          go_simp
          refine (unhide HCALL).mono ?_
          rintro e w5 ⟨rfl, b5⟩
          have HS5 := hide b5
          clear b5 HCALL
          refine hK.out _ _ (unhide HS5) (fun _ => ?_)
          clear hK K
          go_simp
          refine wpAnyH_take (i := 2) (oi := _) (v := .bool true) rfl (by kernel_rfl) (by kernel_rfl) (by kernel_rfl) (fun _ _ _ h => h) (Or.inl ⟨by rfl, (by intro w2 hSw; obtain ⟨s0, s1, s2, s3, s4, s5, s6, s7, s8⟩ := unhide HCE w2 hSw; go_simp)⟩) (unhide HS5) ?_
          go_simp
          refine wpAnyH_take (i := 3) (oi := _) (v := .pointer (some ⟨P, 3, none⟩)) rfl (by kernel_rfl) (by kernel_rfl) (by kernel_rfl) (fun _ _ _ h => h) (Or.inl ⟨by rfl, (by intro w2 hSw; obtain ⟨s0, s1, s2, s3, s4, s5, s6, s7, s8⟩ := unhide HCE w2 hSw; go_simp)⟩) (unhide HS5) ?_
          go_simp
          refine wpAnyH_take (i := 4) (oi := _) (v := .slice (some ⟨tb, tf, none⟩) 1 tc) rfl (by kernel_rfl) (by kernel_rfl) (by kernel_rfl) (fun _ _ _ h => h) (Or.inl ⟨by rfl, (by intro w2 hSw; obtain ⟨s0, s1, s2, s3, s4, s5, s6, s7, s8⟩ := unhide HCE w2 hSw; go_simp)⟩) (unhide HS5) ?_
          go_simp
          refine wpAnyH_take (i := 5) (oi := _) (v := .pointer (some ⟨tb, tf, none⟩)) rfl (by kernel_rfl) (by kernel_rfl) (by kernel_rfl) (fun _ _ _ h => h) (Or.inl ⟨by rfl, (by intro w2 hSw; obtain ⟨s0, s1, s2, s3, s4, s5, s6, s7, s8⟩ := unhide HCE w2 hSw; go_simp)⟩) (unhide HS5) ?_
          go_simp
          refine wpAnyH_take (i := 6) (oi := _) (v := .agg #[.int .i64 ok, .int .i64 on]) rfl (by kernel_rfl) (by kernel_rfl) (by kernel_rfl) (fun _ _ _ h => h) (Or.inl ⟨by rfl, (by intro w2 hSw; obtain ⟨s0, s1, s2, s3, s4, s5, s6, s7, s8⟩ := unhide HCE w2 hSw; obtain ⟨g0, g1, g2⟩ := unhide HCG w2 hSw; go_simp)⟩) (unhide HS5) ?_
          go_simp
          refine wpAnyH_take (i := 7) (oi := _) (v := .pointer (some ⟨P, 2, none⟩)) rfl (by kernel_rfl) (by kernel_rfl) (by kernel_rfl) (fun _ _ _ h => h) (Or.inl ⟨by rfl, (by intro w2 hSw; obtain ⟨s0, s1, s2, s3, s4, s5, s6, s7, s8⟩ := unhide HCE w2 hSw; go_simp)⟩) (unhide HS5) ?_
          go_simp
          refine wpAnyH_take (i := 8) (oi := _) (v := .int .i64 x.dst) rfl (by kernel_rfl) (by kernel_rfl) (by kernel_rfl) (fun _ _ _ h => h) (Or.inl ⟨by rfl, (by intro w2 hSw; obtain ⟨s0, s1, s2, s3, s4, s5, s6, s7, s8⟩ := unhide HCE w2 hSw; go_simp)⟩) (unhide HS5) ?_
          go_simp
          refine wpAnyH_take (i := 9) (oi := _) (v := .agg #[.int .i64 0, .int .i64 x.dst]) rfl (by kernel_rfl) (by kernel_rfl) (by kernel_rfl) (fun _ _ _ h => h) (Or.inl ⟨by rfl, (by intro w2 hSw; obtain ⟨s0, s1, s2, s3, s4, s5, s6, s7, s8⟩ := unhide HCE w2 hSw; go_simp)⟩) (unhide HS5) ?_
          go_simp
          by_cases hsame : ok = 0 ∧ on = x.dst
          case pos =>
            obtain ⟨rfl, rfl⟩ := hsame
            refine wpAnyH_take (i := 10) (oi := _) (v := .bool true) rfl (by kernel_rfl) (by kernel_rfl) (by kernel_rfl) (fun _ _ _ h => h) (Or.inl ⟨by rfl, (by intro w2 hSw; obtain ⟨s0, s1, s2, s3, s4, s5, s6, s7, s8⟩ := unhide HCE w2 hSw; go_simp)⟩) (unhide HS5) ?_
            go_simp
            refine wpAnyH_take (i := 11) (oi := _) (v := .bool true) rfl (by kernel_rfl) (by kernel_rfl) (by kernel_rfl) (fun _ _ _ h => h) (Or.inl ⟨by rfl, (by intro w2 hSw; obtain ⟨s0, s1, s2, s3, s4, s5, s6, s7, s8⟩ := unhide HCE w2 hSw; go_simp)⟩) (unhide HS5) ?_
            go_simp
            refine wpAnyH_take (i := 12) (oi := _) (v := .bool true) rfl (by kernel_rfl) (by kernel_rfl) (by kernel_rfl) (fun _ _ _ h => h) (Or.inl ⟨by rfl, (by intro w2 hSw; obtain ⟨s0, s1, s2, s3, s4, s5, s6, s7, s8⟩ := unhide HCE w2 hSw; go_simp)⟩) (unhide HS5) ?_
            go_simp
            refine wpAnyH_done (by kernel_rfl) ?_ _
            have HBZ : Hid (Below w0.heap.size w0 w5) := bl_past (bl_past (unhide HGB) (unhide HZB)) (unhide HS5)
            have HO5 : Hid ((trn (l.take (k + 1))).2 = out) := by unfold Hid; rw [unhide HNX]; exact stp_one (by rw [unhide hmo]; rfl)
            have HG6 := hide ((unhide hS).on (unhide HBZ))
            clear HCE HMV HCG
            go_wp2_with fail
            go_roundg (g0 - 1)
            case measure => have := unhide hk; omega
            case rel => exact ⟨k + 1, _, _, by have := unhide hk; unfold Hid; omega, rfl, by go_num, hide (by rw [unhide HO5]; exact unhide HG6)⟩
          have hsb : ok = 0 → ¬ on = x.dst := fun a b => hsame ⟨a, b⟩
          clear hsame
          refine wpAnyH_take (i := 10) (oi := _) (v := .bool false) rfl (by kernel_rfl) (by kernel_rfl) (by kernel_rfl) (fun _ _ _ h => h) (Or.inl ⟨by rfl, (by intro w2 hSw; obtain ⟨s0, s1, s2, s3, s4, s5, s6, s7, s8⟩ := unhide HCE w2 hSw; go_simp; first | done | exact hsb)⟩) (unhide HS5) ?_
          go_simp
          refine wpAnyH_take (i := 11) (oi := _) (v := .bool false) rfl (by kernel_rfl) (by kernel_rfl) (by kernel_rfl) (fun _ _ _ h => h) (Or.inl ⟨by rfl, (by intro w2 hSw; obtain ⟨s0, s1, s2, s3, s4, s5, s6, s7, s8⟩ := unhide HCE w2 hSw; go_simp)⟩) (unhide HS5) ?_
          go_simp
          refine wpAnyH_take (i := 12) (oi := _) (v := .bool false) rfl (by kernel_rfl) (by kernel_rfl) (by kernel_rfl) (fun _ _ _ h => h) (Or.inl ⟨by rfl, (by intro w2 hSw; obtain ⟨s0, s1, s2, s3, s4, s5, s6, s7, s8⟩ := unhide HCE w2 hSw; go_simp)⟩) (unhide HS5) ?_
          go_simp
          refine wpAnyH_done (by kernel_rfl) ?_ _
          have HBZ : Hid (Below w0.heap.size w0 w5) := bl_past (bl_past (unhide HGB) (unhide HZB)) (unhide HS5)
          have HI5 := hide (InP.mv.bel (unhide HINP) (bl_past (unhide HZB) (unhide HS5)))
          have HO5 : Hid ((trn (l.take (k + 1))).2 = out ++ [inF f x]) := by unfold Hid; rw [unhide HNX]; exact stp_two (by rw [unhide hmo]; intro e; cases e; exact hsb rfl rfl)
          obtain ⟨s0, s1, s2, s3, s4, s5, s6, s7, s8⟩ := unhide HCE w5 (unhide HS5)
          have HLR : Hid (rs.length ≤ 1048576) := by rw [(unhide hS).len]; exact unhide HOLN
          have HRW : Hid (Ro (w5.alloc (.cells #[.int .i64 x.op, .int .i64 x.code, .int .i64 x.dst, .slice (some ⟨tb, tf, none⟩) 1 tc, .int .i64 x.n, .int .i64 x.pc, .int .i64 x.need, .slice va EL vc] 50)) 8 lv rs.length (flt enIn rs)) := by
            have := ((unhide hS).on (bl_past (unhide HBZ) (box1n w5 (.cells #[.int .i64 x.op, .int .i64 x.code, .int .i64 x.dst, .slice (some ⟨tb, tf, none⟩) 1 tc, .int .i64 x.n, .int .i64 x.pc, .int .i64 x.need, .slice va EL vc] 50)))).row
            rw [(unhide hS).len]
            exact this
          clear HCE HMV HCG
          go_wp2_with (first | (at_builtin; refine appIn rfl _ _ rfl _ rs rfl (unhide HRW) ⟨w5.heap.size, 0, none⟩ 1 ⟨x.op, x.code, x.dst, .slice (some ⟨tb, tf, none⟩) 1 tc, x.n, x.pc, x.need, .slice va EL vc⟩ rfl (new_cells _ _ _) rfl rfl (by have := unhide HLR; omega) ?_))
          intro v' w' hr hg hat
          have HG6 := hide ((unhide hS).push (bl_past (unhide HBZ) (box1n w5 _)) (InP.mv.bel (unhide HI5) (box1n w5 _)) hr (by rw [(unhide hS).len]) hg (by simpa using hat))
          clear hr hg hat s0 s1 s2 s3 s4 s5 s6 s7 s8
          go_wp2_with fail
          go_roundg (g0 - 1)
          case measure => have := unhide hk; omega
          case rel => exact ⟨k + 1, v', _, by have := unhide hk; unfold Hid; omega, rfl, by go_num, hide (by rw [unhide HO5]; exact unhide HG6)⟩
      have j0 : (0 : Int) ≤ (j : Int) := by omega
      have j1 : (j : Int) < (EL : Int) := by omega
      obtain ⟨s, hs⟩ : ∃ s, x.ex[j]? = some s := ⟨_, List.getElem?_eq_getElem (by rw [unhide hEL]; exact hlt2)⟩
      obtain ⟨r, hr⟩ : ∃ r, ss[j]? = some r := ⟨_, List.getElem?_eq_getElem (by rw [(unhide hC).len, hEl']; exact hlt2)⟩
      obtain ⟨e1, e2⟩ := (unhide HCP).fp j s r hs (by rw [← (unhide hC).old j (Nat.le_refl _)]; exact hr)
      have hrow : Ro wr 3 (.slice va EL vc) ss.length (flt enSh ss) := by rw [(unhide hC).len]; exact (unhide hC).row
      obtain ⟨g, off, cc, eg, _, _, hgl, hgc⟩ := (Rx.of_ro hrow).elem zSh hr
      obtain ⟨e5, e6⟩ : va = some ⟨g, off, none⟩ ∧ vc = cc := by cases eg; exact ⟨rfl, rfl⟩
      subst e5
      subst e6
      clear eg hgc hrow
      obtain ⟨gb, gf, cap, sa, sc, e, hgb, _, hop, hs1, hs2, hcl⟩ := (show ShsV D w x.ex (.slice ea EL ec) from (unhide HXX).2).at hs
      rw [unhide hEL] at e
      cases e
      obtain ⟨SL, hSL⟩ : ∃ z, Hid (s.sl.length = z) := ⟨_, hide rfl⟩
      rw [unhide hSL] at hcl hs1
      have hgP : w0.heap.size ≤ g ∧ g < P := unhide HVP g rfl
      have hw0 : w.heap.size ≤ w0.heap.size := (unhide hS).bl.size
      have HSS : Hid ((x.ex.map (shF f))[j]? = some (shF f s)) := by unfold Hid; rw [List.getElem?_map, hs]; rfl
      have HRR := hide hr
      have HSM := (unhide HXM).2.2 s (List.mem_of_getElem? hs)
      have HOP := hide hop
      have HCLL := hide hcl
      unfold maxLen at hs2
      clear hs hr hcl hop
      go_wp2_with fail
      clear c0 c1 c2 c3 c4 c5 c6
      obtain ⟨Z, hZ⟩ : ∃ W, Hid (wr.drew = W) := ⟨_, hide rfl⟩
      have HZB : Hid (Below wr.heap.size wr Z) := by rw [← unhide hZ]; exact bl_drew wr
      have HCE : Hid (∀ W, Fr (fun q => q = g) Z W → W.cell? ⟨P, 7, none⟩ = some (.slice (some ⟨g, off, none⟩) EL vc) ∧ W.cell? ⟨lb, lo + k * 8 + 7, none⟩ = some (.slice (some ⟨gb, gf, none⟩) EL ec) ∧ W.cell? ⟨gb, gf + j * 3 + 2, none⟩ = some (.slice sa SL sc)) := fun W hW => by
        have hb : Fr (fun q => q = g) wr W := (Fr.of_below (unhide HZB)).trans hW
        have hbw : Below w.heap.size w W := (unhide HBW).trans (hb.below (unhide HBW).size (fun b hb e => by have e' : b = g := e; omega))
        exact ⟨(hb.cell (a := ⟨P, 7, none⟩) pl (fun e => by have e' : P = g := e; omega)).trans c7, (unhide HL3 W hbw).2.1, (unhide HCLL W (hbw.block gb hgb)).2.2⟩
      have HCALL := hide (unhide HTR Z _ s.sl _ (bl_past (unhide hC).bl (unhide HZB)) (OpV.mv.bel (unhide HOP) (bl_past (unhide HBW) (unhide HZB))) HSM)
      rw [unhide hSL] at HCALL
      have HS0 : Hid (Fr (fun q => q = g) Z Z) := Fr.refl _ _
      refine wp_region_held_drew (S := fun W => Fr (fun q => q = g) Z W) (by kernel_rfl) (by rw [unhide hZ]; exact Fr.refl _ _) (fun hHeld => ?_)
      clear hHeld
      rw [unhide hZ]
      clear hZ c7
      refine wpAnyH_take (i := 0) (oi := _) (v := .pointer (some ⟨P, 7, none⟩)) rfl (by kernel_rfl) (by kernel_rfl) (by kernel_rfl) (fun _ _ _ h => h) (Or.inl ⟨by rfl, (by intro w2 hSw; obtain ⟨s7, s8, s9⟩ := unhide HCE w2 hSw; go_simp)⟩) (unhide HS0) ?_
      go_simp
      refine wpAnyH_take (i := 1) (oi := _) (v := .slice (some ⟨g, off, none⟩) EL vc) rfl (by kernel_rfl) (by kernel_rfl) (by kernel_rfl) (fun _ _ _ h => h) (Or.inl ⟨by rfl, (by intro w2 hSw; obtain ⟨s7, s8, s9⟩ := unhide HCE w2 hSw; go_simp)⟩) (unhide HS0) ?_
      go_simp
      refine wpAnyH_take (i := 2) (oi := _) (v := .int .i64 (j : Int)) rfl (by kernel_rfl) (by kernel_rfl) (by kernel_rfl) (fun _ _ _ h => h) (Or.inl ⟨by rfl, (by intro w2 hSw; obtain ⟨s7, s8, s9⟩ := unhide HCE w2 hSw; go_simp)⟩) (unhide HS0) ?_
      go_simp
      refine wpAnyH_take (i := 3) (oi := _) (v := lv) rfl (by kernel_rfl) (by kernel_rfl) (by kernel_rfl) (fun _ _ _ h => h) (Or.inl ⟨by rfl, (by intro w2 hSw; obtain ⟨s7, s8, s9⟩ := unhide HCE w2 hSw; go_simp)⟩) (unhide HS0) ?_
      go_simp
      refine wpAnyH_take (i := 4) (oi := _) (v := .slice (some ⟨lb, lo, none⟩) L c) rfl (by kernel_rfl) (by kernel_rfl) (by kernel_rfl) (fun _ _ _ h => h) (Or.inl ⟨by rfl, (by intro w2 hSw; obtain ⟨s7, s8, s9⟩ := unhide HCE w2 hSw; go_simp)⟩) (unhide HS0) ?_
      go_simp
      refine wpAnyH_take (i := 5) (oi := _) (v := .int .i64 (k : Int)) rfl (by kernel_rfl) (by kernel_rfl) (by kernel_rfl) (fun _ _ _ h => h) (Or.inl ⟨by rfl, (by intro w2 hSw; obtain ⟨s7, s8, s9⟩ := unhide HCE w2 hSw; go_simp)⟩) (unhide HS0) ?_
      go_simp
      refine wpAnyH_take (i := 6) (oi := _) (v := .pointer (some ⟨lb, lo + k * 8, none⟩)) rfl (by kernel_rfl) (by kernel_rfl) (by kernel_rfl) (fun _ _ _ h => h) (Or.inl ⟨by rfl, (by intro w2 hSw; obtain ⟨s7, s8, s9⟩ := unhide HCE w2 hSw; go_simp)⟩) (unhide HS0) ?_
      go_simp
      refine wpAnyH_take (i := 7) (oi := _) (v := .pointer (some ⟨lb, lo + k * 8 + 7, none⟩)) rfl (by kernel_rfl) (by kernel_rfl) (by kernel_rfl) (fun _ _ _ h => h) (Or.inl ⟨by rfl, (by intro w2 hSw; obtain ⟨s7, s8, s9⟩ := unhide HCE w2 hSw; go_simp)⟩) (unhide HS0) ?_
      go_simp
      refine wpAnyH_take (i := 8) (oi := _) (v := .slice (some ⟨gb, gf, none⟩) EL ec) rfl (by kernel_rfl) (by kernel_rfl) (by kernel_rfl) (fun _ _ _ h => h) (Or.inl ⟨by rfl, (by intro w2 hSw; obtain ⟨s7, s8, s9⟩ := unhide HCE w2 hSw; go_simp)⟩) (unhide HS0) ?_
      go_simp
      refine wpAnyH_take (i := 9) (oi := _) (v := .int .i64 (j : Int)) rfl (by kernel_rfl) (by kernel_rfl) (by kernel_rfl) (fun _ _ _ h => h) (Or.inl ⟨by rfl, (by intro w2 hSw; obtain ⟨s7, s8, s9⟩ := unhide HCE w2 hSw; go_simp)⟩) (unhide HS0) ?_
      go_simp
      refine wpAnyH_take (i := 10) (oi := _) (v := .pointer (some ⟨gb, gf + j * 3, none⟩)) rfl (by kernel_rfl) (by kernel_rfl) (by kernel_rfl) (fun _ _ _ h => h) (Or.inl ⟨by rfl, (by intro w2 hSw; obtain ⟨s7, s8, s9⟩ := unhide HCE w2 hSw; go_simp)⟩) (unhide HS0) ?_
      go_simp
      refine wpAnyH_take (i := 11) (oi := _) (v := .pointer (some ⟨gb, gf + j * 3 + 2, none⟩)) rfl (by kernel_rfl) (by kernel_rfl) (by kernel_rfl) (fun _ _ _ h => h) (Or.inl ⟨by rfl, (by intro w2 hSw; obtain ⟨s7, s8, s9⟩ := unhide HCE w2 hSw; go_simp)⟩) (unhide HS0) ?_
      go_simp
      refine wpAnyH_take (i := 12) (oi := _) (v := .slice sa SL sc) rfl (by kernel_rfl) (by kernel_rfl) (by kernel_rfl) (fun _ _ _ h => h) (Or.inl ⟨by rfl, (by intro w2 hSw; obtain ⟨s7, s8, s9⟩ := unhide HCE w2 hSw; go_simp)⟩) (unhide HS0) ?_
      go_simp
      refine wpAnyH_ready (rs := [13]) (by kernel_rfl) (by simp) ?_
      refine AllReadyH.cons (o := _) rfl (fun K hK => ?_) AllReadyH.nil
      go_simp
      refine (unhide HCALL).mono ?_
      rintro e w5 ⟨u5, rfl, hu5⟩
      obtain ⟨a5, c5, eu5, hu51, hu52⟩ := hu5.1.shape
      rw [List.length_map, unhide hSL] at eu5
      subst eu5
      have HST := hide (((unhide hC).on (unhide HZB)).step (unhide HSS) (unhide HRR) e1 e2 hu5 (g := g) (off := off) (cap := vc) (by rw [hEl']))
      have h5 := ((unhide hC).on (unhide HZB)).on hu5.2.1
      obtain ⟨b3, o3, c3, e3, _, _, hl3, hc3⟩ := (Rx.of_ro (show Ro w5 3 (.slice (some ⟨g, off, none⟩) EL vc) ss.length (flt enSh ss) by rw [h5.len]; exact h5.row)).elem zSh (unhide HRR)
      cases e3
      have q3 : w5.cell? ⟨g, off + j * 3 + 2, none⟩ = some r.v := hc3 2 _ rfl
      have g3 : w5.frozen? ⟨g, off + j * 3 + 2, none⟩ = false := h5.row.free (g := g) (off := off) (cap := vc) (by rw [hEl']) _
      have HS5 : Hid (Fr (fun q => q = g) Z w5) := Fr.of_below hu5.2.1
      have HS6 : Hid (Fr (fun q => q = g) Z (w5.setCell ⟨g, off + j * 3 + 2, none⟩ (.slice a5 SL c5))) := hide (Fr.setCell (S := fun q => q = g) (unhide HS5) ⟨g, off + j * 3 + 2, none⟩ (.inr rfl) _)
      have HF6 : Hid (Fr (fun q => q = g) wr (w5.setCell ⟨g, off + j * 3 + 2, none⟩ (.slice a5 SL c5))) := (Fr.of_below (unhide HZB)).trans (unhide HS6)
      have HBX6 := hide (((unhide HF6).block P pl (fun e => by have e' : P = g := e; omega)).trans (unhide hB))
      have HTA6 := hide ((unhide hA).fr (unhide HF6) (fun b hb e => by have := unhide HTP b hb; have e' : b = g := e; omega))
      clear hu5 h5 hc3 HCALL
      refine hK.out _ _ (unhide HS5) (fun _ => ?_)
      clear hK K
      go_simp
      refine wpAnyH_take (i := 14) (oi := _) (v := .pointer (some ⟨g, off + j * 3, none⟩)) rfl (by kernel_rfl) (by kernel_rfl) (by kernel_rfl) (fun _ _ _ h => h) (Or.inl ⟨by rfl, (by intro w2 hSw; obtain ⟨s7, s8, s9⟩ := unhide HCE w2 hSw; go_simp)⟩) (unhide HS5) ?_
      go_simp
      refine wpAnyH_take (i := 15) (oi := _) (v := .pointer (some ⟨g, off + j * 3 + 2, none⟩)) rfl (by kernel_rfl) (by kernel_rfl) (by kernel_rfl) (fun _ _ _ h => h) (Or.inl ⟨by rfl, (by intro w2 hSw; obtain ⟨s7, s8, s9⟩ := unhide HCE w2 hSw; go_simp)⟩) (unhide HS5) ?_
      go_simp
      refine wpAnyH_ready (rs := [16]) (by kernel_rfl) (by simp) ?_
      refine AllReadyH.cons (o := _) rfl (fun K hK => ?_) AllReadyH.nil
      go_simp
      refine hK.out _ _ (unhide HS6) (fun _ => ?_)
      clear hK K
      go_simp
      refine wpAnyH_done (by kernel_rfl) ?_ _
      clear HCE HS0 HS5 HS6 q3 g3
      go_wp2_with fail
      go_roundg (gk - 1)
      case measure => have := unhide hj; omega
      case rel => exact ⟨j + 1, _, by have := unhide hj; unfold Hid; omega, by go_num, HST, HBX6, HTA6⟩
end Go.Proofs.Ytpbdpejhjdoleaa
