/-
  VerifyMemory holds.
-/
import Derived.Test.YtbkfnmkfbdoadaaGreatDoorTMem3
namespace Go.Proofs.YtbkfnmkfbdoadaaGreatDoor
open Go.RowKit
set_option linter.unusedVariables false
set_option linter.unusedSimpArgs false

set_option maxRecDepth 100000 in
set_option maxHeartbeats 12800000 in
theorem verifyMemoryLaw {w : World} {v : Value} {p : Pg} (h : PgV w v p) (hN : p.funcs.length ≤ 1048576) (hC : p.consts.length ≤ 1048576) (hBD : ∀ (i : Nat) (f : Fc), p.funcs[i]? = some f → f.code.length ≤ 1048576 ∧ f.hs.length ≤ 1048576) (hok : OkP p) (hokr : ∀ (i : Nat) (f : Fc), p.funcs[i]? = some f → f.code.length ≤ 9000000000000 ∧ f.name.size ≤ 9223372036854775807 ∧ ∀ q ∈ f.code, I64 q.2) (hl : Laid w) :
    Calls Tryz.prog 4 #[v] w fun e w' => e = .returned (.bool true) ∧ Below w.heap.size w w' := by
  have gl : 0 < w.heap.size := World.block_lt_of_cell? _ _ hl
  have HPV := hide h
  obtain ⟨cv, fv, rfl, hc, hf⟩ := h
  obtain ⟨fa, cap, rfl, _, _, hat⟩ := hf.at
  obtain ⟨_, ca, ccap, rfl, _, _, _⟩ := hc
  clear hf hat
  obtain ⟨NC, hNC⟩ : ∃ L, Hid (p.consts.length = L) := ⟨_, rfl⟩
  obtain ⟨NF, hNF⟩ : ∃ L, Hid (p.funcs.length = L) := ⟨_, rfl⟩
  have H5 := hide (fun (wx : World) (q : Value) (hx : PgV wx q p) => tprogram_any hx (by omega) hokr)
  have H7 := hide (fun (wx : World) (q : Value) (hx : PgV wx q p) (hy : Laid wx) => program_anyA hx hok hy)
  have H11 := hide (fun (wx : World) (q : Value) (hx : PgV wx q p) => cpP_any hx (by omega) (by omega) (fun i f hf => ⟨by have := (hBD i f hf).1; omega, by have := (hBD i f hf).2; omega⟩))
  have H5b := hide (fun (wx : World) (q : Value) (hx : PgV wx q { p with funcs := wpL p.funcs p.funcs.length }) => tprogram_any hx (by show p.consts.length ≤ _; omega) (wiped_r hokr _))
  have H7b := hide (fun (wx : World) (q : Value) (hx : PgV wx q { p with funcs := wpL p.funcs p.funcs.length }) (hy : Laid wx) => program_anyA hx (hok.wiped _) hy)
  have H11b := hide (fun (wx : World) (q : Value) (hx : PgV wx q { p with funcs := wpL p.funcs p.funcs.length }) => cpP_any hx (by show (wpL p.funcs _).length ≤ _; rw [wpL_length]; omega) (by show p.consts.length ≤ _; omega) (wiped_b hBD _))
  have HN := hide hN
  have HBD := hide hBD
  have HLD := hide hl
  have HGL := hide gl
  rw [unhide hNC] at HPV ⊢
  rw [unhide hNF] at HPV H5b H7b H11b ⊢
  obtain ⟨X1, eX1⟩ : ∃ X1, X1 = w.alloc (.cells #[.slice ca NC ccap, .slice fa NF cap] 25) := ⟨_, rfl⟩
  have F1 : Hid (Below (w.heap.size + 1) (w.alloc (.cells #[.slice ca NC ccap, .slice fa NF cap] 25)) X1) := by unfold Hid; rw [eX1]; exact Below.refl _ _
  obtain ⟨p0, p1, hl1, hs1⟩ := box2 (unhide F1)
  have HL1 := hide hl1
  have HS1 := hide hs1
  clear hl1 hs1 p0 p1 hok hokr hN hC hl gl hBD
  go_enter Tryz.func4, Tryz.ntmps4
  go_wp2_with fail
  rw [← eX1]
  clear eX1
  refine (unhide H5 X1 _ ((unhide HPV).below (unhide HL1) (Nat.le_refl _))).mono ?_
  rintro e W2 ⟨fa1, L1, k1, a1, er1, rfl, hV1, hb2, hn1, hs1⟩
  obtain ⟨ha, hn, hc, ma, mn, mc, rfl, hF1⟩ := facts_of hn1 hs1
  have HV1 := hide hV1
  have HF1 := hide hF1
  have F2 : Hid (Below (w.heap.size + 1) (w.alloc (.cells #[.slice ca NC ccap, .slice fa NF cap] 25)) W2) := (unhide F1).trans (hb2.mono (unhide HS1))
  clear hV1 hb2 hn1 hs1 hF1
  obtain ⟨p0, p1, hl2, hs2⟩ := box2 (unhide F2)
  have HL2 := hide hl2
  clear hl2
  go_wp2_with fail
  obtain ⟨W3, eW3⟩ : ∃ W3, W3 = (W2.alloc (.cells #[.slice ha hn hc, .slice ma mn mc] 29)).alloc (.cells #[.int .i64 k1, .int .i64 a1] 31) := ⟨_, rfl⟩
  rw [← eW3]
  have F3 : Hid (Below (W2.heap.size + 2) ((W2.alloc (.cells #[.slice ha hn hc, .slice ma mn mc] 29)).alloc (.cells #[.int .i64 k1, .int .i64 a1] 31)) W3) := by unfold Hid; rw [eW3]; exact Below.refl _ _
  obtain ⟨w30, w31, _, _, hl23, hs3⟩ := boxes2 (unhide F3)
  have HL3 : Hid (Below w.heap.size w W3) := (unhide HL2).trans (hl23.mono (unhide HL2).size)
  have HW3 : Hid (W3.cell? ⟨W2.heap.size, 0, none⟩ = some (.slice ha hn hc) ∧ W3.cell? ⟨W2.heap.size, 1, none⟩ = some (.slice ma mn mc)) := ⟨w30, w31⟩
  have HF3 : Hid (FcW W3 (.slice ha hn hc) (.slice ma mn mc) (L1.getD [])) := (unhide HF1).fr (S := fun _ => False) (Fr.of_below hl23)
  have HS3 := hide hs3
  clear eW3 hl23 hs3 p0 p1 hs2 w30 w31 HF1
  refine (unhide H11 W3 _ ((unhide HPV).below (unhide HL3) (Nat.le_refl _))).mono ?_
  rintro e W4 ⟨cv, fv, xs, rfl, hop, hb4⟩
  obtain ⟨qc, qcc, rfl, _, _⟩ := hop.co.shape
  obtain ⟨qf, qfc, rfl, _, _⟩ := hop.fo.shape
  have hxl := hop.pt.xl
  rw [unhide hNC] at hop ⊢
  rw [hxl, unhide hNF] at hop ⊢
  have HXL : Hid (xs.length = NF) := hxl.trans (unhide hNF)
  obtain ⟨W5, hW5⟩ : ∃ x, Hid (x = W4.alloc (.cells #[.slice qc NC qcc, .slice qf NF qfc] 25)) := ⟨_, rfl⟩
  have hb45 : Below W4.heap.size W4 W5 := by rw [unhide hW5]; exact (Below.refl _ _).alloc (Nat.le_refl _) _
  obtain ⟨q0, q1, _, hq2⟩ := box2 (w := W4) (wr := W5) (u := .slice qc NC qcc) (v := .slice qf NF qfc) (e := 25) (by rw [unhide hW5]; exact Below.refl _ _)
  have HQ5 := hide (show W4.heap.size < W5.heap.size ∧ W5.cell? ⟨W4.heap.size, 0, none⟩ = some (.slice qc NC qcc) ∧ W5.cell? ⟨W4.heap.size, 1, none⟩ = some (.slice qf NF qfc) from ⟨hq2, q0, q1⟩)
  have HOP5 := hide (hop.keep hb45)
  have HIN : Hid (∀ b, inO (.slice qc NC qcc) (.slice qf NF qfc) xs b → W3.heap.size ≤ b ∧ b < W4.heap.size) := fun b hb => hop.ge hb
  have H35 : Hid (Below W3.heap.size W3 W5) := hb4.trans (hb45.mono hb4.size)
  have HL5 : Hid (Below w.heap.size w W5) := (unhide HL3).trans ((unhide H35).mono (unhide HL3).size)
  clear hop hb4 hb45 q0 q1 hq2 hxl
  go_wp2_with fail
  rw [← unhide hW5]
  clear hW5
  refine (unhide H7 W5 _ (unhide HOP5).pgv ((unhide HLD).blw (unhide HL5) (unhide HGL))).mono ?_
  rintro e W6 ⟨fa2, L2, k2, a2, er2, rfl, hV2, hb6, hn2, hs2⟩
  obtain ⟨h1a, h1n, h1c, m1a, m1n, m1c, vs1, rfl, hW1, hA1⟩ := facts_ofA hV2 hn2 hs2
  obtain ⟨rfl, rfl, rfl, rfl⟩ := (unhide HV1).uniq hV2
  obtain ⟨W7, eW7⟩ : ∃ W7, Hid (W7 = (W6.alloc (.cells #[.slice h1a h1n h1c, .slice m1a m1n m1c] 29)).alloc (.cells #[.int .i64 k1, .int .i64 a1] 31)) := ⟨_, rfl⟩
  obtain ⟨c70, c71, _, _, hl67, hs67⟩ := boxes2 (w := W6) (wr := W7) (u := .slice h1a h1n h1c) (v := .slice m1a m1n m1c) (x := .int .i64 k1) (y := .int .i64 a1) (e := 29) (f := 31) (by rw [unhide eW7]; exact Below.refl _ _)
  have HC7 := hide (show W7.cell? ⟨W6.heap.size, 0, none⟩ = some (.slice h1a h1n h1c) ∧ W7.cell? ⟨W6.heap.size, 1, none⟩ = some (.slice m1a m1n m1c) ∧ W6.heap.size + 2 ≤ W7.heap.size from ⟨c70, c71, hs67⟩)
  have H57 : Hid (Below W5.heap.size W5 W7) := hb6.trans (hl67.mono hb6.size)
  have HA1 := hide (hA1.keep hl67)
  have HU1 : Hid (∀ b, (bks (vs1 ++ [Value.slice m1a m1n m1c]) b ∨ (Value.slice h1a h1n h1c).ownBlock = some b) → b < W6.heap.size) := fun b hb => hb.elim (fun q => hA1.lt q) (fun q => hA1.hr.lt b q)
  have HFW1 := hide (hW1.fr (S := fun _ => False) (Fr.of_below hl67))
  have HS56 : Hid (W5.heap.size ≤ W6.heap.size) := hb6.size
  have HS67 : Hid (W6.heap.size + 2 ≤ W7.heap.size) := hs67
  have HV2 := hide hV2
  have q0 := Below.heldIn hb6 (unhide HQ5).1 (unhide HQ5).2.1
  have q1 := Below.heldIn hb6 (unhide HQ5).1 (unhide HQ5).2.2
  have lq : W4.heap.size < W6.heap.size := Nat.lt_of_lt_of_le (unhide HQ5).1 hb6.size
  clear c70 c71 hl67 hs67 hA1 hW1 hb6 hn2 hs2 hV2
  have d0 : (er1 == er1) = true := by simp
  go_wp2_with fail
  rw [← unhide eW7]
  clear eW7
  refine (unhide H7 W7 _ ((unhide HOP5).keep (unhide H57)).pgv ((unhide HLD).blw ((unhide HL5).trans ((unhide H57).mono (unhide HL5).size)) (unhide HGL))).mono ?_
  rintro e W8 ⟨fa3, L3, k3, a3, er3, rfl, hV3, hb8, hn3, hs3⟩
  obtain ⟨h2a, h2n, h2c, m2a, m2n, m2c, vs2, rfl, hW2, hA2⟩ := facts_ofA hV3 hn3 hs3
  obtain ⟨rfl, rfl, rfl, rfl⟩ := (unhide HV1).uniq hV3
  obtain ⟨W9, eW9⟩ : ∃ W9, Hid (W9 = (W8.alloc (.cells #[.slice h2a h2n h2c, .slice m2a m2n m2c] 29)).alloc (.cells #[.int .i64 k1, .int .i64 a1] 31)) := ⟨_, rfl⟩
  obtain ⟨c90, c91, _, _, hl89, hs89⟩ := boxes2 (w := W8) (wr := W9) (u := .slice h2a h2n h2c) (v := .slice m2a m2n m2c) (x := .int .i64 k1) (y := .int .i64 a1) (e := 29) (f := 31) (by rw [unhide eW9]; exact Below.refl _ _)
  have H79 : Hid (Below W7.heap.size W7 W9) := hb8.trans (hl89.mono hb8.size)
  have HA2 := hide (hA2.keep hl89)
  have HA1' := hide ((unhide HA1).keep (unhide H79))
  have HU2 : Hid (∀ b, (bks (vs2 ++ [Value.slice m2a m2n m2c]) b ∨ (Value.slice h2a h2n h2c).ownBlock = some b) → b < W8.heap.size) := fun b hb => hb.elim (fun q => hA2.lt q) (fun q => hA2.hr.lt b q)
  have HS78 : Hid (W7.heap.size ≤ W8.heap.size) := hb8.size
  have HS89 : Hid (W8.heap.size + 2 ≤ W9.heap.size) := hs89
  have H59 : Hid (Below W5.heap.size W5 W9) := (unhide H57).trans ((unhide H79).mono (unhide H57).size)
  have H39 : Hid (Below W3.heap.size W3 W9) := (unhide H35).trans ((unhide H59).mono (unhide H35).size)
  have HBX : Hid (W9.cell? ⟨W2.heap.size, 0, none⟩ = some (.slice ha hn hc) ∧ W9.cell? ⟨W2.heap.size, 1, none⟩ = some (.slice ma mn mc) ∧ W9.cell? ⟨W4.heap.size, 0, none⟩ = some (.slice qc NC qcc) ∧ W9.cell? ⟨W4.heap.size, 1, none⟩ = some (.slice qf NF qfc) ∧ W9.cell? ⟨W6.heap.size, 0, none⟩ = some (.slice h1a h1n h1c) ∧ W9.cell? ⟨W6.heap.size, 1, none⟩ = some (.slice m1a m1n m1c) ∧ W9.cell? ⟨W8.heap.size, 0, none⟩ = some (.slice h2a h2n h2c) ∧ W9.cell? ⟨W8.heap.size, 1, none⟩ = some (.slice m2a m2n m2c)) :=
    ⟨Below.heldIn (unhide H39) (World.block_lt_of_cell? _ _ (unhide HW3).1) (unhide HW3).1, Below.heldIn (unhide H39) (World.block_lt_of_cell? _ _ (unhide HW3).2) (unhide HW3).2, Below.heldIn (unhide H59) (unhide HQ5).1 (unhide HQ5).2.1, Below.heldIn (unhide H59) (unhide HQ5).1 (unhide HQ5).2.2, Below.heldIn (unhide H79) (World.block_lt_of_cell? _ _ (unhide HC7).1) (unhide HC7).1, Below.heldIn (unhide H79) (World.block_lt_of_cell? _ _ (unhide HC7).2.1) (unhide HC7).2.1, c90, c91⟩
  have HLL : Hid ((L1.getD []).length ≤ 1048576) := by
    unfold Hid
    rcases unhide HV1 with ⟨_, _, _, e, _⟩ | ⟨_, _, _, _, _, e, _⟩ | ⟨_, _, _, _, Ls, e, e2, _⟩
    · rw [e]; simp
    · rw [e]; simp
    · rw [e]; simp only [Option.getD_some]; rw [e2]; exact unhide HN
  have f9 : Fr (fun _ => False) W3 W9 := Fr.of_below (unhide H39)
  have HSF1 := hide (sameFacts_any (unhide HLL) ((unhide HFW1).fr (S := fun _ => False) (Fr.of_below (unhide H79))) ((unhide HF3).fr (S := fun _ => False) f9))
  have HSF2 := hide (fun (wx : World) (hx : Below W9.heap.size W9 wx) => sameFacts_any (w := wx) (unhide HLL) ((hW2.fr (S := fun _ => False) (Fr.of_below hl89)).fr (S := fun _ => False) (Fr.of_below hx)) (((unhide HF3).fr (S := fun _ => False) f9).fr (S := fun _ => False) (Fr.of_below hx)))
  clear c90 c91 hl89 hs89 hA2 hW2 hb8 hn3 hs3 hV3 q0 q1 lq f9
  go_wp2_with fail
  rw [← unhide eW9]
  clear eW9
  refine (num8_any W9 er1).mono ?_
  rintro e W9' ⟨rfl, e7⟩
  obtain rfl := e7.symm
  clear e7
  obtain ⟨x30, x31, _, _, x70, x71, _, _⟩ := unhide HBX
  go_wp2_with fail
  refine (unhide HSF1).mono ?_
  rintro e W10 ⟨rfl, hb10⟩
  have HB10 := hide hb10
  have y := unhide HBX
  obtain ⟨y30, y31, _, _, _, _, y100, y101⟩ := y
  have y30 := Below.heldIn hb10 (World.block_lt_of_cell? _ _ y30) y30
  have y31 := Below.heldIn hb10 (World.block_lt_of_cell? _ _ y31) y31
  have y100 := Below.heldIn hb10 (World.block_lt_of_cell? _ _ y100) y100
  have y101 := Below.heldIn hb10 (World.block_lt_of_cell? _ _ y101) y101
  have HSF2' := hide (unhide HSF2 W10 hb10)
  clear hb10 x30 x31 x70 x71
  go_wp2_with fail
  refine (unhide HSF2').mono ?_
  rintro e W11 ⟨rfl, hb11⟩
  have H911 : Hid (Below W9.heap.size W9 W11) := (unhide HB10).trans (hb11.mono (unhide HB10).size)
  have H511 : Hid (Below W5.heap.size W5 W11) := (unhide H59).trans ((unhide H911).mono (unhide H59).size)
  clear y30 y31 y100 y101 hb11 HSF1 HSF2 HSF2' HB10
  have HOP11 : Hid (OP W3.heap.size { p with funcs := wpL p.funcs 0 } xs (.slice qc NC qcc) (.slice qf NF qfc) W11) := by
    rw [Hid, wpL_zero]; exact (unhide HOP5).keep (unhide H511)
  have HQW : Hid (∀ wr, Fr (cdB xs) W11 wr → wr.cell? ⟨W4.heap.size, 0, none⟩ = some (.slice qc NC qcc) ∧ wr.cell? ⟨W4.heap.size, 1, none⟩ = some (.slice qf NF qfc)) := fun wr f => by
    obtain ⟨_, _, q0, q1, _⟩ := unhide HBX
    have hn : ¬ cdB xs W4.heap.size := fun q => by have := (unhide HIN _ q.inO).2; omega
    have q0 := Below.heldIn (unhide H911) (World.block_lt_of_cell? _ _ q0) q0
    have q1 := Below.heldIn (unhide H911) (World.block_lt_of_cell? _ _ q1) q1
    exact ⟨f.heldIn (World.block_lt_of_cell? _ _ q0) hn q0, f.heldIn (World.block_lt_of_cell? _ _ q1) hn q1⟩
  go_wp2_with fail
  go_loopg [13] NF (fun gg s wr => ∃ (k : Nat), Hid (k + gg = NF) ∧ s = .int .i64 (k : Int) ∧ Hid (OP W3.heap.size { p with funcs := wpL p.funcs k } xs (.slice qc NC qcc) (.slice qf NF qfc) wr) ∧ Hid (Fr (cdB xs) W11 wr))
  case atStart => exact ⟨0, by unfold Hid; omega, rfl, HOP11, Fr.refl _ _⟩
  case round =>
    obtain ⟨k, hk, rfl, hO, hF⟩ := hrel
    obtain ⟨q0, q1⟩ := unhide HQW wr (unhide hF)
    by_cases hlt : k < NF
    · have hNFb : NF ≤ 1048576 := by rw [← unhide hNF]; exact unhide HN
      have Hkl : Hid (k < p.funcs.length) := by rw [Hid, unhide hNF]; exact hlt
      have Hkw : Hid (k < (wpL p.funcs k).length) := by rw [Hid, wpL_length]; exact unhide Hkl
      obtain ⟨f, hf⟩ : ∃ f, Hid (p.funcs[k]? = some f) := ⟨_, hide (List.getElem?_eq_getElem (unhide Hkl))⟩
      obtain ⟨x, hx⟩ : ∃ x, Hid (xs[k]? = some x) := ⟨_, hide (List.getElem?_eq_getElem (by rw [unhide HXL]; exact hlt))⟩
      obtain ⟨g, off, gcap, e, hgl, hcx⟩ := (unhide hO).codeAt (unhide hx)
      rw [unhide HXL] at e
      simp only [Value.slice.injEq] at e
      obtain ⟨e1, -, e2⟩ := e
      subst e1
      subst e2
      obtain ⟨n, hn⟩ : ∃ n, Hid (f.code.length = n) := ⟨_, rfl⟩
      have hnb : n ≤ 1048576 := by rw [← unhide hn]; exact (unhide HBD k f (unhide hf)).1
      have hFn := (unhide hO).pt.rows k f x (wpL_at (unhide hf)) (unhide hx)
      obtain ⟨xa, xc, ecv, _, _⟩ := hFn.2.2.2.1.shape
      rw [unhide hn] at ecv
      rw [ecv] at hcx
      have HCV := hide ecv
      have HOc := hide ((unhide hO).opc (unhide hf))
      have i1 : (0 : Int) ≤ (k : Int) := by omega
      have i2 : (k : Int) < (NF : Int) := by omega
      obtain ⟨G, hG⟩ : ∃ G, Hid (G = gk) := ⟨gk, rfl⟩
      clear hFn ecv
      go_wp2_with fail
      clear hcx q0 q1
      go_loopg [15] n (fun gg s wr => ∃ (i : Nat), Hid (i + gg = n) ∧ s = .int .i64 (i : Int) ∧ Hid (OPc W3.heap.size p (wpL p.funcs k) k f (wip f.code i) xs (.slice qc NC qcc) (.slice (some ⟨g, off, none⟩) NF qfc) wr) ∧ Hid (Fr (cdB xs) W11 wr))
      case atStart => exact ⟨0, by unfold Hid; omega, rfl, HOc, hF⟩
      case round =>
        obtain ⟨i, hi, rfl, hOi, hFi⟩ := hrel
        have Hwl : Hid ((wip f.code i).length = n) := by rw [Hid, wip_length (by rw [unhide hn]; have := unhide hi; omega)]; exact unhide hn
        by_cases hin : i < n
        · obtain ⟨cg, co, cc, a0, b0, e, hcl, hq, c0, c1, hfz⟩ := (unhide hOi).at (unhide hx) (unhide Hkw) (n := i) (by rw [unhide Hwl]; exact hin)
          have hst := (unhide hOi).set (unhide hx) (unhide Hkw) 0 0 hq e
          rw [wip_set (by rw [unhide hn]; exact hin)] at hst
          have HST := hide hst
          have HFS := hide (cd_set (unhide hFi) (unhide hx) e i (.int .i64 0) (.int .i64 0))
          rw [unhide HCV] at e
          simp only [Value.slice.injEq] at e
          obtain ⟨e1, -, e2⟩ := e
          subst e1
          subst e2
          have f0 := hfz (co + i * 2)
          have f1 := hfz (co + i * 2 + 1)
          have j1 : (0 : Int) ≤ (i : Int) := by omega
          have j2 : (i : Int) < (n : Int) := by omega
          clear hst hq hfz
          go_wp2_with fail
          go_roundg (gk - 1)
          case measure => have := unhide hi; omega
          case rel => exact ⟨i + 1, by have := unhide hi; unfold Hid; omega, by go_num, HST, HFS⟩
        · have hin' : n = i := by have := unhide hi; omega
          subst hin'
          by_cases h1 : 1 < n
          · obtain ⟨m, hm⟩ : ∃ m, Hid (n = m + 2) := ⟨n - 2, by unfold Hid; omega⟩
            obtain ⟨m1, hm1⟩ : ∃ m1, Hid (m1 = m + 1) := ⟨_, rfl⟩
            obtain ⟨cg, co, cc, a0, b0, e, hcl, hq, c0, c1, hfz⟩ := (unhide hOi).at (unhide hx) (unhide Hkw) (n := m) (by rw [unhide Hwl]; have := unhide hm; omega)
            have hst := (unhide hOi).set (unhide hx) (unhide Hkw) 1 0 hq e
            have HFS := hide (cd_set (unhide hFi) (unhide hx) e m (.int .i64 1) (.int .i64 0))
            have ecv := e
            obtain ⟨cg', co', cc', a1, b1, e', hcl', hq', c0', c1', hfz'⟩ := hst.at (unhide hx) (unhide Hkw) (n := m1) (by rw [List.length_set, unhide Hwl]; have := unhide hm; have := unhide hm1; omega)
            rw [ecv] at e'
            simp only [Value.slice.injEq, Option.some.injEq, Addr.mk.injEq] at e'
            obtain ⟨⟨rfl, rfl, -⟩, -, rfl⟩ := e'
            have hst2 := hst.set (unhide hx) (unhide Hkw) 45 0 hq' ecv
            have HFD := hide (cd_set (unhide HFS) (unhide hx) ecv m1 (.int .i64 45) (.int .i64 0))
            have hw : ((wip f.code n).set m (1, 0)).set m1 (45, 0) = wipe f.code := by
              have h0 := unhide hn
              rw [unhide hm1, ← h0]
              exact wipe_long (by rw [h0]; exact unhide hm)
            rw [hw] at hst2
            have HD := hide (hst2.done (unhide hf))
            rw [unhide HCV] at e
            simp only [Value.slice.injEq] at e
            obtain ⟨e1, -, e2⟩ := e
            subst e1
            subst e2
            have f0 := hfz (co + m * 2)
            have f1 := hfz (co + m * 2 + 1)
            have f2 := hfz' (co + m1 * 2)
            have f3 := hfz' (co + m1 * 2 + 1)
            have s1 : (1 : Int) < (n : Int) := by omega
            have s2 : (n : Int) - 2 = (m : Int) := by have := unhide hm; omega
            have s3 : (n : Int) - 1 = (m1 : Int) := by have := unhide hm; have := unhide hm1; omega
            have s4 : (0 : Int) ≤ (m : Int) := by omega
            have s5 : (m : Int) < (n : Int) := by omega
            have s6 : (0 : Int) ≤ (m1 : Int) := by omega
            have s7 : (m1 : Int) < (n : Int) := by omega
            clear hst hq hfz ecv hq' hfz' hst2 hw HFS
            go_wp2_with fail
            go_roundg (G - 1)
            case measure => have := unhide hk; have := unhide hG; have := unhide Hkl; have := unhide hNF; omega
            case rel => exact ⟨k + 1, by have := unhide hk; have := unhide hG; have := unhide Hkl; have := unhide hNF; unfold Hid; omega, by go_num, HD, HFD⟩
          · have s1 : ¬ (1 : Int) < (n : Int) := by omega
            have HD : Hid (OP W3.heap.size { p with funcs := wpL p.funcs (k + 1) } xs (.slice qc NC qcc) (.slice (some ⟨g, off, none⟩) NF qfc) wr) := by
              have h0 := unhide hOi
              rw [show wip f.code n = wipe f.code by rw [← wipe_short (by rw [unhide hn]; omega), unhide hn]] at h0
              exact h0.done (unhide hf)
            go_wp2_with fail
            go_roundg (G - 1)
            case measure => have := unhide hk; have := unhide hG; have := unhide Hkl; have := unhide hNF; omega
            case rel => exact ⟨k + 1, by have := unhide hk; have := unhide hG; have := unhide Hkl; have := unhide hNF; unfold Hid; omega, by go_num, HD, hFi⟩
    · have hkN : NF = k := by have := unhide hk; omega
      subst hkN
      have HLr : Hid (Below w.heap.size w wr) := by
        have b1 : Below w.heap.size w W11 := (unhide HL5).trans ((unhide H511).mono (unhide HL5).size)
        refine b1.trans ((unhide hF).below b1.size (fun b hb q => ?_))
        have := (unhide HIN b q.inO).1
        have := (unhide HL3).size
        omega
      have HA1r : Hid (FA W5.heap.size wr (.slice h1a h1n h1c) (.slice m1a m1n m1c) h1n vs1) := ((unhide HA1').keep (unhide H911)).fr (unhide hF) (fun b hb _ q => by have := (unhide HIN b q.inO).2; have := (unhide HQ5).1; omega)
      have HA2r : Hid (FA W7.heap.size wr (.slice h2a h2n h2c) (.slice m2a m2n m2c) h2n vs2) := ((unhide HA2).keep (unhide H911)).fr (unhide hF) (fun b hb _ q => by have := (unhide HIN b q.inO).2; have := (unhide HQ5).1; have := (unhide H57).size; omega)
      have HBr : Hid (wr.cell? ⟨W6.heap.size, 0, none⟩ = some (.slice h1a h1n h1c) ∧ wr.cell? ⟨W6.heap.size, 1, none⟩ = some (.slice m1a m1n m1c) ∧ wr.cell? ⟨W8.heap.size, 0, none⟩ = some (.slice h2a h2n h2c) ∧ wr.cell? ⟨W8.heap.size, 1, none⟩ = some (.slice m2a m2n m2c)) := by
        obtain ⟨_, _, _, _, z1, z2, z3, z4⟩ := unhide HBX
        have g : ∀ {b o : Nat} {v : Value}, W4.heap.size ≤ b → W9.cell? ⟨b, o, none⟩ = some v → wr.cell? ⟨b, o, none⟩ = some v := fun {b o v} hb hc => by
          have hc := Below.heldIn (unhide H911) (World.block_lt_of_cell? _ _ hc) hc
          exact (unhide hF).heldIn (World.block_lt_of_cell? _ _ hc) (fun q => by have := (unhide HIN b q.inO).2; omega) hc
        have s1 := (unhide HQ5).1
        have s2 := unhide HS56
        have s3 := (unhide H57).size
        have s4 := unhide HS78
        exact ⟨g (by omega) z1, g (by omega) z2, g (by omega) z3, g (by omega) z4⟩
      have HSr : Hid (W9.heap.size ≤ wr.heap.size) := Nat.le_trans (unhide H911).size (unhide hF).size
      clear HOP11 HA1 HA1' HA2 HF3 HFW1 HW3 HC7 HBX HV1 HV2 HLL
      go_wp2_with fail
      refine (unhide H11b wr _ (unhide hO).pgv).mono ?_
      rintro e W13 ⟨cv2, fv2, ys, rfl, hop2, hb13⟩
      have HP13 := hide hop2.pgv
      have HB13 := hide hb13
      obtain ⟨ic, icc, rfl, _, _⟩ := hop2.co.shape
      obtain ⟨jc, jcc, rfl, _, _⟩ := hop2.fo.shape
      clear hop2 hb13
      go_wp2_with fail
      refine (unhide H5b W13 _ (unhide HP13)).mono ?_
      rintro e W14 ⟨fa4, L4, k4, a4, er4, rfl, hV4, hb14, hn4, hs4⟩
      obtain ⟨nha, nhn, nhc, nma, nmn, nmc, rfl, hF4⟩ := facts_of hn4 hs4
      have HV4 := hide hV4
      have HB14 : Hid (Below wr.heap.size wr W14) := (unhide HB13).trans (hb14.mono (unhide HB13).size)
      obtain ⟨W15, eW15⟩ : ∃ W15, Hid (W15 = (W14.alloc (.cells #[.slice nha nhn nhc, .slice nma nmn nmc] 29)).alloc (.cells #[.int .i64 k4, .int .i64 a4] 31)) := ⟨_, rfl⟩
      obtain ⟨c0, c1, c2, c3, hl15, hs15⟩ := boxes2 (w := W14) (wr := W15) (u := .slice nha nhn nhc) (v := .slice nma nmn nmc) (x := .int .i64 k4) (y := .int .i64 a4) (e := 29) (f := 31) (by rw [unhide eW15]; exact Below.refl _ _)
      have HC15 := hide (show W15.cell? ⟨W14.heap.size, 0, none⟩ = some (.slice nha nhn nhc) ∧ W15.cell? ⟨W14.heap.size, 1, none⟩ = some (.slice nma nmn nmc) ∧ W15.cell? ⟨W14.heap.size + 1, 0, none⟩ = some (.int .i64 k4) ∧ W15.cell? ⟨W14.heap.size + 1, 1, none⟩ = some (.int .i64 a4) from ⟨c0, c1, c2, c3⟩)
      have HB15 : Hid (Below wr.heap.size wr W15) := (unhide HB14).trans (hl15.mono (unhide HB14).size)
      have HF15 := hide (hF4.fr (S := fun _ => False) (Fr.of_below hl15))
      have HL15 : Hid (Below w.heap.size w W15) := (unhide HLr).trans ((unhide HB15).mono (unhide HLr).size)
      have lq : W4.heap.size < wr.heap.size := World.block_lt_of_cell? _ _ q0
      have q0 := Below.heldIn (unhide HB14) lq q0
      have q1 := Below.heldIn (unhide HB14) lq q1
      have lq := Nat.lt_of_lt_of_le lq (unhide HB14).size
      clear c0 c1 c2 c3 hl15 hs15 hV4 hb14 hn4 hs4 hF4
      go_wp2_with fail
      rw [← unhide eW15]
      clear eW15
      refine (unhide H7b W15 _ ((unhide hO).keep (unhide HB15)).pgv ((unhide HLD).blw (unhide HL15) (unhide HGL))).mono ?_
      rintro e W16 ⟨fa5, L5, k5, a5, er5, rfl, hV5, hb16, hn5, hs5⟩
      obtain ⟨h3a, h3n, h3c, m3a, m3n, m3c, vs3, rfl, hW3, hA3⟩ := facts_ofA hV5 hn5 hs5
      obtain ⟨rfl, rfl, rfl, rfl⟩ := (unhide HV4).uniq hV5
      obtain ⟨W17, eW17⟩ : ∃ W17, Hid (W17 = (W16.alloc (.cells #[.slice h3a h3n h3c, .slice m3a m3n m3c] 29)).alloc (.cells #[.int .i64 k4, .int .i64 a4] 31)) := ⟨_, rfl⟩
      obtain ⟨c0, c1, c2, c3, hl17, hs17⟩ := boxes2 (w := W16) (wr := W17) (u := .slice h3a h3n h3c) (v := .slice m3a m3n m3c) (x := .int .i64 k4) (y := .int .i64 a4) (e := 29) (f := 31) (by rw [unhide eW17]; exact Below.refl _ _)
      have H1517 : Hid (Below W15.heap.size W15 W17) := hb16.trans (hl17.mono hb16.size)
      have HA3 := hide (hA3.keep hl17)
      have HLL4 : Hid ((L4.getD []).length ≤ 1048576) := by
        unfold Hid
        rcases hV5 with ⟨_, _, _, e, _⟩ | ⟨_, _, _, _, _, e, _⟩ | ⟨_, _, _, _, Ls, e, e2, _⟩
        · rw [e]; simp
        · rw [e]; simp
        · rw [e]; simp only [Option.getD_some]; rw [e2]; show (wpL p.funcs _).length ≤ _; rw [wpL_length]; exact unhide HN
      have HSF := hide (sameFacts_any (w := W17) (unhide HLL4) (hW3.fr (S := fun _ => False) (Fr.of_below hl17)) ((unhide HF15).fr (S := fun _ => False) (Fr.of_below (unhide H1517))))
      have HC17 := hide (show W17.cell? ⟨W16.heap.size, 0, none⟩ = some (.slice h3a h3n h3c) ∧ W17.cell? ⟨W16.heap.size, 1, none⟩ = some (.slice m3a m3n m3c) from ⟨c0, c1⟩)
      have HB17 : Hid (Below wr.heap.size wr W17) := (unhide HB15).trans ((unhide H1517).mono (unhide HB15).size)
      have HS17 : Hid (W15.heap.size ≤ W16.heap.size ∧ W16.heap.size + 2 ≤ W17.heap.size) := ⟨hb16.size, hs17⟩
      obtain ⟨n0, n1, n2, n3⟩ := unhide HC15
      have n0 := Below.heldIn (unhide H1517) (World.block_lt_of_cell? _ _ n0) n0
      have n1 := Below.heldIn (unhide H1517) (World.block_lt_of_cell? _ _ n1) n1
      have n2 := Below.heldIn (unhide H1517) (World.block_lt_of_cell? _ _ n2) n2
      have n3 := Below.heldIn (unhide H1517) (World.block_lt_of_cell? _ _ n3) n3
      have d0 : (er4 == er4) = true := by simp
      have d1 : (k4 == k4) = true := by simp
      have d2 : (a4 == a4) = true := by simp
      clear hl17 hs17 hA3 hW3 hb16 hn5 hs5 hV5 q0 q1 lq HF15 HC15
      go_wp2_with fail
      rw [← unhide eW17]
      clear eW17
      refine (num8_any W17 er4).mono ?_
      rintro e W17' ⟨rfl, e7⟩
      obtain rfl := e7.symm
      clear e7
      go_wp2_with fail
      refine (unhide HSF).mono ?_
      rintro e W18 ⟨rfl, hb18⟩
      have HB18 : Hid (Below wr.heap.size wr W18) := (unhide HB17).trans (hb18.mono (unhide HB17).size)
      have HA1s := hide ((unhide HA1r).keep (unhide HB18))
      have HA2s := hide ((unhide HA2r).keep (unhide HB18))
      have HA3s := hide ((unhide HA3).keep hb18)
      have HBs : Hid (W18.cell? ⟨W6.heap.size, 0, none⟩ = some (.slice h1a h1n h1c) ∧ W18.cell? ⟨W6.heap.size, 1, none⟩ = some (.slice m1a m1n m1c) ∧ W18.cell? ⟨W8.heap.size, 0, none⟩ = some (.slice h2a h2n h2c) ∧ W18.cell? ⟨W8.heap.size, 1, none⟩ = some (.slice m2a m2n m2c) ∧ W18.cell? ⟨W16.heap.size, 0, none⟩ = some (.slice h3a h3n h3c) ∧ W18.cell? ⟨W16.heap.size, 1, none⟩ = some (.slice m3a m3n m3c)) := by
        obtain ⟨z1, z2, z3, z4⟩ := unhide HBr
        obtain ⟨z5, z6⟩ := unhide HC17
        have g : ∀ {b o : Nat} {v : Value}, wr.cell? ⟨b, o, none⟩ = some v → W18.cell? ⟨b, o, none⟩ = some v := fun {b o v} hc => Below.heldIn (unhide HB18) (World.block_lt_of_cell? _ _ hc) hc
        exact ⟨g z1, g z2, g z3, g z4, Below.heldIn hb18 (World.block_lt_of_cell? _ _ z5) z5, Below.heldIn hb18 (World.block_lt_of_cell? _ _ z6) z6⟩
      have HS18 : Hid (W17.heap.size ≤ W18.heap.size) := hb18.size
      clear hb18 c0 c1 c2 c3 n0 n1 n2 n3 d0 d1 d2 HSF HA3 HA1r HA2r HBr HC17 HB17
      have HG0 := hide (AL.nil W18)
      obtain ⟨z1, z2, -, -, -, -⟩ := unhide HBs
      go_wp2_with fail
      refine (rows_any (w := W18) (hv := .slice h1a h1n h1c) (ma := m1a) (mn := m1n) (mc := m1c) (vs := vs1) (Rx.of_ro (by rw [(unhide HA1s).len]; exact (unhide HA1s).hr)) (fun i u hi => (unhide HA1s).slices hi) (by rw [(unhide HA1s).len]; have := (unhide HA1s).n1; omega)).mono ?_
      rintro e W19 ⟨u1, rfl, hG1⟩
      have HG1 := hide hG1
      have HU := hide hG1.al
      have HO1 := hide (unhide HA1s).ones
      have Hn1 : Hid ((vs1 ++ [Value.slice m1a m1n m1c]).length ≤ 129 ∧ 0 < (vs1 ++ [Value.slice m1a m1n m1c]).length) := by
        have h0 := (unhide HA1s).len; have h1 := (unhide HA1s).n1
        rw [Hid, List.length_append, List.length_singleton]; omega
      clear hG1 z1 z2
      go_wp2_with (first | (at_builtin; refine wpList_appLs rfl _ _ rfl (.slice none 0 0) u1 0 (vs1 ++ [Value.slice m1a m1n m1c]).length [] (vs1 ++ [Value.slice m1a m1n m1c]) rfl (Ro.nil _ _) rfl (unhide HU) (unhide HO1) (unhide Hn1).2 (by have := unhide Hn1; omega) ?_; intro al1 W20 hr hg hat; have HAL1 := hide ((unhide HG0).push (unhide HG1) hr hg hat); clear hr hg hat; obtain ⟨-, -, z3, z4, -, -⟩ := unhide HBs; have z3 := Below.heldIn (unhide HAL1).2.1 (World.block_lt_of_cell? _ _ z3) z3; have z4 := Below.heldIn (unhide HAL1).2.1 (World.block_lt_of_cell? _ _ z4) z4))
      have HA2t := hide ((unhide HA2s).keep (unhide HAL1).2.1)
      clear HU HG1 HG0
      refine (rows_any (w := W20) (hv := .slice h2a h2n h2c) (ma := m2a) (mn := m2n) (mc := m2c) (vs := vs2) (Rx.of_ro (by rw [(unhide HA2t).len]; exact (unhide HA2t).hr)) (fun i u hi => (unhide HA2t).slices hi) (by rw [(unhide HA2t).len]; have := (unhide HA2t).n1; omega)).mono ?_
      rintro e W21 ⟨u2, rfl, hG2⟩
      have HG2 := hide hG2
      have HU := hide hG2.al
      have HO2 := hide (unhide HA2t).ones
      have Hn2 : Hid ((vs2 ++ [Value.slice m2a m2n m2c]).length ≤ 129 ∧ 0 < (vs2 ++ [Value.slice m2a m2n m2c]).length) := by
        have h0 := (unhide HA2t).len; have h1 := (unhide HA2t).n1
        rw [Hid, List.length_append, List.length_singleton]; omega
      have HR1 : Hid (Ro W21 1 al1 ([] ++ (vs1 ++ [Value.slice m1a m1n m1c])).length ([] ++ (vs1 ++ [Value.slice m1a m1n m1c]))) := (unhide HAL1).1.fr (S := fun _ => False) (Fr.of_below hG2.2.1) (fun _ _ e => e)
      clear hG2 z3 z4
      go_wp2_with (first | (at_builtin; refine wpList_appLs rfl _ _ rfl al1 u2 ([] ++ (vs1 ++ [Value.slice m1a m1n m1c])).length (vs2 ++ [Value.slice m2a m2n m2c]).length ([] ++ (vs1 ++ [Value.slice m1a m1n m1c])) (vs2 ++ [Value.slice m2a m2n m2c]) rfl (unhide HR1) rfl (unhide HU) (unhide HO2) (unhide Hn2).2 (by rw [List.nil_append]; have := unhide Hn1; have := unhide Hn2; omega) ?_; intro al2 W22 hr hg hat; have HAL2 := hide ((unhide HAL1).push (unhide HG2) hr hg hat); clear hr hg hat; obtain ⟨-, -, -, -, z5, z6⟩ := unhide HBs; have z5 := Below.heldIn (unhide HAL2).2.1 (World.block_lt_of_cell? _ _ z5) z5; have z6 := Below.heldIn (unhide HAL2).2.1 (World.block_lt_of_cell? _ _ z6) z6))
      have HA3t := hide ((unhide HA3s).keep (unhide HAL2).2.1)
      clear HU HG2 HR1 HAL1
      refine (rows_any (w := W22) (hv := .slice h3a h3n h3c) (ma := m3a) (mn := m3n) (mc := m3c) (vs := vs3) (Rx.of_ro (by rw [(unhide HA3t).len]; exact (unhide HA3t).hr)) (fun i u hi => (unhide HA3t).slices hi) (by rw [(unhide HA3t).len]; have := (unhide HA3t).n1; omega)).mono ?_
      rintro e W23 ⟨u3, rfl, hG3⟩
      have HG3 := hide hG3
      have HU := hide hG3.al
      have HO3 := hide (unhide HA3t).ones
      have Hn3 : Hid ((vs3 ++ [Value.slice m3a m3n m3c]).length ≤ 129 ∧ 0 < (vs3 ++ [Value.slice m3a m3n m3c]).length) := by
        have h0 := (unhide HA3t).len; have h1 := (unhide HA3t).n1
        rw [Hid, List.length_append, List.length_singleton]; omega
      have HR2 : Hid (Ro W23 1 al2 ([] ++ (vs1 ++ [Value.slice m1a m1n m1c]) ++ (vs2 ++ [Value.slice m2a m2n m2c])).length ([] ++ (vs1 ++ [Value.slice m1a m1n m1c]) ++ (vs2 ++ [Value.slice m2a m2n m2c]))) := (unhide HAL2).1.fr (S := fun _ => False) (Fr.of_below hG3.2.1) (fun _ _ e => e)
      clear hG3 z5 z6
      go_wp2_with (first | (at_builtin; refine wpList_appLs rfl _ _ rfl al2 u3 ([] ++ (vs1 ++ [Value.slice m1a m1n m1c]) ++ (vs2 ++ [Value.slice m2a m2n m2c])).length (vs3 ++ [Value.slice m3a m3n m3c]).length ([] ++ (vs1 ++ [Value.slice m1a m1n m1c]) ++ (vs2 ++ [Value.slice m2a m2n m2c])) (vs3 ++ [Value.slice m3a m3n m3c]) rfl (unhide HR2) rfl (unhide HU) (unhide HO3) (unhide Hn3).2 (by rw [List.nil_append, List.length_append]; have := unhide Hn1; have := unhide Hn2; have := unhide Hn3; omega) ?_; intro al3 W24 hr hg hat))
      have hAL3 := (unhide HAL2).push (unhide HG3) hr hg hat
      rw [List.nil_append] at hAL3
      have HAL3 : Hid (AL W18 (all3 vs1 vs2 vs3 (.slice m1a m1n m1c) (.slice m2a m2n m2c) (.slice m3a m3n m3c)) al3 W24) := hAL3
      clear hr hg hat HU HG3 HR2 HAL2 hAL3
      have B24 := (unhide HAL3).2.1
      have HA1u := hide ((unhide HA1s).keep B24)
      have HA2u := hide ((unhide HA2s).keep B24)
      have HA3u := hide ((unhide HA3s).keep B24)
      have o1 : ∀ b, (bks (vs1 ++ [Value.slice m1a m1n m1c]) b ∨ (Value.slice h1a h1n h1c).ownBlock = some b) → b < W6.heap.size := unhide HU1
      have o2 : ∀ b, (bks (vs2 ++ [Value.slice m2a m2n m2c]) b ∨ (Value.slice h2a h2n h2c).ownBlock = some b) → b < W8.heap.size := unhide HU2
      have s1 := unhide HS56
      have s2 : W6.heap.size + 2 ≤ W7.heap.size := unhide HS67
      have s3 := unhide HS78
      have s4 := unhide HS89
      have s5 := unhide HSr
      have s6 := (unhide HB15).size
      have s7 := (unhide HB18).size
      have HRs := hide (all3_rs (unhide HA1u) (unhide HA2u) (unhide HA3u) (fun b hb => by have := o1 b (.inl hb); omega) (fun b hb => by have := o2 b (.inl hb); omega) (by omega))
      have HLen := hide (all3_length (unhide HA1u) (unhide HA2u) (unhide HA3u))
      have HFar : Hid (∀ b, al3.ownBlock = some b → ¬ bk (all3 vs1 vs2 vs3 (.slice m1a m1n m1c) (.slice m2a m2n m2c) (.slice m3a m3n m3c)) b) := fun b hb q => by
        have h0 := (unhide HAL3).2.2 b hb
        rcases all3_bk.1 q with q | q | q
        · have := (unhide HA1s).lt q; omega
        · have := (unhide HA2s).lt q; omega
        · have := (unhide HA3s).lt q; omega
      have HNB : Hid (∀ b, W5.heap.size ≤ b → (b = W6.heap.size ∨ b = W8.heap.size ∨ (Value.slice h1a h1n h1c).ownBlock = some b ∨ (Value.slice h2a h2n h2c).ownBlock = some b) → ¬ bk (all3 vs1 vs2 vs3 (.slice m1a m1n m1c) (.slice m2a m2n m2c) (.slice m3a m3n m3c)) b) := fun b hb hc q => by
        rcases all3_bk.1 q with q | q | q
        · have a1 := o1 b (.inl q)
          rcases hc with c | c | c | c
          · omega
          · omega
          · exact ((unhide HA1u).hl b c).2 q
          · have := ((unhide HA2u).hl b c).1; omega
        · have a1 := (unhide HA2u).lo b q
          have a2 := o2 b (.inl q)
          rcases hc with c | c | c | c
          · omega
          · omega
          · have := o1 b (.inr c); omega
          · exact ((unhide HA2u).hl b c).2 q
        · have a1 := (unhide HA3u).lo b q
          rcases hc with c | c | c | c
          · omega
          · omega
          · have := o1 b (.inr c); omega
          · have := o2 b (.inr c); omega
      have HLo : Hid (∀ b, bk (all3 vs1 vs2 vs3 (.slice m1a m1n m1c) (.slice m2a m2n m2c) (.slice m3a m3n m3c)) b → W5.heap.size ≤ b) := fun b q => by
        rcases all3_bk.1 q with q | q | q
        · exact (unhide HA1u).lo b q
        · have := (unhide HA2u).lo b q; omega
        · have := (unhide HA3u).lo b q; omega
      have H12 : Hid (∀ b, (Value.slice h1a h1n h1c).ownBlock = some b → (Value.slice h2a h2n h2c).ownBlock ≠ some b) := fun b h1 h2 => by
        have := o1 b (.inr h1); have := ((unhide HA2u).hl b h2).1; omega
      have HSz : Hid (W5.heap.size ≤ W6.heap.size ∧ W5.heap.size ≤ W8.heap.size) := ⟨by omega, by omega⟩
      obtain ⟨z1, -, z3, -, -, -⟩ := unhide HBs
      have HZ24 := hide (And.intro (Below.heldIn B24 (World.block_lt_of_cell? _ _ z1) z1) (Below.heldIn B24 (World.block_lt_of_cell? _ _ z3) z3))
      have HL24 : Hid (Below w.heap.size w W24) := by
        have b1 : Below w.heap.size w W18 := (unhide HLr).trans ((unhide HB18).mono (unhide HLr).size)
        exact b1.trans (B24.mono b1.size)
      clear B24 o1 o2 s1 s2 s3 s4 s5 s6 s7 z1 z3
      refine (apartInts_any (Rx.of_ro (unhide HAL3).1) (unhide HFar) (unhide HRs).mk0 (unhide HRs).gc (unhide HLen) (unhide HRs).ns).mono ?_
      rintro e W25 ⟨rfl, hf25⟩
      have HF25 := hide hf25
      obtain ⟨z1, z3⟩ := unhide HZ24
      have z1 := hf25.heldIn (World.block_lt_of_cell? _ _ z1) (unhide HNB _ (unhide HSz).1 (.inl rfl)) z1
      have z3 := hf25.heldIn (World.block_lt_of_cell? _ _ z3) (unhide HNB _ (unhide HSz).2 (.inr (.inl rfl))) z3
      have HOut := hide (outer_any (w := W25) ((unhide HA1u).hr.fr hf25 (fun b hb => unhide HNB b ((unhide HA1u).hl b hb).1 (.inr (.inr (.inl hb))))) ((unhide HA2u).hr.fr hf25 (fun b hb => unhide HNB b (Nat.le_trans (unhide H57).size ((unhide HA2u).hl b hb).1) (.inr (.inr (.inr hb))))) (unhide H12) (by have := (unhide HA1u).n1; omega) (by have := (unhide HA2u).n1; omega))
      clear hf25
      go_wp2_with fail
      refine (unhide HOut).mono ?_
      rintro e W26 ⟨rfl, hf26⟩
      have HF26 := hide hf26
      clear hf26 z1 z3
      go_wp2_with fail
      go_ret
      refine ⟨rfl, ?_⟩
      have s0 := (unhide HL5).size
      have b1 : Below w.heap.size w W25 := (unhide HL24).trans ((unhide HF25).below (unhide HL24).size (fun b hb q => by have := unhide HLo b q; omega))
      refine b1.trans ((unhide HF26).below b1.size (fun b hb q => ?_))
      rcases q with q | q
      · have := ((unhide HA1u).hl b q).1; omega
      · have := ((unhide HA2u).hl b q).1; have := (unhide H57).size; omega
end Go.Proofs.YtbkfnmkfbdoadaaGreatDoor
