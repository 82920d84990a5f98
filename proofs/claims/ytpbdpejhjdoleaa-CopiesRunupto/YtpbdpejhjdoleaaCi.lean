/-
  The law's own copy of an instruction.
-/
import Derived.Test.YtpbdpejhjdoleaaCs
namespace Go.Proofs.Ytpbdpejhjdoleaa
open Go.RowKit
set_option linter.unusedVariables false
set_option linter.unusedSimpArgs false
/-- What CopyIns answers: shapes in a row of one's own. -/
structure CiP (w : World) (x : RIn) (u v : Value) (rs : List ShR) (w' : World) : Prop where
  a : ∃ a c, u = .slice a x.args.length c ∧ x.args.length ≤ c ∧ c ≤ maxLen
  g : Gx w 3 enSh rs v w'
  len : rs.length = x.ex.length
  fp : ∀ (j : Nat) (s : Sh) (r : ShR), x.ex[j]? = some s → rs[j]? = some r → r.fn = s.fn ∧ r.pc = s.pc
set_option maxRecDepth 100000 in
set_option maxHeartbeats 12800000 in
theorem copyIns_any {w : World} {D : Nat → Prop} {x : RIn} {q : InR} (h : InP D w x q) (hA : x.args.length ≤ 1073741824) (hE : x.ex.length ≤ 1073741824) (hS : ∀ s ∈ x.ex, s.sl.length ≤ 1073741824) :
    Calls Try.prog 34 #[inV q] w fun e w' => ∃ (u v : Value) (rs : List ShR), e = .returned (inV ⟨x.op, x.code, x.dst, u, x.n, x.pc, x.need, v⟩) ∧ CiP w x u v rs w' := by
  obtain ⟨rop, rcode, rdst, rav, rn, rpc, rneed, rev⟩ := q
  obtain ⟨h1, h2, h3, h4, h5, h6, h7, h8⟩ := h
  simp only at h1 h2 h3 h4 h5 h6 h7 h8
  have HC1 : Hid (∀ W, Below w.heap.size w W → Calls Try.prog 46 #[rav] W fun e w' => ∃ v, e = .returned v ∧ Gx W 2 enO x.args v w') := fun W hW => copyOpnds_any (OpV.mv.bel h7 hW) hA
  have HC2 : Hid (∀ W, Below w.heap.size w W → Calls Try.prog 47 #[rev] W fun e w' => ∃ (v : Value) (rs : List ShR), e = .returned v ∧ Gx W 3 enSh rs v w' ∧ rs.length = x.ex.length ∧ ∀ (j : Nat) (s : Sh) (r : ShR), x.ex[j]? = some s → rs[j]? = some r → r.fn = s.fn ∧ r.pc = s.pc) := fun W hW => copyShapes_any (ShsV.mv.bel h8 hW) hE hS
  obtain ⟨aa, ac, ea1, hva1, hva2⟩ := h7.1.shape
  obtain ⟨ea, ec, ee1, hve1, hve2⟩ := NV.shape h8
  subst ea1 ee1 h1 h2 h3 h4 h5 h6
  obtain ⟨AL, hAL⟩ : ∃ z, Hid (x.args.length = z) := ⟨_, hide rfl⟩
  obtain ⟨EL, hEL⟩ : ∃ z, Hid (x.ex.length = z) := ⟨_, hide rfl⟩
  unfold inV
  dsimp only
  rw [unhide hAL] at HC1 hva1 ⊢
  rw [unhide hEL] at HC2 hve1 ⊢
  unfold maxLen at hva2 hve2
  have B3 := BX.three w #[.int .i64 x.op, .int .i64 x.code, .int .i64 x.dst, .slice aa AL ac, .int .i64 x.n, .int .i64 x.pc, .int .i64 x.need, .slice ea EL ec] #[.int .i64 0, .int .i64 0, .int .i64 0, .slice none 0 0, .int .i64 0, .int .i64 0, .int .i64 0, .slice none 0 0] #[.int .i64 x.op, .int .i64 x.code, .int .i64 x.dst, .slice aa AL ac, .int .i64 x.n, .int .i64 x.pc, .int .i64 x.need, .slice ea EL ec] 50 50 50
  obtain ⟨Y, eY⟩ : ∃ Y, (((w.alloc (.cells #[.int .i64 x.op, .int .i64 x.code, .int .i64 x.dst, .slice aa AL ac, .int .i64 x.n, .int .i64 x.pc, .int .i64 x.need, .slice ea EL ec] 50)).alloc (.cells #[.int .i64 0, .int .i64 0, .int .i64 0, .slice none 0 0, .int .i64 0, .int .i64 0, .int .i64 0, .slice none 0 0] 50)).alloc (.cells #[.int .i64 x.op, .int .i64 x.code, .int .i64 x.dst, .slice aa AL ac, .int .i64 x.n, .int .i64 x.pc, .int .i64 x.need, .slice ea EL ec] 50)) = Y := ⟨_, rfl⟩
  rw [eY] at B3
  have HB := hide B3
  have c3 := B3.ce 0 rfl 3
  have cl := B3.lt (i := 0) rfl
  simp at c3 cl
  have HCA := hide (unhide HC1 Y B3.b)
  clear B3 HC1 h7 h8
  go_enter Try.func34, Try.ntmps34
  go_wp2_with fail
  refine (unhide HCA).mono ?_
  rintro e w2 ⟨u, rfl, hu⟩
  obtain ⟨ua, uc, eu, hu1, hu2⟩ := hu.1.shape
  subst eu
  have H2 := hide ((unhide HB).go hu.2.1)
  have HU : Hid (x.args.length ≤ uc ∧ uc ≤ maxLen) := ⟨hu1, hu2⟩
  rw [unhide hAL] at hu1 ⊢
  obtain ⟨P, hP⟩ : ∃ P, Hid (w.heap.size + 1 + 1 = P) := ⟨_, hide rfl⟩
  have hPP := unhide hP
  have HF : Hid (Fr (fun k => k = P) w2 (w2.setCell ⟨P, 3, none⟩ (.slice ua AL uc))) := hide (Fr.setCell (S := fun k => k = P) (Fr.refl _ w2) ⟨P, 3, none⟩ (.inr rfl) _)
  have HBOX := setCell_block (g := P) (o := 3) (by have := (unhide H2).h 2 _ rfl; rw [unhide hP] at this; exact this) (.slice ua AL uc)
  simp at HBOX
  have d7 := (unhide H2).ce 0 rfl 7
  have dl := (unhide H2).lt (i := 0) rfl
  have dp := (unhide H2).lt (i := 2) rfl
  have df := (blk_cells ((unhide H2).h 2 _ rfl)).2.1 3
  have d3 := (unhide H2).ce 2 rfl 3
  simp at d7 dl dp df d3
  rw [unhide hP] at dp df d3
  have HBE : Hid (Below w.heap.size w (w2.setCell ⟨P, 3, none⟩ (.slice ua AL uc))) := hide ((unhide H2).b.setCell (p := ⟨P, 3, none⟩) (by show w.heap.size ≤ P; omega) _)
  have HC2A := hide (unhide HC2 _ (unhide HBE))
  have HZ := hide ((unhide H2).h 1 _ rfl)
  rw [hPP]
  clear hu HCA HC2 eY c3 cl
  have HHB := hide HBOX
  have HF2 : Hid (∀ j v, (w2.setCell ⟨P, 3, none⟩ (.slice ua AL uc)).cell? ⟨w.heap.size, j, none⟩ = some v ↔ w2.cell? ⟨w.heap.size, j, none⟩ = some v) := fun j v => by
    rw [(unhide HF).cell (a := ⟨w.heap.size, j, none⟩) dl (fun q => by have q' : w.heap.size = P := q; omega)]
  clear HBOX
  go_wp2_with fail
  refine (unhide HC2A).mono ?_
  rintro e w4 ⟨v, rs, rfl, hv, hlen, hfp⟩
  obtain ⟨va, vc, ev, hv1, hv2⟩ := hv.1.shape
  rw [hlen] at ev
  subst ev
  have hb4 := hv.2.1
  have HB4 := (hb4.block P (by simpa using dp)).trans (unhide HHB)
  have HZ4 := (hb4.block (w.heap.size + 1) (by have := (unhide H2).lt (i := 1) rfl; simpa using this)).trans (((unhide HF).block (w.heap.size + 1) (by have := (unhide H2).lt (i := 1) rfl; simpa using this) (by omega)).trans (unhide HZ))
  obtain ⟨p1, p2, p3⟩ := blk_cells HB4
  obtain ⟨q1, q2, q3⟩ := blk_cells HZ4
  have y0 := p1 0
  have y1 := p1 1
  have y2 := p1 2
  have y3 := p1 3
  have y4 := p1 4
  have y5 := p1 5
  have y6 := p1 6
  have y7 := p1 7
  have f7 := p2 7
  have z0 := q1 0
  have z1 := q1 1
  have z2 := q1 2
  have z3 := q1 3
  have z4 := q1 4
  have z5 := q1 5
  have z6 := q1 6
  have z7 := q1 7
  have g0 := q2 0
  have g1 := q2 1
  have g2 := q2 2
  have g3 := q2 3
  have g4 := q2 4
  have g5 := q2 5
  have g6 := q2 6
  have g7 := q2 7
  simp at y0 y1 y2 y3 y4 y5 y6 y7 z0 z1 z2 z3 z4 z5 z6 z7
  have hpn : ¬ P = w.heap.size + 1 := by omega
  have hpm : ¬ w.heap.size + 1 = P := by omega
  have HP : Hid (∀ W, Fr (fun k => w.heap.size ≤ k ∧ k < w2.heap.size) w4 W → ∃ (u v : Value) (rs : List ShR), Ending.returned (.agg #[.int .i64 x.op, .int .i64 x.code, .int .i64 x.dst, .slice ua AL uc, .int .i64 x.n, .int .i64 x.pc, .int .i64 x.need, .slice va EL vc]) = .returned (.agg #[.int .i64 x.op, .int .i64 x.code, .int .i64 x.dst, u, .int .i64 x.n, .int .i64 x.pc, .int .i64 x.need, v]) ∧ CiP w x u v rs W) := fun W hW => by
    refine ⟨_, _, rs, rfl, ⟨ua, uc, by rw [unhide hAL], unhide HU⟩, ⟨?_, ?_, ?_⟩, by rw [unhide hEL]; exact hlen, hfp⟩
    · have hr := hv.1
      rw [hlen] at hr ⊢
      exact hr.fr hW (fun k hk e => by have := hv.2.2 k hk; simp at this; omega)
    · exact (bl_past (unhide HBE) hb4).trans (hW.below (bl_past (unhide HBE) hb4).size (fun k hk e => by omega))
    · intro k hk
      have := hv.2.2 k hk
      have := (unhide HBE).size
      omega
  unfold maxLen at hv2
  clear hv hlen hfp hb4 HB4 HZ4 p1 p2 q1 q2 HC2A HF2 d7 dl df
  go_wp2_with fail
  refine bodyPost_ret (v := .agg #[.int .i64 x.op, .int .i64 x.code, .int .i64 x.dst, .slice ua AL uc, .int .i64 x.n, .int .i64 x.pc, .int .i64 x.need, .slice va EL vc]) ?_ rfl ?_
  · rw [results_cell_one rfl]
    go_simp
  · refine unhide HP _ ?_
    have hwp : w.heap.size ≤ P ∧ P < w2.heap.size := ⟨by omega, by omega⟩
    have hwz : w.heap.size ≤ w.heap.size + 1 ∧ w.heap.size + 1 < w2.heap.size := ⟨by omega, by omega⟩
    repeat (first | with_reducible exact Fr.refl _ _ | with_reducible refine Fr.setCell ?_ ⟨_, _, none⟩ (.inr hwp) _ | with_reducible refine Fr.setCell ?_ ⟨_, _, none⟩ (.inr hwz) _)
end Go.Proofs.Ytpbdpejhjdoleaa
