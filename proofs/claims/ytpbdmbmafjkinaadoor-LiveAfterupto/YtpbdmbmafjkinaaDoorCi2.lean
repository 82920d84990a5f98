/-
  The law's own copy of an instruction, all of it one's own.
-/
import Derived.Test.YtpbdmbmafjkinaaDoorCo
import Derived.Test.YtpbdmbmafjkinaaDoorRg13
import Derived.Test.YtpbdmbmafjkinaaDoorSh
import Derived.Test.YtpbdmbmafjkinaaDoorRg14
import Derived.Test.YtpbdmbmafjkinaaDoorIn
namespace Go.Proofs.YtpbdmbmafjkinaaDoor
open Go.RowKit
set_option linter.unusedVariables false
set_option linter.unusedSimpArgs false
theorem new_cellsB {b : Nat} (w : World) (arr : Array Value) (e : TypeId) (hb : w.heap.size = b) : ∀ j z, arr.toList[j]? = some z → (w.alloc (.cells arr e)).cell? ((⟨b, 0, none⟩ : Addr).add j) = some z := by
  subst hb
  exact new_cells w arr e
theorem Gx.on {T : Type} {w wr W : World} {sz : Nat} {en : T → List Value} {l : List T} {v : Value} (h : Gx w sz en l v wr) (b : Below wr.heap.size wr W) : Gx w sz en l v W :=
  ⟨h.1.fr (Fr.of_below (S := fun _ => False) b) (fun _ _ e => e), bl_past h.2.1 b, h.2.2⟩
set_option maxRecDepth 100000 in
set_option maxHeartbeats 12800000 in
theorem copyShapes_any {w : World} {D : Nat → Prop} {lv : Value} {l : List Sh} (hl : ShsV D w l lv) (hN : l.length ≤ 1073741824) (hM : ∀ s ∈ l, s.sl.length ≤ 1073741824) :
    Calls Tryd.prog 70 #[lv] w fun e w' => ∃ (v : Value) (rs : List ShR), e = .returned v ∧ Gx w 3 enSh rs v w' ∧ rs.length = l.length ∧ ∀ (j : Nat) (s : Sh) (r : ShR), l[j]? = some s → rs[j]? = some r → r.fn = s.fn ∧ r.pc = s.pc := by
  obtain ⟨a, acap, rfl, ha1, ha2⟩ := NV.shape hl
  have HA := hide hl
  have HM := hide hM
  unfold maxLen at ha2
  clear hl hM
  obtain ⟨L, hL⟩ : ∃ L, Hid (l.length = L) := ⟨_, hide rfl⟩
  rw [unhide hL] at ha1 hN ⊢
  go_enter Tryd.func70, Tryd.ntmps70
  go_wp2_with fail
  go_loopg [3, 4] L (fun gg t2 t3 wr => ∃ (i : Nat) (cv : Value) (rs : List ShR), Hid (i + gg = L) ∧ t2 = cv ∧ t3 = .int .i64 (i : Int) ∧ Hid (rs.length = i) ∧ Hid (Gx w 3 enSh rs cv wr) ∧ Hid (∀ (j : Nat) (s : Sh) (r : ShR), l[j]? = some s → rs[j]? = some r → r.fn = s.fn ∧ r.pc = s.pc))
  case atStart => exact ⟨0, _, [], by unfold Hid; omega, rfl, rfl, hide rfl, ⟨by simpa [flt] using Ro.nil w 3, Below.refl _ _, fun k e => by cases e⟩, hide (fun j s r _ h => by simp at h)⟩
  case round =>
    obtain ⟨i, cv, rs, hi, rfl, rfl, hrs, hG, hFP⟩ := hrel
    by_cases hlt : i < L
    case neg =>
      have hiL : i = L := by have := unhide hi; omega
      subst hiL
      have i1 : ¬ (i : Int) < (i : Int) := by omega
      go_wp2_with fail
      go_ret
      exact ⟨_, rfl, rs, unhide hG, unhide hrs, unhide hFP⟩
    obtain ⟨s, hs⟩ : ∃ o, l[i]? = some o := ⟨_, List.getElem?_eq_getElem (by rw [unhide hL]; exact hlt)⟩
    obtain ⟨b, off, cap, sa, sc, e, hb, _, hp3, hs1, hs2, hcl⟩ := (unhide HA).at hs
    rw [unhide hL] at e
    cases e
    obtain ⟨k0, k1, k2⟩ := hcl wr ((unhide hG).2.1.block b hb)
    have hb' := Nat.lt_of_lt_of_le hb (unhide hG).2.1.size
    have i0 : (0 : Int) ≤ (i : Int) := by omega
    have i1 : (i : Int) < (L : Int) := by omega
    have HO := hide hs
    have hsl := unhide HM s (List.mem_of_getElem? hs)
    have HLB : Hid (rs.length ≤ 1099511627776) := by rw [unhide hrs]; unfold Hid; omega
    obtain ⟨N, hN'⟩ : ∃ N, Hid (s.sl.length = N) := ⟨_, hide rfl⟩
    have H0 := hide ((BX.nil wr).add #[.int .i64 s.fn, .int .i64 s.pc, .slice sa s.sl.length sc] 73)
    simp only [List.nil_append] at H0
    have HC := hide (copyOpnds_any (w := wr.alloc (.cells #[.int .i64 s.fn, .int .i64 s.pc, .slice sa s.sl.length sc] 73)) (OpV.mv.bel hp3 (bl_past (unhide hG).2.1 (unhide H0).b)) hsl)
    unfold maxLen at hs2
    rw [unhide hN'] at k2 H0 HC hs1
    obtain ⟨k3, k4, k5⟩ := hcl _ (((unhide H0).b.block b hb').trans ((unhide hG).2.1.block b hb))
    rw [unhide hN'] at k5
    obtain ⟨Y, eY⟩ : ∃ Y, wr.alloc (.cells #[.int .i64 s.fn, .int .i64 s.pc, .slice sa N sc] 73) = Y := ⟨_, rfl⟩
    rw [eY] at H0 HC k3 k4 k5
    have yl : b < Y.heap.size := Nat.lt_of_lt_of_le hb' (unhide H0).b.size
    have HNH := hide hsl
    clear hs hp3 hcl hsl
    go_wp2_with fail
    refine (unhide HC).mono ?_
    rintro e w2 ⟨u, rfl, hu⟩
    obtain ⟨ua, uc, eu, hu1, hu2⟩ := hu.1.shape
    subst eu
    rw [unhide hN'] at hu1 ⊢
    unfold maxLen at hu2
    have H2 := hide ((unhide H0).go hu.2.1)
    have z0 := (unhide H2).ce 0 rfl 0
    have z1 := (unhide H2).ce 0 rfl 1
    have z2 := (unhide H2).ce 0 rfl 2
    have zl := (unhide H2).lt (i := 0) rfl
    have zf := (blk_cells ((unhide H2).h 0 _ rfl)).2.1 2
    simp at z0 z1 z2 zl zf
    clear hu HC k0 k1 k2 k3 k4 k5 yl eY
    go_wp2_with (first | (at_builtin; refine appSh rfl _ _ rfl _ rs rfl (((unhide hG).on (by repeat (first | refine bl_past ?_ (box1n _ _) | refine Below.setCell ?_ (by first | (simp; done) | (simp; omega)) _ | with_reducible exact (unhide H2).b))).1) ⟨w2.heap.size, 0, none⟩ 1 ⟨s.fn, s.pc, .slice ua N uc⟩ rfl (new_cellsB _ _ _ (by simp)) rfl (unhide HLB) ?_))
    intro v' w' hr hg hat
    have HG2 := hide ((((unhide hG).on (by repeat (first | refine bl_past ?_ (box1n _ _) | refine Below.setCell ?_ (by first | (simp; done) | (simp; omega)) _ | with_reducible exact (unhide H2).b))).push hr (by simp) hg (by simpa using hat)))
    have HFP2 : Hid (∀ (j : Nat) (q : Sh) (r : ShR), l[j]? = some q → (rs ++ [⟨s.fn, s.pc, .slice ua N uc⟩])[j]? = some r → r.fn = q.fn ∧ r.pc = q.pc) := fun j q r hq hr => by
      by_cases c : j < rs.length
      · rw [List.getElem?_append_left c] at hr
        exact unhide hFP j q r hq hr
      · rw [List.getElem?_append_right (by omega)] at hr
        have hj : j - rs.length = 0 := by have := (List.getElem?_eq_some_iff.1 hr).1; simp at this; omega
        have hj2 : j = i := by have := unhide hrs; omega
        rw [hj] at hr
        rw [hj2, unhide HO] at hq
        cases hr
        cases hq
        exact ⟨rfl, rfl⟩
    clear hr hg hat HLB z0 z1 z2 zl zf
    go_wp2_with fail
    go_roundg (gk - 1)
    case measure => have := unhide hi; omega
    case rel => exact ⟨i + 1, v', _, by have := unhide hi; unfold Hid; omega, rfl, by go_num, by have := unhide hrs; unfold Hid; simp; omega, HG2, HFP2⟩

set_option linter.unusedVariables false
set_option linter.unusedSimpArgs false
/-- What CopyIns answers: shapes in a row of one's own. -/
structure CiP (w : World) (x : RIn) (u v : Value) (rs : List ShR) (w' : World) : Prop where
  a : ∃ a c, u = .slice a x.args.length c ∧ x.args.length ≤ c ∧ c ≤ maxLen
  g : Gx w 3 enSh rs v w'
  len : rs.length = x.ex.length
  fp : ∀ (j : Nat) (s : Sh) (r : ShR), x.ex[j]? = some s → rs[j]? = some r → r.fn = s.fn ∧ r.pc = s.pc
set_option maxRecDepth 100000 in
set_option maxHeartbeats 12800000 in
theorem copyIns_any {w : World} {D : Nat → Prop} {x : RIn} {q : InR} (h : InP D w x q) (hA : x.args.length ≤ 1073741824) (hE : x.ex.length ≤ 1073741824) (hS : ∀ s ∈ x.ex, s.sl.length ≤ 1073741824) :
    Calls Tryd.prog 50 #[inV q] w fun e w' => ∃ (u v : Value) (rs : List ShR), e = .returned (inV ⟨x.op, x.code, x.dst, u, x.n, x.pc, x.need, v⟩) ∧ CiP w x u v rs w' := by
  obtain ⟨rop, rcode, rdst, rav, rn, rpc, rneed, rev⟩ := q
  obtain ⟨h1, h2, h3, h4, h5, h6, h7, h8⟩ := h
  simp only at h1 h2 h3 h4 h5 h6 h7 h8
  have HC1 : Hid (∀ W, Below w.heap.size w W → Calls Tryd.prog 69 #[rav] W fun e w' => ∃ v, e = .returned v ∧ Gx W 2 enO x.args v w') := fun W hW => copyOpnds_any (OpV.mv.bel h7 hW) hA
  have HC2 : Hid (∀ W, Below w.heap.size w W → Calls Tryd.prog 70 #[rev] W fun e w' => ∃ (v : Value) (rs : List ShR), e = .returned v ∧ Gx W 3 enSh rs v w' ∧ rs.length = x.ex.length ∧ ∀ (j : Nat) (s : Sh) (r : ShR), x.ex[j]? = some s → rs[j]? = some r → r.fn = s.fn ∧ r.pc = s.pc) := fun W hW => copyShapes_any (ShsV.mv.bel h8 hW) hE hS
  obtain ⟨aa, ac, ea1, hva1, hva2⟩ := h7.1.shape
  obtain ⟨ea, ec, ee1, hve1, hve2⟩ := NV.shape h8
  subst ea1 ee1 h1 h2 h3 h4 h5 h6
  obtain ⟨AL, hAL⟩ : ∃ z, Hid (x.args.length = z) := ⟨_, hide rfl⟩
  obtain ⟨EL, hEL⟩ : ∃ z, Hid (x.ex.length = z) := ⟨_, hide rfl⟩
  unfold inV
  dsimp only
  rw [unhide hAL] at HC1 hva1 ⊢
  rw [unhide hEL] at HC2 hve1 ⊢
  unfold maxLen at hva2 hve2
  have B3 := BX.three w #[.int .i64 x.op, .int .i64 x.code, .int .i64 x.dst, .slice aa AL ac, .int .i64 x.n, .int .i64 x.pc, .int .i64 x.need, .slice ea EL ec] #[.int .i64 0, .int .i64 0, .int .i64 0, .slice none 0 0, .int .i64 0, .int .i64 0, .int .i64 0, .slice none 0 0] #[.int .i64 x.op, .int .i64 x.code, .int .i64 x.dst, .slice aa AL ac, .int .i64 x.n, .int .i64 x.pc, .int .i64 x.need, .slice ea EL ec] 51 51 51
  obtain ⟨Y, eY⟩ : ∃ Y, (((w.alloc (.cells #[.int .i64 x.op, .int .i64 x.code, .int .i64 x.dst, .slice aa AL ac, .int .i64 x.n, .int .i64 x.pc, .int .i64 x.need, .slice ea EL ec] 51)).alloc (.cells #[.int .i64 0, .int .i64 0, .int .i64 0, .slice none 0 0, .int .i64 0, .int .i64 0, .int .i64 0, .slice none 0 0] 51)).alloc (.cells #[.int .i64 x.op, .int .i64 x.code, .int .i64 x.dst, .slice aa AL ac, .int .i64 x.n, .int .i64 x.pc, .int .i64 x.need, .slice ea EL ec] 51)) = Y := ⟨_, rfl⟩
  rw [eY] at B3
  have HB := hide B3
  have c3 := B3.ce 0 rfl 3
  have cl := B3.lt (i := 0) rfl
  simp at c3 cl
  have HCA := hide (unhide HC1 Y B3.b)
  clear B3 HC1 h7 h8
  go_enter Tryd.func50, Tryd.ntmps50
  go_wp2_with fail
  refine (unhide HCA).mono ?_
  rintro e w2 ⟨u, rfl, hu⟩
  obtain ⟨ua, uc, eu, hu1, hu2⟩ := hu.1.shape
  subst eu
  have H2 := hide ((unhide HB).go hu.2.1)
  have HU : Hid (x.args.length ≤ uc ∧ uc ≤ maxLen) := ⟨hu1, hu2⟩
  rw [unhide hAL] at hu1 ⊢
  obtain ⟨P, hP⟩ : ∃ P, Hid (w.heap.size + 1 + 1 = P) := ⟨_, hide rfl⟩
  have hPP := unhide hP
  have HF : Hid (Fr (fun k => k = P) w2 (w2.setCell ⟨P, 3, none⟩ (.slice ua AL uc))) := hide (Fr.setCell (S := fun k => k = P) (Fr.refl _ w2) ⟨P, 3, none⟩ (.inr rfl) _)
  have HBOX := setCell_block (g := P) (o := 3) (by have := (unhide H2).h 2 _ rfl; rw [unhide hP] at this; exact this) (.slice ua AL uc)
  simp at HBOX
  have d7 := (unhide H2).ce 0 rfl 7
  have dl := (unhide H2).lt (i := 0) rfl
  have dp := (unhide H2).lt (i := 2) rfl
  have df := (blk_cells ((unhide H2).h 2 _ rfl)).2.1 3
  have d3 := (unhide H2).ce 2 rfl 3
  simp at d7 dl dp df d3
  rw [unhide hP] at dp df d3
  have HBE : Hid (Below w.heap.size w (w2.setCell ⟨P, 3, none⟩ (.slice ua AL uc))) := hide ((unhide H2).b.setCell (p := ⟨P, 3, none⟩) (by show w.heap.size ≤ P; omega) _)
  have HC2A := hide (unhide HC2 _ (unhide HBE))
  have HZ := hide ((unhide H2).h 1 _ rfl)
  rw [hPP]
  clear hu HCA HC2 eY c3 cl
  have HHB := hide HBOX
  have HF2 : Hid (∀ j v, (w2.setCell ⟨P, 3, none⟩ (.slice ua AL uc)).cell? ⟨w.heap.size, j, none⟩ = some v ↔ w2.cell? ⟨w.heap.size, j, none⟩ = some v) := fun j v => by
    rw [(unhide HF).cell (a := ⟨w.heap.size, j, none⟩) dl (fun q => by have q' : w.heap.size = P := q; omega)]
  clear HBOX
  go_wp2_with fail
  refine (unhide HC2A).mono ?_
  rintro e w4 ⟨v, rs, rfl, hv, hlen, hfp⟩
  obtain ⟨va, vc, ev, hv1, hv2⟩ := hv.1.shape
  rw [hlen] at ev
  subst ev
  have hb4 := hv.2.1
  have HB4 := (hb4.block P (by simpa using dp)).trans (unhide HHB)
  have HZ4 := (hb4.block (w.heap.size + 1) (by have := (unhide H2).lt (i := 1) rfl; simpa using this)).trans (((unhide HF).block (w.heap.size + 1) (by have := (unhide H2).lt (i := 1) rfl; simpa using this) (by omega)).trans (unhide HZ))
  obtain ⟨p1, p2, p3⟩ := blk_cells HB4
  obtain ⟨q1, q2, q3⟩ := blk_cells HZ4
  have y0 := p1 0
  have y1 := p1 1
  have y2 := p1 2
  have y3 := p1 3
  have y4 := p1 4
  have y5 := p1 5
  have y6 := p1 6
  have y7 := p1 7
  have f7 := p2 7
  have z0 := q1 0
  have z1 := q1 1
  have z2 := q1 2
  have z3 := q1 3
  have z4 := q1 4
  have z5 := q1 5
  have z6 := q1 6
  have z7 := q1 7
  have g0 := q2 0
  have g1 := q2 1
  have g2 := q2 2
  have g3 := q2 3
  have g4 := q2 4
  have g5 := q2 5
  have g6 := q2 6
  have g7 := q2 7
  simp at y0 y1 y2 y3 y4 y5 y6 y7 z0 z1 z2 z3 z4 z5 z6 z7
  have hpn : ¬ P = w.heap.size + 1 := by omega
  have hpm : ¬ w.heap.size + 1 = P := by omega
  have HP : Hid (∀ W, Fr (fun k => w.heap.size ≤ k ∧ k < w2.heap.size) w4 W → ∃ (u v : Value) (rs : List ShR), Ending.returned (.agg #[.int .i64 x.op, .int .i64 x.code, .int .i64 x.dst, .slice ua AL uc, .int .i64 x.n, .int .i64 x.pc, .int .i64 x.need, .slice va EL vc]) = .returned (.agg #[.int .i64 x.op, .int .i64 x.code, .int .i64 x.dst, u, .int .i64 x.n, .int .i64 x.pc, .int .i64 x.need, v]) ∧ CiP w x u v rs W) := fun W hW => by
    refine ⟨_, _, rs, rfl, ⟨ua, uc, by rw [unhide hAL], unhide HU⟩, ⟨?_, ?_, ?_⟩, by rw [unhide hEL]; exact hlen, hfp⟩
    · have hr := hv.1
      rw [hlen] at hr ⊢
      exact hr.fr hW (fun k hk e => by have := hv.2.2 k hk; simp at this; omega)
    · exact (bl_past (unhide HBE) hb4).trans (hW.below (bl_past (unhide HBE) hb4).size (fun k hk e => by omega))
    · intro k hk
      have := hv.2.2 k hk
      have := (unhide HBE).size
      omega
  unfold maxLen at hv2
  clear hv hlen hfp hb4 HB4 HZ4 p1 p2 q1 q2 HC2A HF2 d7 dl df
  go_wp2_with fail
  refine bodyPost_ret (v := .agg #[.int .i64 x.op, .int .i64 x.code, .int .i64 x.dst, .slice ua AL uc, .int .i64 x.n, .int .i64 x.pc, .int .i64 x.need, .slice va EL vc]) ?_ rfl ?_
  · rw [results_cell_one rfl]
    go_simp
  · refine unhide HP _ ?_
    have hwp : w.heap.size ≤ P ∧ P < w2.heap.size := ⟨by omega, by omega⟩
    have hwz : w.heap.size ≤ w.heap.size + 1 ∧ w.heap.size + 1 < w2.heap.size := ⟨by omega, by omega⟩
    repeat (first | with_reducible exact Fr.refl _ _ | with_reducible refine Fr.setCell ?_ ⟨_, _, none⟩ (.inr hwp) _ | with_reducible refine Fr.setCell ?_ ⟨_, _, none⟩ (.inr hwz) _)

set_option linter.unusedVariables false
set_option linter.unusedSimpArgs false
def ShPo (w : World) (s : Sh) (r : ShR) : Prop := r.fn = s.fn ∧ r.pc = s.pc ∧ Ro w 2 r.v s.sl.length (flt enO s.sl)
def blS (r : ShR) (k : Nat) : Prop := r.v.ownBlock = some k
theorem staySh : Stays ShPo blS := fun Q w w' s r h f hk => ⟨h.1, h.2.1, h.2.2.fr f hk⟩
set_option maxRecDepth 100000 in
set_option maxHeartbeats 12800000 in
theorem copyShO_any {w : World} {D : Nat → Prop} {lv : Value} {l : List Sh} (hl : ShsV D w l lv) (hN : l.length ≤ 1073741824) (hM : ∀ s ∈ l, s.sl.length ≤ 1073741824) :
    Calls Tryd.prog 70 #[lv] w fun e w' => ∃ (v : Value) (rs : List ShR), e = .returned v ∧ Below w.heap.size w w' ∧ OW enSh 3 ShPo blS (fun k => w.heap.size ≤ k) w' v l rs := by
  obtain ⟨a, acap, rfl, ha1, ha2⟩ := NV.shape hl
  have HA := hide hl
  have HM := hide hM
  unfold maxLen at ha2
  clear hl hM
  obtain ⟨L, hL⟩ : ∃ L, Hid (l.length = L) := ⟨_, hide rfl⟩
  rw [unhide hL] at ha1 hN ⊢
  go_enter Tryd.func70, Tryd.ntmps70
  go_wp2_with fail
  go_loopg [3, 4] L (fun gg t2 t3 wr => ∃ (i : Nat) (cv : Value) (rs : List ShR), Hid (i + gg = L) ∧ t2 = cv ∧ t3 = .int .i64 (i : Int) ∧ Hid (rs.length = i) ∧ Hid (Below w.heap.size w wr ∧ OW enSh 3 ShPo blS (fun k => w.heap.size ≤ k) wr cv (l.take i) rs))
  case atStart => exact ⟨0, _, [], by unfold Hid; omega, rfl, rfl, hide rfl, hide ⟨Below.refl _ _, by simpa using OW.nil w⟩⟩
  case round =>
    obtain ⟨i, cv, rs, hi, rfl, rfl, hrs, hG⟩ := hrel
    by_cases hlt : i < L
    case neg =>
      have hiL : i = L := by have := unhide hi; omega
      subst hiL
      have i1 : ¬ (i : Int) < (i : Int) := by omega
      have hq := (unhide hG).2
      rw [List.take_of_length_le (by rw [unhide hL]; exact Nat.le_refl _)] at hq
      have HQ := hide hq
      clear hq
      go_wp2_with fail
      go_ret
      exact ⟨_, rfl, (unhide hG).1, rs, unhide HQ⟩
    obtain ⟨s, hs⟩ : ∃ o, l[i]? = some o := ⟨_, List.getElem?_eq_getElem (by rw [unhide hL]; exact hlt)⟩
    obtain ⟨b, off, cap, sa, sc, e, hb, _, hp3, hs1, hs2, hcl⟩ := (unhide HA).at hs
    rw [unhide hL] at e
    cases e
    obtain ⟨k0, k1, k2⟩ := hcl wr ((unhide hG).1.block b hb)
    have hb' := Nat.lt_of_lt_of_le hb (unhide hG).1.size
    have i0 : (0 : Int) ≤ (i : Int) := by omega
    have i1 : (i : Int) < (L : Int) := by omega
    have HO := hide hs
    have hsl := unhide HM s (List.mem_of_getElem? hs)
    have HLB : Hid (rs.length ≤ 1099511627776) := by rw [unhide hrs]; unfold Hid; omega
    obtain ⟨N, hN'⟩ : ∃ N, Hid (s.sl.length = N) := ⟨_, hide rfl⟩
    have H0 := hide ((BX.nil wr).add #[.int .i64 s.fn, .int .i64 s.pc, .slice sa s.sl.length sc] 73)
    simp only [List.nil_append] at H0
    have HC := hide (copyOpnds_any (w := wr.alloc (.cells #[.int .i64 s.fn, .int .i64 s.pc, .slice sa s.sl.length sc] 73)) (OpV.mv.bel hp3 (bl_past (unhide hG).1 (unhide H0).b)) hsl)
    unfold maxLen at hs2
    rw [unhide hN'] at k2 H0 HC hs1
    obtain ⟨k3, k4, k5⟩ := hcl _ (((unhide H0).b.block b hb').trans ((unhide hG).1.block b hb))
    rw [unhide hN'] at k5
    obtain ⟨Y, eY⟩ : ∃ Y, wr.alloc (.cells #[.int .i64 s.fn, .int .i64 s.pc, .slice sa N sc] 73) = Y := ⟨_, rfl⟩
    rw [eY] at H0 HC k3 k4 k5
    have yl : b < Y.heap.size := Nat.lt_of_lt_of_le hb' (unhide H0).b.size
    have HNH := hide hsl
    clear hs hp3 hcl hsl
    go_wp2_with fail
    refine (unhide HC).mono ?_
    rintro e w2 ⟨u, rfl, hu⟩
    obtain ⟨ua, uc, eu, hu1, hu2⟩ := hu.1.shape
    subst eu
    rw [unhide hN'] at hu1 ⊢
    unfold maxLen at hu2
    have H2 := hide ((unhide H0).go hu.2.1)
    have HUO : Hid (Ro w2 2 (.slice ua N uc) s.sl.length (flt enO s.sl) ∧ ∀ k, (Value.slice ua N uc).ownBlock = some k → wr.heap.size < k ∧ k < w2.heap.size) := by
      have h1 := hu.1
      have h2 := hu.2.2
      have hys : wr.heap.size < Y.heap.size := (unhide H0).lt (i := 0) rfl
      rw [unhide hN'] at h1 h2 ⊢
      exact ⟨h1, fun k hk => ⟨Nat.lt_of_lt_of_le hys (h2 k hk), h1.lt k hk⟩⟩
    have z0 := (unhide H2).ce 0 rfl 0
    have z1 := (unhide H2).ce 0 rfl 1
    have z2 := (unhide H2).ce 0 rfl 2
    have zl := (unhide H2).lt (i := 0) rfl
    have zf := (blk_cells ((unhide H2).h 0 _ rfl)).2.1 2
    simp at z0 z1 z2 zl zf
    clear hu HC k0 k1 k2 k3 k4 k5 yl eY
    have HRL : Hid ((l.take i).length = rs.length) := (unhide hG).2.len.symm
    go_wp2_with (first | (at_builtin; refine appSh rfl _ _ rfl _ rs rfl (Ro.fr (by have q := (unhide hG).2.row; rw [unhide HRL] at q; exact q) (Fr.of_below (S := fun _ => False) (by repeat (first | refine bl_past ?_ (box1n _ _) | refine Below.setCell ?_ (by first | (simp; done) | (simp; omega)) _ | with_reducible exact (unhide H2).b))) (fun _ _ e => e)) ⟨w2.heap.size, 0, none⟩ 1 ⟨s.fn, s.pc, .slice ua N uc⟩ rfl (new_cellsB _ _ _ (by simp)) rfl (unhide HLB) ?_))
    intro v' w' hr hg hat
    have HG2 : Hid (Below w.heap.size w w' ∧ OW enSh 3 ShPo blS (fun k => w.heap.size ≤ k) w' v' (l.take (i + 1)) (rs ++ [⟨s.fn, s.pc, .slice ua N uc⟩])) := by
      have hws := (unhide hG).1.size
      obtain ⟨o1, o2⟩ := OW.push staySh (unhide hG).2 (u := s) (x := ⟨s.fn, s.pc, .slice ua N uc⟩) (by repeat (first | refine bl_past ?_ (box1n _ _) | refine Below.setCell ?_ (by first | (simp; done) | (simp; omega)) _ | with_reducible exact (unhide H2).b)) ⟨rfl, rfl, Ro.fr (unhide HUO).1 (S := fun q => q = wr.heap.size) (by repeat (first | with_reducible refine Fr.alloc ?_ _ | refine Fr.setCell (S := fun q => q = wr.heap.size) ?_ ⟨wr.heap.size, 2, none⟩ (.inr rfl) _ | with_reducible exact Fr.refl _ _)) (fun k hk e => by have := ((unhide HUO).2 k hk).1; omega)⟩ (fun k hk => by have hk2 : (Value.slice ua N uc).ownBlock = some k := hk; exact ⟨Nat.le_of_lt ((unhide HUO).2 k hk2).1, by have := ((unhide HUO).2 k hk2).2; simp; omega⟩) (fun k hk => Nat.le_trans hws hk) hr (by rw [unhide HRL]) hg (by simpa using hat)
      refine ⟨(unhide hG).1.trans (o2.below hws (fun k hk e => by have := (unhide hG).2.rb k e; omega)), ?_⟩
      rw [take_push (unhide HO)]
      exact o1
    clear hr hg hat HLB z0 z1 z2 zl zf
    go_wp2_with fail
    go_roundg (gk - 1)
    case measure => have := unhide hi; omega
    case rel => exact ⟨i + 1, v', _, by have := unhide hi; unfold Hid; omega, rfl, by go_num, by have := unhide hrs; unfold Hid; simp; omega, HG2⟩

set_option linter.unusedVariables false
set_option linter.unusedSimpArgs false
def CiT (w : World) (x : RIn) (r : InR) (w' : World) : Prop := ∃ t : TI, t.1 = r ∧ Below w.heap.size w w' ∧ InT w' x t ∧ ∀ k, blT t k → w.heap.size ≤ k
theorem CiT.of {w wa wb W : World} {x : RIn} {u v : Value} {rs : List ShR} {P : Nat} {W0 : World} (hP : w.heap.size + 2 = P) (h0 : Below w.heap.size w wb) (hPw : P < wb.heap.size)
    (ha : Ro wa 2 u x.args.length (flt enO x.args)) (hu : ∀ k, u.ownBlock = some k → P < k ∧ k < wa.heap.size) (hf : Fr (fun k => k = P) wa wb) (f : Below wb.heap.size wb W0) (g : Fr (fun k => w.heap.size ≤ k ∧ k ≤ P) W0 W)
    (hv : OW enSh 3 ShPo blS (fun k => wb.heap.size ≤ k) W0 v x.ex rs) :
    CiT w x ⟨x.op, x.code, x.dst, u, x.n, x.pc, x.need, v⟩ W := by
  have s1 := hf.size
  have s2 := f.size
  have s3 := g.size
  have s0 := h0.size
  have hPb : ∀ k, u.ownBlock = some k → k < wb.heap.size := fun k hk => by have := (hu k hk).2; omega
  have e1 : ∀ k, v.ownBlock = some k → wb.heap.size ≤ k := fun k hk => hv.rb k hk
  have e2 : ∀ r ∈ rs, ∀ k, r.v.ownBlock = some k → wb.heap.size ≤ k ∧ k < W0.heap.size ∧ v.ownBlock ≠ some k := fun r hr k hk => by
    obtain ⟨j, hj, rfl⟩ := List.getElem_of_mem hr
    exact hv.eb j _ k (List.getElem?_eq_getElem hj) hk
  refine ⟨(⟨x.op, x.code, x.dst, u, x.n, x.pc, x.need, v⟩, rs), rfl, (bl_past h0 f).trans (g.below (bl_past h0 f).size (fun k hk e => by omega)), ⟨⟨rfl, rfl, rfl, rfl, rfl, rfl⟩, ?_, hv.len, ?_, fun j s r hs hr => ?_, fun k hk q => ?_, fun r k hr hk => ⟨fun q => ?_, (e2 r hr k hk).2.2⟩, fun i j r q k hij hr hq hk => hv.ap i j r q k hij hr hq hk⟩, fun k hk => ?_⟩
  · exact ((ha.fr hf (fun k hk e => by have := (hu k hk).1; have e' : k = P := e; omega)).fr (Fr.of_below (S := fun _ => False) f) (fun _ _ e => e)).fr g (fun k hk e => by have := (hu k hk).1; omega)
  · have h := hv.row
    rw [← hv.len]
    rw [← hv.len] at h
    exact h.fr g (fun k hk e => by have := e1 k hk; omega)
  · obtain ⟨a1, a2, a3⟩ := hv.el j s r hs hr
    exact ⟨a1, a2, a3.fr g (fun k hk e => by have := (e2 r (List.mem_of_getElem? hr) k hk).1; omega)⟩
  · have := hPb k hk; have := e1 k q; omega
  · have := hPb k q; have := (e2 r hr k hk).1; omega
  · rcases hk with q | q | ⟨r, hr, q⟩
    · have := (hu k q).1; omega
    · have := e1 k q; omega
    · have := (e2 r hr k q).1; omega
set_option maxRecDepth 100000 in
set_option maxHeartbeats 12800000 in
theorem copyInT_any {w : World} {D : Nat → Prop} {x : RIn} {q : InR} (h : InP D w x q) (hA : x.args.length ≤ 1073741824) (hE : x.ex.length ≤ 1073741824) (hS : ∀ s ∈ x.ex, s.sl.length ≤ 1073741824) :
    Calls Tryd.prog 50 #[inV q] w fun e w' => ∃ r, e = .returned (inV r) ∧ CiT w x r w' := by
  obtain ⟨rop, rcode, rdst, rav, rn, rpc, rneed, rev⟩ := q
  obtain ⟨h1, h2, h3, h4, h5, h6, h7, h8⟩ := h
  simp only at h1 h2 h3 h4 h5 h6 h7 h8
  have HC1 : Hid (∀ W, Below w.heap.size w W → Calls Tryd.prog 69 #[rav] W fun e w' => ∃ v, e = .returned v ∧ Gx W 2 enO x.args v w') := fun W hW => copyOpnds_any (OpV.mv.bel h7 hW) hA
  have HC2 : Hid (∀ W, Below w.heap.size w W → Calls Tryd.prog 70 #[rev] W fun e w' => ∃ (v : Value) (rs : List ShR), e = .returned v ∧ Below W.heap.size W w' ∧ OW enSh 3 ShPo blS (fun k => W.heap.size ≤ k) w' v x.ex rs) := fun W hW => copyShO_any (ShsV.mv.bel h8 hW) hE hS
  obtain ⟨aa, ac, ea1, hva1, hva2⟩ := h7.1.shape
  obtain ⟨ea, ec, ee1, hve1, hve2⟩ := NV.shape h8
  subst ea1 ee1 h1 h2 h3 h4 h5 h6
  obtain ⟨AL, hAL⟩ : ∃ z, Hid (x.args.length = z) := ⟨_, hide rfl⟩
  obtain ⟨EL, hEL⟩ : ∃ z, Hid (x.ex.length = z) := ⟨_, hide rfl⟩
  unfold inV
  dsimp only
  rw [unhide hAL] at HC1 hva1 ⊢
  rw [unhide hEL] at HC2 hve1 ⊢
  unfold maxLen at hva2 hve2
  have B3 := BX.three w #[.int .i64 x.op, .int .i64 x.code, .int .i64 x.dst, .slice aa AL ac, .int .i64 x.n, .int .i64 x.pc, .int .i64 x.need, .slice ea EL ec] #[.int .i64 0, .int .i64 0, .int .i64 0, .slice none 0 0, .int .i64 0, .int .i64 0, .int .i64 0, .slice none 0 0] #[.int .i64 x.op, .int .i64 x.code, .int .i64 x.dst, .slice aa AL ac, .int .i64 x.n, .int .i64 x.pc, .int .i64 x.need, .slice ea EL ec] 51 51 51
  obtain ⟨Y, eY⟩ : ∃ Y, (((w.alloc (.cells #[.int .i64 x.op, .int .i64 x.code, .int .i64 x.dst, .slice aa AL ac, .int .i64 x.n, .int .i64 x.pc, .int .i64 x.need, .slice ea EL ec] 51)).alloc (.cells #[.int .i64 0, .int .i64 0, .int .i64 0, .slice none 0 0, .int .i64 0, .int .i64 0, .int .i64 0, .slice none 0 0] 51)).alloc (.cells #[.int .i64 x.op, .int .i64 x.code, .int .i64 x.dst, .slice aa AL ac, .int .i64 x.n, .int .i64 x.pc, .int .i64 x.need, .slice ea EL ec] 51)) = Y := ⟨_, rfl⟩
  rw [eY] at B3
  have HB := hide B3
  have c3 := B3.ce 0 rfl 3
  have cl := B3.lt (i := 0) rfl
  simp at c3 cl
  have HCA := hide (unhide HC1 Y B3.b)
  clear B3 HC1 h7 h8
  go_enter Tryd.func50, Tryd.ntmps50
  go_wp2_with fail
  refine (unhide HCA).mono ?_
  rintro e w2 ⟨u, rfl, hu⟩
  obtain ⟨ua, uc, eu, hu1, hu2⟩ := hu.1.shape
  subst eu
  have H2 := hide ((unhide HB).go hu.2.1)
  have hys := (unhide HB).lt (i := 2) rfl
  have HU : Hid (Ro w2 2 (.slice ua x.args.length uc) x.args.length (flt enO x.args) ∧ ∀ k, (Value.slice ua x.args.length uc).ownBlock = some k → w.heap.size + 1 + 1 < k ∧ k < w2.heap.size) := ⟨hu.1, fun k hk => ⟨Nat.lt_of_lt_of_le hys (hu.2.2 k hk), hu.1.lt k hk⟩⟩
  rw [unhide hAL] at hu1 ⊢
  obtain ⟨P, hP⟩ : ∃ P, Hid (w.heap.size + 1 + 1 = P) := ⟨_, hide rfl⟩
  have hPP := unhide hP
  have HF : Hid (Fr (fun k => k = P) w2 (w2.setCell ⟨P, 3, none⟩ (.slice ua AL uc))) := hide (Fr.setCell (S := fun k => k = P) (Fr.refl _ w2) ⟨P, 3, none⟩ (.inr rfl) _)
  have HBOX := setCell_block (g := P) (o := 3) (by have := (unhide H2).h 2 _ rfl; rw [unhide hP] at this; exact this) (.slice ua AL uc)
  simp at HBOX
  have d7 := (unhide H2).ce 0 rfl 7
  have dl := (unhide H2).lt (i := 0) rfl
  have dp := (unhide H2).lt (i := 2) rfl
  have df := (blk_cells ((unhide H2).h 2 _ rfl)).2.1 3
  have d3 := (unhide H2).ce 2 rfl 3
  simp at d7 dl dp df d3
  rw [unhide hP] at dp df d3
  have HBE : Hid (Below w.heap.size w (w2.setCell ⟨P, 3, none⟩ (.slice ua AL uc))) := hide ((unhide H2).b.setCell (p := ⟨P, 3, none⟩) (by show w.heap.size ≤ P; omega) _)
  have HC2A := hide (unhide HC2 _ (unhide HBE))
  have HZ := hide ((unhide H2).h 1 _ rfl)
  rw [hPP]
  clear hu HCA HC2 eY c3 cl
  have HHB := hide HBOX
  have HF2 : Hid (∀ j v, (w2.setCell ⟨P, 3, none⟩ (.slice ua AL uc)).cell? ⟨w.heap.size, j, none⟩ = some v ↔ w2.cell? ⟨w.heap.size, j, none⟩ = some v) := fun j v => by
    rw [(unhide HF).cell (a := ⟨w.heap.size, j, none⟩) dl (fun q => by have q' : w.heap.size = P := q; omega)]
  clear HBOX
  go_wp2_with fail
  refine (unhide HC2A).mono ?_
  rintro e w4 ⟨v, rs, rfl, hb4, hv⟩
  obtain ⟨va, vc, ev, hv1, hv2⟩ := hv.row.shape
  rw [unhide hEL] at ev
  subst ev
  have HB4 := (hb4.block P (by simpa using dp)).trans (unhide HHB)
  have HZ4 := (hb4.block (w.heap.size + 1) (by have := (unhide H2).lt (i := 1) rfl; simpa using this)).trans (((unhide HF).block (w.heap.size + 1) (by have := (unhide H2).lt (i := 1) rfl; simpa using this) (by omega)).trans (unhide HZ))
  obtain ⟨p1, p2, p3⟩ := blk_cells HB4
  obtain ⟨q1, q2, q3⟩ := blk_cells HZ4
  have y0 := p1 0
  have y1 := p1 1
  have y2 := p1 2
  have y3 := p1 3
  have y4 := p1 4
  have y5 := p1 5
  have y6 := p1 6
  have y7 := p1 7
  have f7 := p2 7
  have z0 := q1 0
  have z1 := q1 1
  have z2 := q1 2
  have z3 := q1 3
  have z4 := q1 4
  have z5 := q1 5
  have z6 := q1 6
  have z7 := q1 7
  have g0 := q2 0
  have g1 := q2 1
  have g2 := q2 2
  have g3 := q2 3
  have g4 := q2 4
  have g5 := q2 5
  have g6 := q2 6
  have g7 := q2 7
  simp at y0 y1 y2 y3 y4 y5 y6 y7 z0 z1 z2 z3 z4 z5 z6 z7
  have hpn : ¬ P = w.heap.size + 1 := by omega
  have hpm : ¬ w.heap.size + 1 = P := by omega
  have HP : Hid (∀ W, Fr (fun k => w.heap.size ≤ k ∧ k ≤ P) w4 W → ∃ r, Ending.returned (.agg #[.int .i64 x.op, .int .i64 x.code, .int .i64 x.dst, .slice ua AL uc, .int .i64 x.n, .int .i64 x.pc, .int .i64 x.need, .slice va EL vc]) = .returned (inV r) ∧ CiT w x r W) := fun W hW => by
    obtain ⟨u1, u2⟩ := unhide HU
    rw [unhide hAL] at u2
    exact ⟨_, rfl, CiT.of (wa := w2) (wb := w2.setCell ⟨P, 3, none⟩ (.slice ua AL uc)) (W0 := w4) (by omega) (unhide HBE) (by simpa using dp) (by rw [unhide hAL] at u1 ⊢; exact u1) (fun k hk => by have := u2 k hk; omega) (unhide HF) hb4 hW (by rw [← unhide hEL] at hv ⊢; exact hv)⟩
  unfold maxLen at hv2
  clear hv hb4 HB4 HZ4 p1 p2 q1 q2 HC2A HF2 d7 dl df
  go_wp2_with fail
  refine bodyPost_ret (v := .agg #[.int .i64 x.op, .int .i64 x.code, .int .i64 x.dst, .slice ua AL uc, .int .i64 x.n, .int .i64 x.pc, .int .i64 x.need, .slice va EL vc]) ?_ rfl ?_
  · rw [results_cell_one rfl]
    go_simp
  · refine unhide HP _ ?_
    have hwp : w.heap.size ≤ P ∧ P ≤ P := ⟨by omega, by omega⟩
    have hwz : w.heap.size ≤ w.heap.size + 1 ∧ w.heap.size + 1 ≤ P := ⟨by omega, by omega⟩
    repeat (first | with_reducible exact Fr.refl _ _ | with_reducible refine Fr.setCell ?_ ⟨_, _, none⟩ (.inr hwp) _ | with_reducible refine Fr.setCell ?_ ⟨_, _, none⟩ (.inr hwz) _)
end Go.Proofs.YtpbdmbmafjkinaaDoor
