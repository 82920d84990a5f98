/-
  CopyRegs.
-/
import Derived.Test.YtpbdmbmafjkinaaDoorCo
import Derived.Test.YtpbdmbmafjkinaaDoorRg13
import Derived.Test.YtpbdmbmafjkinaaDoorSh
import Derived.Test.YtpbdmbmafjkinaaDoorRg14
import Derived.Test.YtpbdmbmafjkinaaDoorIn
import Derived.Test.YtpbdmbmafjkinaaDoorKp
import Derived.Test.YtpbdmbmafjkinaaDoorTb
import Derived.Test.YtpbdmbmafjkinaaDoorAk
import Derived.Test.YtpbdmbmafjkinaaDoorRu
namespace Go.Proofs.YtpbdmbmafjkinaaDoor
open Go.RowKit
set_option linter.unusedVariables false
set_option linter.unusedSimpArgs false
theorem new_cellsB {b : Nat} (w : World) (arr : Array Value) (e : TypeId) (hb : w.heap.size = b) : ∀ j z, arr.toList[j]? = some z → (w.alloc (.cells arr e)).cell? ((⟨b, 0, none⟩ : Addr).add j) = some z := by
  subst hb
  exact new_cells w arr e
theorem Gx.on {T : Type} {w wr W : World} {sz : Nat} {en : T → List Value} {l : List T} {v : Value} (h : Gx w sz en l v wr) (b : Below wr.heap.size wr W) : Gx w sz en l v W :=
  ⟨h.1.fr (Fr.of_below (S := fun _ => False) b) (fun _ _ e => e), bl_past h.2.1 b, h.2.2⟩
set_option maxRecDepth 100000 in
set_option maxHeartbeats 12800000 in
theorem copyShapes_any {w : World} {D : Nat → Prop} {lv : Value} {l : List Sh} (hl : ShsV D w l lv) (hN : l.length ≤ 1073741824) (hM : ∀ s ∈ l, s.sl.length ≤ 1073741824) :
    Calls Tryd.prog 70 #[lv] w fun e w' => ∃ (v : Value) (rs : List ShR), e = .returned v ∧ Gx w 3 enSh rs v w' ∧ rs.length = l.length ∧ ∀ (j : Nat) (s : Sh) (r : ShR), l[j]? = some s → rs[j]? = some r → r.fn = s.fn ∧ r.pc = s.pc := by
  obtain ⟨a, acap, rfl, ha1, ha2⟩ := NV.shape hl
  have HA := hide hl
  have HM := hide hM
  unfold maxLen at ha2
  clear hl hM
  obtain ⟨L, hL⟩ : ∃ L, Hid (l.length = L) := ⟨_, hide rfl⟩
  rw [unhide hL] at ha1 hN ⊢
  go_enter Tryd.func70, Tryd.ntmps70
  go_wp2_with fail
  go_loopg [3, 4] L (fun gg t2 t3 wr => ∃ (i : Nat) (cv : Value) (rs : List ShR), Hid (i + gg = L) ∧ t2 = cv ∧ t3 = .int .i64 (i : Int) ∧ Hid (rs.length = i) ∧ Hid (Gx w 3 enSh rs cv wr) ∧ Hid (∀ (j : Nat) (s : Sh) (r : ShR), l[j]? = some s → rs[j]? = some r → r.fn = s.fn ∧ r.pc = s.pc))
  case atStart => exact ⟨0, _, [], by unfold Hid; omega, rfl, rfl, hide rfl, ⟨by simpa [flt] using Ro.nil w 3, Below.refl _ _, fun k e => by cases e⟩, hide (fun j s r _ h => by simp at h)⟩
  case round =>
    obtain ⟨i, cv, rs, hi, rfl, rfl, hrs, hG, hFP⟩ := hrel
    by_cases hlt : i < L
    case neg =>
      have hiL : i = L := by have := unhide hi; omega
      subst hiL
      have i1 : ¬ (i : Int) < (i : Int) := by omega
      go_wp2_with fail
      go_ret
      exact ⟨_, rfl, rs, unhide hG, unhide hrs, unhide hFP⟩
    obtain ⟨s, hs⟩ : ∃ o, l[i]? = some o := ⟨_, List.getElem?_eq_getElem (by rw [unhide hL]; exact hlt)⟩
    obtain ⟨b, off, cap, sa, sc, e, hb, _, hp3, hs1, hs2, hcl⟩ := (unhide HA).at hs
    rw [unhide hL] at e
    cases e
    obtain ⟨k0, k1, k2⟩ := hcl wr ((unhide hG).2.1.block b hb)
    have hb' := Nat.lt_of_lt_of_le hb (unhide hG).2.1.size
    have i0 : (0 : Int) ≤ (i : Int) := by omega
    have i1 : (i : Int) < (L : Int) := by omega
    have HO := hide hs
    have hsl := unhide HM s (List.mem_of_getElem? hs)
    have HLB : Hid (rs.length ≤ 1099511627776) := by rw [unhide hrs]; unfold Hid; omega
    obtain ⟨N, hN'⟩ : ∃ N, Hid (s.sl.length = N) := ⟨_, hide rfl⟩
    have H0 := hide ((BX.nil wr).add #[.int .i64 s.fn, .int .i64 s.pc, .slice sa s.sl.length sc] 73)
    simp only [List.nil_append] at H0
    have HC := hide (copyOpnds_any (w := wr.alloc (.cells #[.int .i64 s.fn, .int .i64 s.pc, .slice sa s.sl.length sc] 73)) (OpV.mv.bel hp3 (bl_past (unhide hG).2.1 (unhide H0).b)) hsl)
    unfold maxLen at hs2
    rw [unhide hN'] at k2 H0 HC hs1
    obtain ⟨k3, k4, k5⟩ := hcl _ (((unhide H0).b.block b hb').trans ((unhide hG).2.1.block b hb))
    rw [unhide hN'] at k5
    obtain ⟨Y, eY⟩ : ∃ Y, wr.alloc (.cells #[.int .i64 s.fn, .int .i64 s.pc, .slice sa N sc] 73) = Y := ⟨_, rfl⟩
    rw [eY] at H0 HC k3 k4 k5
    have yl : b < Y.heap.size := Nat.lt_of_lt_of_le hb' (unhide H0).b.size
    have HNH := hide hsl
    clear hs hp3 hcl hsl
    go_wp2_with fail
    refine (unhide HC).mono ?_
    rintro e w2 ⟨u, rfl, hu⟩
    obtain ⟨ua, uc, eu, hu1, hu2⟩ := hu.1.shape
    subst eu
    rw [unhide hN'] at hu1 ⊢
    unfold maxLen at hu2
    have H2 := hide ((unhide H0).go hu.2.1)
    have z0 := (unhide H2).ce 0 rfl 0
    have z1 := (unhide H2).ce 0 rfl 1
    have z2 := (unhide H2).ce 0 rfl 2
    have zl := (unhide H2).lt (i := 0) rfl
    have zf := (blk_cells ((unhide H2).h 0 _ rfl)).2.1 2
    simp at z0 z1 z2 zl zf
    clear hu HC k0 k1 k2 k3 k4 k5 yl eY
    go_wp2_with (first | (at_builtin; refine appSh rfl _ _ rfl _ rs rfl (((unhide hG).on (by repeat (first | refine bl_past ?_ (box1n _ _) | refine Below.setCell ?_ (by first | (simp; done) | (simp; omega)) _ | with_reducible exact (unhide H2).b))).1) ⟨w2.heap.size, 0, none⟩ 1 ⟨s.fn, s.pc, .slice ua N uc⟩ rfl (new_cellsB _ _ _ (by simp)) rfl (unhide HLB) ?_))
    intro v' w' hr hg hat
    have HG2 := hide ((((unhide hG).on (by repeat (first | refine bl_past ?_ (box1n _ _) | refine Below.setCell ?_ (by first | (simp; done) | (simp; omega)) _ | with_reducible exact (unhide H2).b))).push hr (by simp) hg (by simpa using hat)))
    have HFP2 : Hid (∀ (j : Nat) (q : Sh) (r : ShR), l[j]? = some q → (rs ++ [⟨s.fn, s.pc, .slice ua N uc⟩])[j]? = some r → r.fn = q.fn ∧ r.pc = q.pc) := fun j q r hq hr => by
      by_cases c : j < rs.length
      · rw [List.getElem?_append_left c] at hr
        exact unhide hFP j q r hq hr
      · rw [List.getElem?_append_right (by omega)] at hr
        have hj : j - rs.length = 0 := by have := (List.getElem?_eq_some_iff.1 hr).1; simp at this; omega
        have hj2 : j = i := by have := unhide hrs; omega
        rw [hj] at hr
        rw [hj2, unhide HO] at hq
        cases hr
        cases hq
        exact ⟨rfl, rfl⟩
    clear hr hg hat HLB z0 z1 z2 zl zf
    go_wp2_with fail
    go_roundg (gk - 1)
    case measure => have := unhide hi; omega
    case rel => exact ⟨i + 1, v', _, by have := unhide hi; unfold Hid; omega, rfl, by go_num, by have := unhide hrs; unfold Hid; simp; omega, HG2, HFP2⟩

set_option linter.unusedVariables false
set_option linter.unusedSimpArgs false
/-- What CopyIns answers: shapes in a row of one's own. -/
structure CiP (w : World) (x : RIn) (u v : Value) (rs : List ShR) (w' : World) : Prop where
  a : ∃ a c, u = .slice a x.args.length c ∧ x.args.length ≤ c ∧ c ≤ maxLen
  g : Gx w 3 enSh rs v w'
  len : rs.length = x.ex.length
  fp : ∀ (j : Nat) (s : Sh) (r : ShR), x.ex[j]? = some s → rs[j]? = some r → r.fn = s.fn ∧ r.pc = s.pc
set_option maxRecDepth 100000 in
set_option maxHeartbeats 12800000 in
theorem copyIns_any {w : World} {D : Nat → Prop} {x : RIn} {q : InR} (h : InP D w x q) (hA : x.args.length ≤ 1073741824) (hE : x.ex.length ≤ 1073741824) (hS : ∀ s ∈ x.ex, s.sl.length ≤ 1073741824) :
    Calls Tryd.prog 50 #[inV q] w fun e w' => ∃ (u v : Value) (rs : List ShR), e = .returned (inV ⟨x.op, x.code, x.dst, u, x.n, x.pc, x.need, v⟩) ∧ CiP w x u v rs w' := by
  obtain ⟨rop, rcode, rdst, rav, rn, rpc, rneed, rev⟩ := q
  obtain ⟨h1, h2, h3, h4, h5, h6, h7, h8⟩ := h
  simp only at h1 h2 h3 h4 h5 h6 h7 h8
  have HC1 : Hid (∀ W, Below w.heap.size w W → Calls Tryd.prog 69 #[rav] W fun e w' => ∃ v, e = .returned v ∧ Gx W 2 enO x.args v w') := fun W hW => copyOpnds_any (OpV.mv.bel h7 hW) hA
  have HC2 : Hid (∀ W, Below w.heap.size w W → Calls Tryd.prog 70 #[rev] W fun e w' => ∃ (v : Value) (rs : List ShR), e = .returned v ∧ Gx W 3 enSh rs v w' ∧ rs.length = x.ex.length ∧ ∀ (j : Nat) (s : Sh) (r : ShR), x.ex[j]? = some s → rs[j]? = some r → r.fn = s.fn ∧ r.pc = s.pc) := fun W hW => copyShapes_any (ShsV.mv.bel h8 hW) hE hS
  obtain ⟨aa, ac, ea1, hva1, hva2⟩ := h7.1.shape
  obtain ⟨ea, ec, ee1, hve1, hve2⟩ := NV.shape h8
  subst ea1 ee1 h1 h2 h3 h4 h5 h6
  obtain ⟨AL, hAL⟩ : ∃ z, Hid (x.args.length = z) := ⟨_, hide rfl⟩
  obtain ⟨EL, hEL⟩ : ∃ z, Hid (x.ex.length = z) := ⟨_, hide rfl⟩
  unfold inV
  dsimp only
  rw [unhide hAL] at HC1 hva1 ⊢
  rw [unhide hEL] at HC2 hve1 ⊢
  unfold maxLen at hva2 hve2
  have B3 := BX.three w #[.int .i64 x.op, .int .i64 x.code, .int .i64 x.dst, .slice aa AL ac, .int .i64 x.n, .int .i64 x.pc, .int .i64 x.need, .slice ea EL ec] #[.int .i64 0, .int .i64 0, .int .i64 0, .slice none 0 0, .int .i64 0, .int .i64 0, .int .i64 0, .slice none 0 0] #[.int .i64 x.op, .int .i64 x.code, .int .i64 x.dst, .slice aa AL ac, .int .i64 x.n, .int .i64 x.pc, .int .i64 x.need, .slice ea EL ec] 51 51 51
  obtain ⟨Y, eY⟩ : ∃ Y, (((w.alloc (.cells #[.int .i64 x.op, .int .i64 x.code, .int .i64 x.dst, .slice aa AL ac, .int .i64 x.n, .int .i64 x.pc, .int .i64 x.need, .slice ea EL ec] 51)).alloc (.cells #[.int .i64 0, .int .i64 0, .int .i64 0, .slice none 0 0, .int .i64 0, .int .i64 0, .int .i64 0, .slice none 0 0] 51)).alloc (.cells #[.int .i64 x.op, .int .i64 x.code, .int .i64 x.dst, .slice aa AL ac, .int .i64 x.n, .int .i64 x.pc, .int .i64 x.need, .slice ea EL ec] 51)) = Y := ⟨_, rfl⟩
  rw [eY] at B3
  have HB := hide B3
  have c3 := B3.ce 0 rfl 3
  have cl := B3.lt (i := 0) rfl
  simp at c3 cl
  have HCA := hide (unhide HC1 Y B3.b)
  clear B3 HC1 h7 h8
  go_enter Tryd.func50, Tryd.ntmps50
  go_wp2_with fail
  refine (unhide HCA).mono ?_
  rintro e w2 ⟨u, rfl, hu⟩
  obtain ⟨ua, uc, eu, hu1, hu2⟩ := hu.1.shape
  subst eu
  have H2 := hide ((unhide HB).go hu.2.1)
  have HU : Hid (x.args.length ≤ uc ∧ uc ≤ maxLen) := ⟨hu1, hu2⟩
  rw [unhide hAL] at hu1 ⊢
  obtain ⟨P, hP⟩ : ∃ P, Hid (w.heap.size + 1 + 1 = P) := ⟨_, hide rfl⟩
  have hPP := unhide hP
  have HF : Hid (Fr (fun k => k = P) w2 (w2.setCell ⟨P, 3, none⟩ (.slice ua AL uc))) := hide (Fr.setCell (S := fun k => k = P) (Fr.refl _ w2) ⟨P, 3, none⟩ (.inr rfl) _)
  have HBOX := setCell_block (g := P) (o := 3) (by have := (unhide H2).h 2 _ rfl; rw [unhide hP] at this; exact this) (.slice ua AL uc)
  simp at HBOX
  have d7 := (unhide H2).ce 0 rfl 7
  have dl := (unhide H2).lt (i := 0) rfl
  have dp := (unhide H2).lt (i := 2) rfl
  have df := (blk_cells ((unhide H2).h 2 _ rfl)).2.1 3
  have d3 := (unhide H2).ce 2 rfl 3
  simp at d7 dl dp df d3
  rw [unhide hP] at dp df d3
  have HBE : Hid (Below w.heap.size w (w2.setCell ⟨P, 3, none⟩ (.slice ua AL uc))) := hide ((unhide H2).b.setCell (p := ⟨P, 3, none⟩) (by show w.heap.size ≤ P; omega) _)
  have HC2A := hide (unhide HC2 _ (unhide HBE))
  have HZ := hide ((unhide H2).h 1 _ rfl)
  rw [hPP]
  clear hu HCA HC2 eY c3 cl
  have HHB := hide HBOX
  have HF2 : Hid (∀ j v, (w2.setCell ⟨P, 3, none⟩ (.slice ua AL uc)).cell? ⟨w.heap.size, j, none⟩ = some v ↔ w2.cell? ⟨w.heap.size, j, none⟩ = some v) := fun j v => by
    rw [(unhide HF).cell (a := ⟨w.heap.size, j, none⟩) dl (fun q => by have q' : w.heap.size = P := q; omega)]
  clear HBOX
  go_wp2_with fail
  refine (unhide HC2A).mono ?_
  rintro e w4 ⟨v, rs, rfl, hv, hlen, hfp⟩
  obtain ⟨va, vc, ev, hv1, hv2⟩ := hv.1.shape
  rw [hlen] at ev
  subst ev
  have hb4 := hv.2.1
  have HB4 := (hb4.block P (by simpa using dp)).trans (unhide HHB)
  have HZ4 := (hb4.block (w.heap.size + 1) (by have := (unhide H2).lt (i := 1) rfl; simpa using this)).trans (((unhide HF).block (w.heap.size + 1) (by have := (unhide H2).lt (i := 1) rfl; simpa using this) (by omega)).trans (unhide HZ))
  obtain ⟨p1, p2, p3⟩ := blk_cells HB4
  obtain ⟨q1, q2, q3⟩ := blk_cells HZ4
  have y0 := p1 0
  have y1 := p1 1
  have y2 := p1 2
  have y3 := p1 3
  have y4 := p1 4
  have y5 := p1 5
  have y6 := p1 6
  have y7 := p1 7
  have f7 := p2 7
  have z0 := q1 0
  have z1 := q1 1
  have z2 := q1 2
  have z3 := q1 3
  have z4 := q1 4
  have z5 := q1 5
  have z6 := q1 6
  have z7 := q1 7
  have g0 := q2 0
  have g1 := q2 1
  have g2 := q2 2
  have g3 := q2 3
  have g4 := q2 4
  have g5 := q2 5
  have g6 := q2 6
  have g7 := q2 7
  simp at y0 y1 y2 y3 y4 y5 y6 y7 z0 z1 z2 z3 z4 z5 z6 z7
  have hpn : ¬ P = w.heap.size + 1 := by omega
  have hpm : ¬ w.heap.size + 1 = P := by omega
  have HP : Hid (∀ W, Fr (fun k => w.heap.size ≤ k ∧ k < w2.heap.size) w4 W → ∃ (u v : Value) (rs : List ShR), Ending.returned (.agg #[.int .i64 x.op, .int .i64 x.code, .int .i64 x.dst, .slice ua AL uc, .int .i64 x.n, .int .i64 x.pc, .int .i64 x.need, .slice va EL vc]) = .returned (.agg #[.int .i64 x.op, .int .i64 x.code, .int .i64 x.dst, u, .int .i64 x.n, .int .i64 x.pc, .int .i64 x.need, v]) ∧ CiP w x u v rs W) := fun W hW => by
    refine ⟨_, _, rs, rfl, ⟨ua, uc, by rw [unhide hAL], unhide HU⟩, ⟨?_, ?_, ?_⟩, by rw [unhide hEL]; exact hlen, hfp⟩
    · have hr := hv.1
      rw [hlen] at hr ⊢
      exact hr.fr hW (fun k hk e => by have := hv.2.2 k hk; simp at this; omega)
    · exact (bl_past (unhide HBE) hb4).trans (hW.below (bl_past (unhide HBE) hb4).size (fun k hk e => by omega))
    · intro k hk
      have := hv.2.2 k hk
      have := (unhide HBE).size
      omega
  unfold maxLen at hv2
  clear hv hlen hfp hb4 HB4 HZ4 p1 p2 q1 q2 HC2A HF2 d7 dl df
  go_wp2_with fail
  refine bodyPost_ret (v := .agg #[.int .i64 x.op, .int .i64 x.code, .int .i64 x.dst, .slice ua AL uc, .int .i64 x.n, .int .i64 x.pc, .int .i64 x.need, .slice va EL vc]) ?_ rfl ?_
  · rw [results_cell_one rfl]
    go_simp
  · refine unhide HP _ ?_
    have hwp : w.heap.size ≤ P ∧ P < w2.heap.size := ⟨by omega, by omega⟩
    have hwz : w.heap.size ≤ w.heap.size + 1 ∧ w.heap.size + 1 < w2.heap.size := ⟨by omega, by omega⟩
    repeat (first | with_reducible exact Fr.refl _ _ | with_reducible refine Fr.setCell ?_ ⟨_, _, none⟩ (.inr hwp) _ | with_reducible refine Fr.setCell ?_ ⟨_, _, none⟩ (.inr hwz) _)

set_option linter.unusedVariables false
set_option linter.unusedSimpArgs false
def ShPo (w : World) (s : Sh) (r : ShR) : Prop := r.fn = s.fn ∧ r.pc = s.pc ∧ Ro w 2 r.v s.sl.length (flt enO s.sl)
def blS (r : ShR) (k : Nat) : Prop := r.v.ownBlock = some k
theorem staySh : Stays ShPo blS := fun Q w w' s r h f hk => ⟨h.1, h.2.1, h.2.2.fr f hk⟩
set_option maxRecDepth 100000 in
set_option maxHeartbeats 12800000 in
theorem copyShO_any {w : World} {D : Nat → Prop} {lv : Value} {l : List Sh} (hl : ShsV D w l lv) (hN : l.length ≤ 1073741824) (hM : ∀ s ∈ l, s.sl.length ≤ 1073741824) :
    Calls Tryd.prog 70 #[lv] w fun e w' => ∃ (v : Value) (rs : List ShR), e = .returned v ∧ Below w.heap.size w w' ∧ OW enSh 3 ShPo blS (fun k => w.heap.size ≤ k) w' v l rs := by
  obtain ⟨a, acap, rfl, ha1, ha2⟩ := NV.shape hl
  have HA := hide hl
  have HM := hide hM
  unfold maxLen at ha2
  clear hl hM
  obtain ⟨L, hL⟩ : ∃ L, Hid (l.length = L) := ⟨_, hide rfl⟩
  rw [unhide hL] at ha1 hN ⊢
  go_enter Tryd.func70, Tryd.ntmps70
  go_wp2_with fail
  go_loopg [3, 4] L (fun gg t2 t3 wr => ∃ (i : Nat) (cv : Value) (rs : List ShR), Hid (i + gg = L) ∧ t2 = cv ∧ t3 = .int .i64 (i : Int) ∧ Hid (rs.length = i) ∧ Hid (Below w.heap.size w wr ∧ OW enSh 3 ShPo blS (fun k => w.heap.size ≤ k) wr cv (l.take i) rs))
  case atStart => exact ⟨0, _, [], by unfold Hid; omega, rfl, rfl, hide rfl, hide ⟨Below.refl _ _, by simpa using OW.nil w⟩⟩
  case round =>
    obtain ⟨i, cv, rs, hi, rfl, rfl, hrs, hG⟩ := hrel
    by_cases hlt : i < L
    case neg =>
      have hiL : i = L := by have := unhide hi; omega
      subst hiL
      have i1 : ¬ (i : Int) < (i : Int) := by omega
      have hq := (unhide hG).2
      rw [List.take_of_length_le (by rw [unhide hL]; exact Nat.le_refl _)] at hq
      have HQ := hide hq
      clear hq
      go_wp2_with fail
      go_ret
      exact ⟨_, rfl, (unhide hG).1, rs, unhide HQ⟩
    obtain ⟨s, hs⟩ : ∃ o, l[i]? = some o := ⟨_, List.getElem?_eq_getElem (by rw [unhide hL]; exact hlt)⟩
    obtain ⟨b, off, cap, sa, sc, e, hb, _, hp3, hs1, hs2, hcl⟩ := (unhide HA).at hs
    rw [unhide hL] at e
    cases e
    obtain ⟨k0, k1, k2⟩ := hcl wr ((unhide hG).1.block b hb)
    have hb' := Nat.lt_of_lt_of_le hb (unhide hG).1.size
    have i0 : (0 : Int) ≤ (i : Int) := by omega
    have i1 : (i : Int) < (L : Int) := by omega
    have HO := hide hs
    have hsl := unhide HM s (List.mem_of_getElem? hs)
    have HLB : Hid (rs.length ≤ 1099511627776) := by rw [unhide hrs]; unfold Hid; omega
    obtain ⟨N, hN'⟩ : ∃ N, Hid (s.sl.length = N) := ⟨_, hide rfl⟩
    have H0 := hide ((BX.nil wr).add #[.int .i64 s.fn, .int .i64 s.pc, .slice sa s.sl.length sc] 73)
    simp only [List.nil_append] at H0
    have HC := hide (copyOpnds_any (w := wr.alloc (.cells #[.int .i64 s.fn, .int .i64 s.pc, .slice sa s.sl.length sc] 73)) (OpV.mv.bel hp3 (bl_past (unhide hG).1 (unhide H0).b)) hsl)
    unfold maxLen at hs2
    rw [unhide hN'] at k2 H0 HC hs1
    obtain ⟨k3, k4, k5⟩ := hcl _ (((unhide H0).b.block b hb').trans ((unhide hG).1.block b hb))
    rw [unhide hN'] at k5
    obtain ⟨Y, eY⟩ : ∃ Y, wr.alloc (.cells #[.int .i64 s.fn, .int .i64 s.pc, .slice sa N sc] 73) = Y := ⟨_, rfl⟩
    rw [eY] at H0 HC k3 k4 k5
    have yl : b < Y.heap.size := Nat.lt_of_lt_of_le hb' (unhide H0).b.size
    have HNH := hide hsl
    clear hs hp3 hcl hsl
    go_wp2_with fail
    refine (unhide HC).mono ?_
    rintro e w2 ⟨u, rfl, hu⟩
    obtain ⟨ua, uc, eu, hu1, hu2⟩ := hu.1.shape
    subst eu
    rw [unhide hN'] at hu1 ⊢
    unfold maxLen at hu2
    have H2 := hide ((unhide H0).go hu.2.1)
    have HUO : Hid (Ro w2 2 (.slice ua N uc) s.sl.length (flt enO s.sl) ∧ ∀ k, (Value.slice ua N uc).ownBlock = some k → wr.heap.size < k ∧ k < w2.heap.size) := by
      have h1 := hu.1
      have h2 := hu.2.2
      have hys : wr.heap.size < Y.heap.size := (unhide H0).lt (i := 0) rfl
      rw [unhide hN'] at h1 h2 ⊢
      exact ⟨h1, fun k hk => ⟨Nat.lt_of_lt_of_le hys (h2 k hk), h1.lt k hk⟩⟩
    have z0 := (unhide H2).ce 0 rfl 0
    have z1 := (unhide H2).ce 0 rfl 1
    have z2 := (unhide H2).ce 0 rfl 2
    have zl := (unhide H2).lt (i := 0) rfl
    have zf := (blk_cells ((unhide H2).h 0 _ rfl)).2.1 2
    simp at z0 z1 z2 zl zf
    clear hu HC k0 k1 k2 k3 k4 k5 yl eY
    have HRL : Hid ((l.take i).length = rs.length) := (unhide hG).2.len.symm
    go_wp2_with (first | (at_builtin; refine appSh rfl _ _ rfl _ rs rfl (Ro.fr (by have q := (unhide hG).2.row; rw [unhide HRL] at q; exact q) (Fr.of_below (S := fun _ => False) (by repeat (first | refine bl_past ?_ (box1n _ _) | refine Below.setCell ?_ (by first | (simp; done) | (simp; omega)) _ | with_reducible exact (unhide H2).b))) (fun _ _ e => e)) ⟨w2.heap.size, 0, none⟩ 1 ⟨s.fn, s.pc, .slice ua N uc⟩ rfl (new_cellsB _ _ _ (by simp)) rfl (unhide HLB) ?_))
    intro v' w' hr hg hat
    have HG2 : Hid (Below w.heap.size w w' ∧ OW enSh 3 ShPo blS (fun k => w.heap.size ≤ k) w' v' (l.take (i + 1)) (rs ++ [⟨s.fn, s.pc, .slice ua N uc⟩])) := by
      have hws := (unhide hG).1.size
      obtain ⟨o1, o2⟩ := OW.push staySh (unhide hG).2 (u := s) (x := ⟨s.fn, s.pc, .slice ua N uc⟩) (by repeat (first | refine bl_past ?_ (box1n _ _) | refine Below.setCell ?_ (by first | (simp; done) | (simp; omega)) _ | with_reducible exact (unhide H2).b)) ⟨rfl, rfl, Ro.fr (unhide HUO).1 (S := fun q => q = wr.heap.size) (by repeat (first | with_reducible refine Fr.alloc ?_ _ | refine Fr.setCell (S := fun q => q = wr.heap.size) ?_ ⟨wr.heap.size, 2, none⟩ (.inr rfl) _ | with_reducible exact Fr.refl _ _)) (fun k hk e => by have := ((unhide HUO).2 k hk).1; omega)⟩ (fun k hk => by have hk2 : (Value.slice ua N uc).ownBlock = some k := hk; exact ⟨Nat.le_of_lt ((unhide HUO).2 k hk2).1, by have := ((unhide HUO).2 k hk2).2; simp; omega⟩) (fun k hk => Nat.le_trans hws hk) hr (by rw [unhide HRL]) hg (by simpa using hat)
      refine ⟨(unhide hG).1.trans (o2.below hws (fun k hk e => by have := (unhide hG).2.rb k e; omega)), ?_⟩
      rw [take_push (unhide HO)]
      exact o1
    clear hr hg hat HLB z0 z1 z2 zl zf
    go_wp2_with fail
    go_roundg (gk - 1)
    case measure => have := unhide hi; omega
    case rel => exact ⟨i + 1, v', _, by have := unhide hi; unfold Hid; omega, rfl, by go_num, by have := unhide hrs; unfold Hid; simp; omega, HG2⟩

set_option linter.unusedVariables false
set_option linter.unusedSimpArgs false
def CiT (w : World) (x : RIn) (r : InR) (w' : World) : Prop := ∃ t : TI, t.1 = r ∧ Below w.heap.size w w' ∧ InT w' x t ∧ ∀ k, blT t k → w.heap.size ≤ k
theorem CiT.of {w wa wb W : World} {x : RIn} {u v : Value} {rs : List ShR} {P : Nat} {W0 : World} (hP : w.heap.size + 2 = P) (h0 : Below w.heap.size w wb) (hPw : P < wb.heap.size)
    (ha : Ro wa 2 u x.args.length (flt enO x.args)) (hu : ∀ k, u.ownBlock = some k → P < k ∧ k < wa.heap.size) (hf : Fr (fun k => k = P) wa wb) (f : Below wb.heap.size wb W0) (g : Fr (fun k => w.heap.size ≤ k ∧ k ≤ P) W0 W)
    (hv : OW enSh 3 ShPo blS (fun k => wb.heap.size ≤ k) W0 v x.ex rs) :
    CiT w x ⟨x.op, x.code, x.dst, u, x.n, x.pc, x.need, v⟩ W := by
  have s1 := hf.size
  have s2 := f.size
  have s3 := g.size
  have s0 := h0.size
  have hPb : ∀ k, u.ownBlock = some k → k < wb.heap.size := fun k hk => by have := (hu k hk).2; omega
  have e1 : ∀ k, v.ownBlock = some k → wb.heap.size ≤ k := fun k hk => hv.rb k hk
  have e2 : ∀ r ∈ rs, ∀ k, r.v.ownBlock = some k → wb.heap.size ≤ k ∧ k < W0.heap.size ∧ v.ownBlock ≠ some k := fun r hr k hk => by
    obtain ⟨j, hj, rfl⟩ := List.getElem_of_mem hr
    exact hv.eb j _ k (List.getElem?_eq_getElem hj) hk
  refine ⟨(⟨x.op, x.code, x.dst, u, x.n, x.pc, x.need, v⟩, rs), rfl, (bl_past h0 f).trans (g.below (bl_past h0 f).size (fun k hk e => by omega)), ⟨⟨rfl, rfl, rfl, rfl, rfl, rfl⟩, ?_, hv.len, ?_, fun j s r hs hr => ?_, fun k hk q => ?_, fun r k hr hk => ⟨fun q => ?_, (e2 r hr k hk).2.2⟩, fun i j r q k hij hr hq hk => hv.ap i j r q k hij hr hq hk⟩, fun k hk => ?_⟩
  · exact ((ha.fr hf (fun k hk e => by have := (hu k hk).1; have e' : k = P := e; omega)).fr (Fr.of_below (S := fun _ => False) f) (fun _ _ e => e)).fr g (fun k hk e => by have := (hu k hk).1; omega)
  · have h := hv.row
    rw [← hv.len]
    rw [← hv.len] at h
    exact h.fr g (fun k hk e => by have := e1 k hk; omega)
  · obtain ⟨a1, a2, a3⟩ := hv.el j s r hs hr
    exact ⟨a1, a2, a3.fr g (fun k hk e => by have := (e2 r (List.mem_of_getElem? hr) k hk).1; omega)⟩
  · have := hPb k hk; have := e1 k q; omega
  · have := hPb k q; have := (e2 r hr k hk).1; omega
  · rcases hk with q | q | ⟨r, hr, q⟩
    · have := (hu k q).1; omega
    · have := e1 k q; omega
    · have := (e2 r hr k q).1; omega
set_option maxRecDepth 100000 in
set_option maxHeartbeats 12800000 in
theorem copyInT_any {w : World} {D : Nat → Prop} {x : RIn} {q : InR} (h : InP D w x q) (hA : x.args.length ≤ 1073741824) (hE : x.ex.length ≤ 1073741824) (hS : ∀ s ∈ x.ex, s.sl.length ≤ 1073741824) :
    Calls Tryd.prog 50 #[inV q] w fun e w' => ∃ r, e = .returned (inV r) ∧ CiT w x r w' := by
  obtain ⟨rop, rcode, rdst, rav, rn, rpc, rneed, rev⟩ := q
  obtain ⟨h1, h2, h3, h4, h5, h6, h7, h8⟩ := h
  simp only at h1 h2 h3 h4 h5 h6 h7 h8
  have HC1 : Hid (∀ W, Below w.heap.size w W → Calls Tryd.prog 69 #[rav] W fun e w' => ∃ v, e = .returned v ∧ Gx W 2 enO x.args v w') := fun W hW => copyOpnds_any (OpV.mv.bel h7 hW) hA
  have HC2 : Hid (∀ W, Below w.heap.size w W → Calls Tryd.prog 70 #[rev] W fun e w' => ∃ (v : Value) (rs : List ShR), e = .returned v ∧ Below W.heap.size W w' ∧ OW enSh 3 ShPo blS (fun k => W.heap.size ≤ k) w' v x.ex rs) := fun W hW => copyShO_any (ShsV.mv.bel h8 hW) hE hS
  obtain ⟨aa, ac, ea1, hva1, hva2⟩ := h7.1.shape
  obtain ⟨ea, ec, ee1, hve1, hve2⟩ := NV.shape h8
  subst ea1 ee1 h1 h2 h3 h4 h5 h6
  obtain ⟨AL, hAL⟩ : ∃ z, Hid (x.args.length = z) := ⟨_, hide rfl⟩
  obtain ⟨EL, hEL⟩ : ∃ z, Hid (x.ex.length = z) := ⟨_, hide rfl⟩
  unfold inV
  dsimp only
  rw [unhide hAL] at HC1 hva1 ⊢
  rw [unhide hEL] at HC2 hve1 ⊢
  unfold maxLen at hva2 hve2
  have B3 := BX.three w #[.int .i64 x.op, .int .i64 x.code, .int .i64 x.dst, .slice aa AL ac, .int .i64 x.n, .int .i64 x.pc, .int .i64 x.need, .slice ea EL ec] #[.int .i64 0, .int .i64 0, .int .i64 0, .slice none 0 0, .int .i64 0, .int .i64 0, .int .i64 0, .slice none 0 0] #[.int .i64 x.op, .int .i64 x.code, .int .i64 x.dst, .slice aa AL ac, .int .i64 x.n, .int .i64 x.pc, .int .i64 x.need, .slice ea EL ec] 51 51 51
  obtain ⟨Y, eY⟩ : ∃ Y, (((w.alloc (.cells #[.int .i64 x.op, .int .i64 x.code, .int .i64 x.dst, .slice aa AL ac, .int .i64 x.n, .int .i64 x.pc, .int .i64 x.need, .slice ea EL ec] 51)).alloc (.cells #[.int .i64 0, .int .i64 0, .int .i64 0, .slice none 0 0, .int .i64 0, .int .i64 0, .int .i64 0, .slice none 0 0] 51)).alloc (.cells #[.int .i64 x.op, .int .i64 x.code, .int .i64 x.dst, .slice aa AL ac, .int .i64 x.n, .int .i64 x.pc, .int .i64 x.need, .slice ea EL ec] 51)) = Y := ⟨_, rfl⟩
  rw [eY] at B3
  have HB := hide B3
  have c3 := B3.ce 0 rfl 3
  have cl := B3.lt (i := 0) rfl
  simp at c3 cl
  have HCA := hide (unhide HC1 Y B3.b)
  clear B3 HC1 h7 h8
  go_enter Tryd.func50, Tryd.ntmps50
  go_wp2_with fail
  refine (unhide HCA).mono ?_
  rintro e w2 ⟨u, rfl, hu⟩
  obtain ⟨ua, uc, eu, hu1, hu2⟩ := hu.1.shape
  subst eu
  have H2 := hide ((unhide HB).go hu.2.1)
  have hys := (unhide HB).lt (i := 2) rfl
  have HU : Hid (Ro w2 2 (.slice ua x.args.length uc) x.args.length (flt enO x.args) ∧ ∀ k, (Value.slice ua x.args.length uc).ownBlock = some k → w.heap.size + 1 + 1 < k ∧ k < w2.heap.size) := ⟨hu.1, fun k hk => ⟨Nat.lt_of_lt_of_le hys (hu.2.2 k hk), hu.1.lt k hk⟩⟩
  rw [unhide hAL] at hu1 ⊢
  obtain ⟨P, hP⟩ : ∃ P, Hid (w.heap.size + 1 + 1 = P) := ⟨_, hide rfl⟩
  have hPP := unhide hP
  have HF : Hid (Fr (fun k => k = P) w2 (w2.setCell ⟨P, 3, none⟩ (.slice ua AL uc))) := hide (Fr.setCell (S := fun k => k = P) (Fr.refl _ w2) ⟨P, 3, none⟩ (.inr rfl) _)
  have HBOX := setCell_block (g := P) (o := 3) (by have := (unhide H2).h 2 _ rfl; rw [unhide hP] at this; exact this) (.slice ua AL uc)
  simp at HBOX
  have d7 := (unhide H2).ce 0 rfl 7
  have dl := (unhide H2).lt (i := 0) rfl
  have dp := (unhide H2).lt (i := 2) rfl
  have df := (blk_cells ((unhide H2).h 2 _ rfl)).2.1 3
  have d3 := (unhide H2).ce 2 rfl 3
  simp at d7 dl dp df d3
  rw [unhide hP] at dp df d3
  have HBE : Hid (Below w.heap.size w (w2.setCell ⟨P, 3, none⟩ (.slice ua AL uc))) := hide ((unhide H2).b.setCell (p := ⟨P, 3, none⟩) (by show w.heap.size ≤ P; omega) _)
  have HC2A := hide (unhide HC2 _ (unhide HBE))
  have HZ := hide ((unhide H2).h 1 _ rfl)
  rw [hPP]
  clear hu HCA HC2 eY c3 cl
  have HHB := hide HBOX
  have HF2 : Hid (∀ j v, (w2.setCell ⟨P, 3, none⟩ (.slice ua AL uc)).cell? ⟨w.heap.size, j, none⟩ = some v ↔ w2.cell? ⟨w.heap.size, j, none⟩ = some v) := fun j v => by
    rw [(unhide HF).cell (a := ⟨w.heap.size, j, none⟩) dl (fun q => by have q' : w.heap.size = P := q; omega)]
  clear HBOX
  go_wp2_with fail
  refine (unhide HC2A).mono ?_
  rintro e w4 ⟨v, rs, rfl, hb4, hv⟩
  obtain ⟨va, vc, ev, hv1, hv2⟩ := hv.row.shape
  rw [unhide hEL] at ev
  subst ev
  have HB4 := (hb4.block P (by simpa using dp)).trans (unhide HHB)
  have HZ4 := (hb4.block (w.heap.size + 1) (by have := (unhide H2).lt (i := 1) rfl; simpa using this)).trans (((unhide HF).block (w.heap.size + 1) (by have := (unhide H2).lt (i := 1) rfl; simpa using this) (by omega)).trans (unhide HZ))
  obtain ⟨p1, p2, p3⟩ := blk_cells HB4
  obtain ⟨q1, q2, q3⟩ := blk_cells HZ4
  have y0 := p1 0
  have y1 := p1 1
  have y2 := p1 2
  have y3 := p1 3
  have y4 := p1 4
  have y5 := p1 5
  have y6 := p1 6
  have y7 := p1 7
  have f7 := p2 7
  have z0 := q1 0
  have z1 := q1 1
  have z2 := q1 2
  have z3 := q1 3
  have z4 := q1 4
  have z5 := q1 5
  have z6 := q1 6
  have z7 := q1 7
  have g0 := q2 0
  have g1 := q2 1
  have g2 := q2 2
  have g3 := q2 3
  have g4 := q2 4
  have g5 := q2 5
  have g6 := q2 6
  have g7 := q2 7
  simp at y0 y1 y2 y3 y4 y5 y6 y7 z0 z1 z2 z3 z4 z5 z6 z7
  have hpn : ¬ P = w.heap.size + 1 := by omega
  have hpm : ¬ w.heap.size + 1 = P := by omega
  have HP : Hid (∀ W, Fr (fun k => w.heap.size ≤ k ∧ k ≤ P) w4 W → ∃ r, Ending.returned (.agg #[.int .i64 x.op, .int .i64 x.code, .int .i64 x.dst, .slice ua AL uc, .int .i64 x.n, .int .i64 x.pc, .int .i64 x.need, .slice va EL vc]) = .returned (inV r) ∧ CiT w x r W) := fun W hW => by
    obtain ⟨u1, u2⟩ := unhide HU
    rw [unhide hAL] at u2
    exact ⟨_, rfl, CiT.of (wa := w2) (wb := w2.setCell ⟨P, 3, none⟩ (.slice ua AL uc)) (W0 := w4) (by omega) (unhide HBE) (by simpa using dp) (by rw [unhide hAL] at u1 ⊢; exact u1) (fun k hk => by have := u2 k hk; omega) (unhide HF) hb4 hW (by rw [← unhide hEL] at hv ⊢; exact hv)⟩
  unfold maxLen at hv2
  clear hv hb4 HB4 HZ4 p1 p2 q1 q2 HC2A HF2 d7 dl df
  go_wp2_with fail
  refine bodyPost_ret (v := .agg #[.int .i64 x.op, .int .i64 x.code, .int .i64 x.dst, .slice ua AL uc, .int .i64 x.n, .int .i64 x.pc, .int .i64 x.need, .slice va EL vc]) ?_ rfl ?_
  · rw [results_cell_one rfl]
    go_simp
  · refine unhide HP _ ?_
    have hwp : w.heap.size ≤ P ∧ P ≤ P := ⟨by omega, by omega⟩
    have hwz : w.heap.size ≤ w.heap.size + 1 ∧ w.heap.size + 1 ≤ P := ⟨by omega, by omega⟩
    repeat (first | with_reducible exact Fr.refl _ _ | with_reducible refine Fr.setCell ?_ ⟨_, _, none⟩ (.inr hwp) _ | with_reducible refine Fr.setCell ?_ ⟨_, _, none⟩ (.inr hwz) _)

set_option linter.unusedVariables false
set_option linter.unusedSimpArgs false

theorem Fr.trx {S S' : Nat → Prop} {a b c : World} (h : Fr S a b) (k : Fr S' b c) (hs : ∀ i, i < a.heap.size → S' i → S i) : Fr S a c :=
  ⟨k.os.trans h.os, k.tape.trans h.tape, k.output.trans h.output, Nat.le_trans h.size k.size, fun i hi hn => (k.block i (Nat.lt_of_lt_of_le hi h.size) (fun e => hn (hs i hi e))).trans (h.block i hi hn)⟩
theorem InT.lt {w : World} {u : RIn} {t : TI} (h : InT w u t) {k : Nat} (hk : blT t k) : k < w.heap.size := by
  rcases hk with q | q | ⟨r, hr, q⟩
  · exact h.a.lt k q
  · exact h.e.lt k q
  · obtain ⟨j, hj, rfl⟩ := List.getElem_of_mem hr
    have hl := h.len
    have hs := h.s j _ _ (List.getElem?_eq_getElem (by omega)) (List.getElem?_eq_getElem hj)
    exact hs.2.2.lt k q
theorem fltB1 (ts : List TB) : flt enBk (ts.map Prod.fst) = flt enTB ts := by simp only [flt, List.flatMap_map]; rfl
structure CR (w : World) (fn regs : Int) (v : Value) (bl : List Bk) (cv : Value) (Ts : List TB) (wr : World) : Prop where
  bw : Below w.heap.size w wr
  sz : w.heap.size + 3 ≤ wr.heap.size
  bc : wr.heap[w.heap.size]? = some (.cells #[.int .i64 fn, .int .i64 regs, v] 24)
  br : wr.heap[w.heap.size + 1]? = some (.cells #[.int .i64 0, .int .i64 0, .slice none 0 0] 24)
  bd : wr.heap[w.heap.size + 2]? = some (.cells #[.int .i64 fn, .int .i64 regs, cv] 24)
  ow : OW enTB 3 (PB (w.heap.size + 2)) blB (fun k => w.heap.size + 2 < k) wr cv bl Ts
section
variable {w wr V W w1 Wa W2 : World} {fn regs pc : Int} {v cv nv iv v' : Value} {bl : List Bk} {Ts : List TB} {g m : Nat} {nx : List Int} {l : List RIn} {ts : List TI}
theorem CR.on (h : CR w fn regs v bl cv Ts wr) (b : Below wr.heap.size wr W) : CR w fn regs v bl cv Ts W := by
  have hs := h.sz
  have hb := b.size
  exact ⟨bl_past h.bw b, by omega, (b.block _ (by omega)).trans h.bc, (b.block _ (by omega)).trans h.br, (b.block _ (by omega)).trans h.bd, h.ow.below (stayB _) b⟩
structure CQ (w : World) (fn regs : Int) (v : Value) (bl : List Bk) (cv : Value) (Ts : List TB) (wr : World) (g : Nat) (pc : Int) (nv : Value) (nx : List Int) (V : World) (l : List RIn) (iv : Value) (ts : List TI) (W : World) : Prop where
  cr : CR w fn regs v bl cv Ts wr
  bV : Below wr.heap.size wr V
  gw : wr.heap.size ≤ g ∧ g < V.heap.size
  nx : Ro V 1 nv nx.length (flt enI nx)
  nb : ∀ k, nv.ownBlock = some k → wr.heap.size ≤ k ∧ k < V.heap.size ∧ k ≠ g
  fr : Fr (fun k => k = g) V W
  bg : W.heap[g]? = some (.cells #[.int .i64 pc, iv, nv] 47)
  ow : OW enT 8 InT blT (fun k => V.heap.size ≤ k) W iv l ts
theorem CQ.bel (h : CQ w fn regs v bl cv Ts wr g pc nv nx V l iv ts W) : Below wr.heap.size wr W :=
  h.bV.trans (h.fr.below h.bV.size (fun k hk e => by have := h.gw; omega))
theorem CQ.on (h : CQ w fn regs v bl cv Ts wr g pc nv nx V l iv ts W) (b : Below W.heap.size W W2) : CQ w fn regs v bl cv Ts wr g pc nv nx V l iv ts W2 := by
  have hs := h.fr.size
  have hg := h.gw
  exact ⟨h.cr, h.bV, h.gw, h.nx, h.nb, h.fr.trx (Fr.of_below (S := fun _ => False) b) (fun _ _ e => e.elim), (b.block g (by omega)).trans h.bg, h.ow.below stayT b⟩
theorem CQ.step (h : CQ w fn regs v bl cv Ts wr g pc nv nx V l iv ts W) {x : RIn} {r : InR} (hc : CiT W x r w1) (ha : Below w1.heap.size w1 Wa) (hr : Ro W2 8 v' m (flt enIn (ts.map Prod.fst) ++ enIn r)) (hm : m = ts.length + 1) (hg : Wa.grownBy W2 iv.ownBlock) (hat : v'.ownBlock = iv.ownBlock ∨ v'.ownBlock = some Wa.heap.size) :
    ∃ ts', CQ w fn regs v bl cv Ts wr g pc nv nx V (l ++ [x]) v' ts' (W2.setCell ⟨g, 1, none⟩ v') := by
  obtain ⟨t, rfl, hb, hI, hbl⟩ := hc
  have s1 := h.fr.size
  have s2 := hb.size
  have s3 := ha.size
  have hgw := h.gw
  have hiv : ∀ k, iv.ownBlock = some k → V.heap.size ≤ k := h.ow.rb
  have hivl : ∀ k, iv.ownBlock = some k → k < W.heap.size := fun k hk => h.ow.row.lt k hk
  rw [fltT] at hr
  obtain ⟨o1, o2⟩ := OW.push' stayT (h.ow.below stayT hb) hI (fun k hk => ⟨by have q := hbl k hk; show V.heap.size ≤ k; omega, hI.lt hk, fun e => by have q := hbl k hk; have := hivl k e; omega⟩) (fun k hk y hy e => by have q := hbl k hk; have := (h.ow.in (.inr ⟨y, hy, e⟩)).2; omega) ha (by show V.heap.size ≤ Wa.heap.size; omega) hr (by rw [hm, h.ow.len]) hg hat
  have s4 := o2.size
  refine ⟨ts ++ [t], h.cr, h.bV, h.gw, h.nx, h.nb, ?_, ?_, ?_⟩
  · exact (((h.fr.trx (Fr.of_below (S := fun _ => False) hb) (fun _ _ e => e.elim)).trx o2 (fun i hi e => by have e' : iv.ownBlock = some i := e; have := hiv i e'; omega))).setCell ⟨g, 1, none⟩ (.inr rfl) _
  · have q : W2.heap[g]? = some (.cells #[.int .i64 pc, iv, nv] 47) := (o2.block g (by omega) (fun e => by have e' : iv.ownBlock = some g := e; have := hiv g e'; omega)).trans ((hb.block g (by omega)).trans h.bg)
    have q2 := setCell_block (o := 1) q v'
    simpa using q2
  · exact o1.fr stayT (Fr.setCell (S := fun k => k = g) (Fr.refl _ W2) ⟨g, 1, none⟩ (.inr rfl) _) (fun k hk hi e => by have := (o1.in hi).1; have e' : k = g := e; omega)
theorem CQ.done {u : Bk} (h : CQ w fn regs v bl cv Ts wr g u.pc nv u.nx V u.ins iv ts W) (ha : Below W.heap.size W Wa) (hr : Ro W2 3 v' m (flt enBk (Ts.map Prod.fst) ++ enBk ⟨u.pc, iv, nv⟩)) (hm : m = Ts.length + 1) (hg : Wa.grownBy W2 cv.ownBlock) (hat : v'.ownBlock = cv.ownBlock ∨ v'.ownBlock = some Wa.heap.size) :
    ∃ Ts', CR w fn regs v (bl ++ [u]) v' Ts' (W2.setCell ⟨w.heap.size + 2, 2, none⟩ v') := by
  have hW := h.bel
  have c := h.cr.on hW
  have s0 := h.cr.sz
  have s1 := h.fr.size
  have s2 := h.bV.size
  have s3 := ha.size
  have hgw := h.gw
  have hcv : ∀ k, cv.ownBlock = some k → w.heap.size + 2 < k ∧ k < wr.heap.size := fun k hk => ⟨h.cr.ow.rb k hk, h.cr.ow.row.lt k hk⟩
  have hP : PB (w.heap.size + 2) W u (⟨u.pc, iv, nv⟩, ts) := ⟨rfl, h.ow.mono (fun k _ hk => by have hk' : V.heap.size ≤ k := hk; show w.heap.size + 2 < k; omega), h.nx.fr h.fr (fun k hk e => (h.nb k hk).2.2 e), fun k hk => ⟨by have := (h.nb k hk).1; omega, fun e => by have e' : iv.ownBlock = some k := e; have := h.ow.rb k e'; have q := (h.nb k hk).2.1; omega, fun y hy e => by have := (h.ow.in (.inr ⟨y, hy, e⟩)).1; have q := (h.nb k hk).2.1; omega⟩⟩
  have hbl : ∀ k, blB (⟨u.pc, iv, nv⟩, ts) k → wr.heap.size ≤ k := fun k hk => by
    rcases hk with q | ⟨y, hy, q⟩ | q
    · have q' : iv.ownBlock = some k := q
      have := h.ow.rb k q'
      omega
    · have := (h.ow.in (.inr ⟨y, hy, q⟩)).1; omega
    · exact (h.nb k q).1
  rw [fltB1] at hr
  obtain ⟨o1, o2⟩ := OW.push' (Wa := Wa) (x := (⟨u.pc, iv, nv⟩, ts)) (stayB _) c.ow hP (fun k hk => ⟨(hP.gt hk).1, (hP.gt hk).2, fun e => by have := hbl k hk; have := (hcv k e).2; omega⟩) (fun k hk y hy e => by have := hbl k hk; have := (h.cr.ow.in (.inr ⟨y, hy, e⟩)).2; omega) ha (by show w.heap.size + 2 < Wa.heap.size; omega) hr (by rw [hm, h.cr.ow.len]) hg hat
  have s4 := o2.size
  have hlt := c.sz
  have kb : ∀ k, k ≤ w.heap.size + 2 → W2.heap[k]? = W.heap[k]? := fun k hk => o2.block k (by omega) (fun e => by have e' : cv.ownBlock = some k := e; have := (hcv k e').1; omega)
  have fS := Fr.setCell (S := fun k => k = w.heap.size + 2) (Fr.refl _ W2) ⟨w.heap.size + 2, 2, none⟩ (.inr rfl) v'
  refine ⟨Ts ++ [(⟨u.pc, iv, nv⟩, ts)], ?_, Nat.le_trans (by omega) fS.size, (fS.block _ (by omega) (by omega)).trans ((kb _ (by omega)).trans c.bc), (fS.block _ (by omega) (by omega)).trans ((kb _ (by omega)).trans c.br), ?_, o1.frZ (stayB _) fS (fun k hk hz e => by have hz' : w.heap.size + 2 < k := hz; have e' : k = w.heap.size + 2 := e; omega)⟩
  · exact (c.bw.trans (o2.below (by omega) (fun k hk e => by have e' : cv.ownBlock = some k := e; have := (hcv k e').1; omega))).trans (fS.below (by omega) (fun k hk e => by have e' : k = w.heap.size + 2 := e; omega))
  · have q2 := setCell_block (o := 2) ((kb _ (by omega)).trans c.bd) v'
    simpa using q2
theorem CR.start (w : World) (fn regs : Int) (v : Value) : CR w fn regs v [] (.slice none 0 0) [] (((w.alloc (.cells #[.int .i64 fn, .int .i64 regs, v] 24)).alloc (.cells #[.int .i64 0, .int .i64 0, .slice none 0 0] 24)).alloc (.cells #[.int .i64 fn, .int .i64 regs, .slice none 0 0] 24)) := by
  have B := BX.three w #[.int .i64 fn, .int .i64 regs, v] #[.int .i64 0, .int .i64 0, .slice none 0 0] #[.int .i64 fn, .int .i64 regs, .slice none 0 0] 24 24 24
  exact ⟨B.b, by simp, B.h 0 _ rfl, B.h 1 _ rfl, B.h 2 _ rfl, OW.nil _⟩
end

set_option linter.unusedVariables false
set_option linter.unusedSimpArgs false

theorem bx3st {w : World} {d : Nat} {c0 c1 c2 x0 x1 x2 : Value} {t : TypeId} (h : w.heap[d]? = some (.cells #[c0, c1, c2] t)) :
    (((w.setCell ⟨d, 0, none⟩ x0).setCell ⟨d, 1, none⟩ x1).setCell ⟨d, 2, none⟩ x2).heap[d]? = some (.cells #[x0, x1, x2] t) ∧ Fr (fun k => k = d) w (((w.setCell ⟨d, 0, none⟩ x0).setCell ⟨d, 1, none⟩ x1).setCell ⟨d, 2, none⟩ x2) := by
  have h1 := setCell_block (o := 0) h x0
  have h2 := setCell_block (o := 1) h1 x1
  have h3 := setCell_block (o := 2) h2 x2
  refine ⟨by rw [h3]; simp, Fr.setCell (S := fun k => k = d) (Fr.setCell (S := fun k => k = d) (Fr.setCell (S := fun k => k = d) (Fr.refl _ w) ⟨d, 0, none⟩ (.inr rfl) _) ⟨d, 1, none⟩ (.inr rfl) _) ⟨d, 2, none⟩ (.inr rfl) _⟩
theorem CiT.shape {w w' : World} {x : RIn} {r : InR} (h : CiT w x r w') : ∃ a1 c1 a2 c2, r.av = .slice a1 x.args.length c1 ∧ r.ev = .slice a2 x.ex.length c2 := by
  obtain ⟨t, rfl, hb, hI, _⟩ := h
  obtain ⟨a1, c1, e1, _, _⟩ := hI.a.shape
  obtain ⟨a2, c2, e2, _, _⟩ := hI.e.shape
  exact ⟨a1, c1, a2, c2, e1, e2⟩
theorem CiT.bel {w w' : World} {x : RIn} {r : InR} (h : CiT w x r w') : Below w.heap.size w w' := by
  obtain ⟨t, _, hb, _, _⟩ := h
  exact hb
theorem CQ.mk0 {w wr V : World} {fn regs pc : Int} {v cv nv : Value} {bl : List Bk} {Ts : List TB} {g : Nat} {nx : List Int} (h : CR w fn regs v bl cv Ts wr) (b : Below wr.heap.size wr V) (gw : wr.heap.size ≤ g ∧ g < V.heap.size) (hx : Ro V 1 nv nx.length (flt enI nx)) (nb : ∀ k, nv.ownBlock = some k → wr.heap.size ≤ k ∧ k < V.heap.size ∧ k ≠ g) (bg : V.heap[g]? = some (.cells #[.int .i64 pc, .slice none 0 0, nv] 47)) : CQ w fn regs v bl cv Ts wr g pc nv nx V [] (.slice none 0 0) [] V :=
  ⟨h, b, gw, hx, nb, Fr.refl _ _, bg, OW.nil _⟩
set_option maxRecDepth 100000 in
set_option maxHeartbeats 12800000 in
theorem copyRegs_any {w : World} {D : Nat → Prop} {fn regs : Int} {bl : List Bk} {v : Value} (h : BksV D w bl v) (hO : ∀ b ∈ bl, OkL b) (hN : bl.length ≤ 1048576) :
    Calls Tryd.prog 51 #[.agg #[.int .i64 fn, .int .i64 regs, v]] w fun e w' => AnsC w fn regs bl e w' := by
  obtain ⟨va, vc, rfl, ha1, ha2⟩ := NV.shape h
  obtain ⟨N, hNN⟩ : ∃ N, Hid (bl.length = N) := ⟨_, hide rfl⟩
  have HCS := hide (CR.start w fn regs (.slice va N vc))
  have HH := hide h
  have HO := hide hO
  rw [unhide hNN] at hN ha1 HH ⊢
  unfold maxLen at ha2
  clear h hO
  go_enter Tryd.func51, Tryd.ntmps51
  go_wp2_with fail
  obtain ⟨W0, hW0⟩ : ∃ W0, Hid ((((w.alloc (.cells #[.int .i64 fn, .int .i64 regs, .slice va N vc] 24)).alloc (.cells #[.int .i64 0, .int .i64 0, .slice none 0 0] 24)).alloc (.cells #[.int .i64 fn, .int .i64 regs, .slice none 0 0] 24)) = W0) := ⟨_, hide rfl⟩
  rw [unhide hW0] at HCS ⊢
  go_loopg [4] N (fun gg t4 wr => ∃ (i : Nat) (cv : Value) (Ts : List TB), Hid (i + gg = N) ∧ t4 = .int .i64 (i : Int) ∧ Hid (CR w fn regs (.slice va N vc) (bl.take i) cv Ts wr))
  case atStart => exact ⟨0, _, _, by unfold Hid; omega, rfl, HCS⟩
  case round =>
    clear HCS hW0
    obtain ⟨i, cv, Ts, hi, rfl, hS⟩ := hrel
    obtain ⟨cva, cvc, ecv, -, -⟩ := (unhide hS).ow.row.shape
    by_cases hlt : i < N
    case neg =>
      have hiN : N = i := by have := unhide hi; omega
      subst hiN
      have HTK : Hid (bl.take N = bl) := List.take_of_length_le (by rw [unhide hNN]; exact Nat.le_refl _)
      rw [unhide HTK] at hS ecv
      rw [unhide hNN] at ecv
      subst ecv
      have i1 : ¬ (N : Int) < (N : Int) := by omega
      have c2 := (blk_cells (unhide hS).bc).1 2
      have cl := (blk_cells (unhide hS).bc).2.2
      have d0 := (blk_cells (unhide hS).bd).1 0
      have d1 := (blk_cells (unhide hS).bd).1 1
      have d2 := (blk_cells (unhide hS).bd).1 2
      have dl := (blk_cells (unhide hS).bd).2.2
      have r0 := (blk_cells (unhide hS).br).1 0
      have r1 := (blk_cells (unhide hS).br).1 1
      have r2 := (blk_cells (unhide hS).br).1 2
      have rf0 := (blk_cells (unhide hS).br).2.1 0
      have rf1 := (blk_cells (unhide hS).br).2.1 1
      have rf2 := (blk_cells (unhide hS).br).2.1 2
      have rl := (blk_cells (unhide hS).br).2.2
      simp at c2 cl d0 d1 d2 dl r0 r1 r2 rl
      have HW : Hid (∀ W, Fr (fun q => q = w.heap.size + 1) wr W → AnsC w fn regs bl (.returned (.agg #[.int .i64 fn, .int .i64 regs, .slice cva N cvc])) W) := fun W hW => by
        have q := (unhide hS).ow.imp (fun u x hp => hp.zero)
        exact ⟨_, Ts, rfl, (unhide hS).bw.trans (hW.below (unhide hS).bw.size (fun q hq e => by have e' : q = w.heap.size + 1 := e; omega)), (OW.frZ (stayB 0) q hW (fun z hz hz2 e => by have hz3 : w.heap.size + 2 < z := hz2; have e' : z = w.heap.size + 1 := e; omega)).mono (fun z _ hz => by have hz3 : w.heap.size + 2 < z := hz; show w.heap.size ≤ z; omega)⟩
      go_wp2_with fail
      refine bodyPost_ret (v := .agg #[.int .i64 fn, .int .i64 regs, .slice cva N cvc]) ?_ rfl ?_
      · rw [results_cell_one rfl]
        go_simp
      · apply unhide HW
        repeat (first | refine Fr.setCell (S := fun q => q = w.heap.size + 1) ?_ _ (.inr rfl) _ | with_reducible exact Fr.refl _ _)
    have i0 : (0 : Int) ≤ (i : Int) := by omega
    have i1 : (i : Int) < (N : Int) := by omega
    obtain ⟨u, hu⟩ : ∃ s, bl[i]? = some s := ⟨_, List.getElem?_eq_getElem (by rw [unhide hNN]; exact hlt)⟩
    obtain ⟨vb, vo, ia, ic, na, nc, rfl, hvb, hIns, hNx, hic, hnc, hil, hnl, hcell⟩ := BksV.blk (unhide HH) hu
    have HOU := hide (unhide HO u (List.mem_of_getElem? hu))
    have HU := hide hu
    obtain ⟨IL, hIL⟩ : ∃ z, Hid (u.ins.length = z) := ⟨_, hide rfl⟩
    obtain ⟨NL, hNL⟩ : ∃ z, Hid (u.nx.length = z) := ⟨_, hide rfl⟩
    rw [unhide hIL] at hil hcell hIns
    rw [unhide hNL] at hnl hcell hNx
    have HBL := hide hcell
    have HIN := hide hIns
    have HCI : Hid (∀ W, Below w.heap.size w W → Calls Tryd.prog 71 #[.slice na NL nc] W fun e w' => ∃ v, e = .returned v ∧ Gx W 1 enI u.nx v w') := fun W hW => copyInts_any (NxV.mv.bel hNx hW) (by have := (unhide HOU).2.1; omega)
    unfold maxLen at hic hnc
    clear hcell hIns hNx hu
    have c2 := (blk_cells (unhide hS).bc).1 2
    have cl := (blk_cells (unhide hS).bc).2.2
    simp at c2 cl
    go_wp2_with fail
    clear c2 cl
    have HRW : Hid (∀ V, Below wr.heap.size wr V → CR w fn regs (.slice (some ⟨vb, vo, none⟩) N vc) (bl.take i) cv Ts V) := fun V hV => (unhide hS).on hV
    go_cut [5] from 20 to 33 (fun s5 V => ∃ (g : Nat) (xa : Option Addr) (xc : Nat), s5 = .pointer (some ⟨g, 0, none⟩) ∧ Hid (CQ w fn regs (.slice (some ⟨vb, vo, none⟩) N vc) (bl.take i) cv Ts wr g u.pc (.slice xa NL xc) u.nx V [] (.slice none 0 0) [] V))
    case first =>
      have HS0 : Hid (Below wr.heap.size wr wr.drew) := bl_drew wr
      refine wp_region_held_drew (S := fun V => Below wr.heap.size wr V) (by kernel_rfl) (unhide HS0) (fun hHeld => ?_)
      clear hHeld
      refine wpAnyH_take (i := 0) (oi := _) (v := .pointer (some ⟨w.heap.size, 2, none⟩)) rfl (by kernel_rfl) (by kernel_rfl) (by kernel_rfl) (fun _ _ _ h => h) (Or.inl ⟨by rfl, (by intro w' hSw; go_simp; first | done | rfl)⟩) (unhide HS0) ?_
      go_simp
      refine wpAnyH_take (i := 1) (oi := _) (v := .slice (some ⟨vb, vo, none⟩) N vc) rfl (by kernel_rfl) (by kernel_rfl) (by kernel_rfl) (fun _ _ _ h => h) (Or.inl ⟨by rfl, (by intro w' hSw; obtain ⟨g0, g1, g2, g3⟩ := unhide HBL w' (unhide HRW w' hSw).bw; have gb := blk_cells (unhide HRW w' hSw).bc; have gc := gb.1 2; have gl := gb.2.2; simp at gc gl; go_simp; first | done | rfl)⟩) (unhide HS0) ?_
      go_simp
      refine wpAnyH_take (i := 2) (oi := _) (v := .int .i64 (i : Int)) rfl (by kernel_rfl) (by kernel_rfl) (by kernel_rfl) (fun _ _ _ h => h) (Or.inl ⟨by rfl, (by intro w' hSw; go_simp; first | done | rfl)⟩) (unhide HS0) ?_
      go_simp
      refine wpAnyH_take (i := 3) (oi := _) (v := .pointer (some ⟨vb, vo + i * 3, none⟩)) rfl (by kernel_rfl) (by kernel_rfl) (by kernel_rfl) (fun _ _ _ h => h) (Or.inl ⟨by rfl, (by intro w' hSw; go_simp; first | done | rfl)⟩) (unhide HS0) ?_
      go_simp
      refine wpAnyH_take (i := 4) (oi := _) (v := .pointer (some ⟨vb, vo + i * 3, none⟩)) rfl (by kernel_rfl) (by kernel_rfl) (by kernel_rfl) (fun _ _ _ h => h) (Or.inl ⟨by rfl, (by intro w' hSw; go_simp; first | done | rfl)⟩) (unhide HS0) ?_
      go_simp
      refine wpAnyH_take (i := 5) (oi := _) (v := .int .i64 u.pc) rfl (by kernel_rfl) (by kernel_rfl) (by kernel_rfl) (fun _ _ _ h => h) (Or.inl ⟨by rfl, (by intro w' hSw; obtain ⟨g0, g1, g2, g3⟩ := unhide HBL w' (unhide HRW w' hSw).bw; have gb := blk_cells (unhide HRW w' hSw).bc; have gc := gb.1 2; have gl := gb.2.2; simp at gc gl; go_simp; first | done | rfl)⟩) (unhide HS0) ?_
      go_simp
      refine wpAnyH_take (i := 6) (oi := _) (v := .pointer (some ⟨w.heap.size, 2, none⟩)) rfl (by kernel_rfl) (by kernel_rfl) (by kernel_rfl) (fun _ _ _ h => h) (Or.inl ⟨by rfl, (by intro w' hSw; go_simp; first | done | rfl)⟩) (unhide HS0) ?_
      go_simp
      refine wpAnyH_take (i := 7) (oi := _) (v := .slice (some ⟨vb, vo, none⟩) N vc) rfl (by kernel_rfl) (by kernel_rfl) (by kernel_rfl) (fun _ _ _ h => h) (Or.inl ⟨by rfl, (by intro w' hSw; obtain ⟨g0, g1, g2, g3⟩ := unhide HBL w' (unhide HRW w' hSw).bw; have gb := blk_cells (unhide HRW w' hSw).bc; have gc := gb.1 2; have gl := gb.2.2; simp at gc gl; go_simp; first | done | rfl)⟩) (unhide HS0) ?_
      go_simp
      refine wpAnyH_take (i := 8) (oi := _) (v := .int .i64 (i : Int)) rfl (by kernel_rfl) (by kernel_rfl) (by kernel_rfl) (fun _ _ _ h => h) (Or.inl ⟨by rfl, (by intro w' hSw; go_simp; first | done | rfl)⟩) (unhide HS0) ?_
      go_simp
      refine wpAnyH_take (i := 9) (oi := _) (v := .pointer (some ⟨vb, vo + i * 3, none⟩)) rfl (by kernel_rfl) (by kernel_rfl) (by kernel_rfl) (fun _ _ _ h => h) (Or.inl ⟨by rfl, (by intro w' hSw; go_simp; first | done | rfl)⟩) (unhide HS0) ?_
      go_simp
      refine wpAnyH_take (i := 10) (oi := _) (v := .pointer (some ⟨vb, vo + i * 3 + 2, none⟩)) rfl (by kernel_rfl) (by kernel_rfl) (by kernel_rfl) (fun _ _ _ h => h) (Or.inl ⟨by rfl, (by intro w' hSw; go_simp; first | done | rfl)⟩) (unhide HS0) ?_
      go_simp
      refine wpAnyH_take (i := 11) (oi := _) (v := .slice na NL nc) rfl (by kernel_rfl) (by kernel_rfl) (by kernel_rfl) (fun _ _ _ h => h) (Or.inl ⟨by rfl, (by intro w' hSw; obtain ⟨g0, g1, g2, g3⟩ := unhide HBL w' (unhide HRW w' hSw).bw; have gb := blk_cells (unhide HRW w' hSw).bc; have gc := gb.1 2; have gl := gb.2.2; simp at gc gl; go_simp; first | done | rfl)⟩) (unhide HS0) ?_
      go_simp
      refine wpAnyH_ready (rs := [12, 14]) (by kernel_rfl) (by simp) ?_
      refine AllReadyH.cons (o := _) rfl (fun K hK => ?_) (AllReadyH.cons (o := _) rfl (fun K hK => ?_) AllReadyH.nil)
      · go_simp
        refine (unhide HCI _ (unhide HRW _ (unhide HS0)).bw).mono ?_
        rintro e w3 ⟨nv, rfl, hG⟩
        obtain ⟨xa, xc, ex, -, -⟩ := hG.1.shape
        rw [unhide hNL] at ex
        subst ex
        have HB3 : Hid (Below wr.heap.size wr w3) := (unhide HS0).trans hG.2.1
        have HG := hide hG
        refine hK.out _ _ (unhide HB3) (fun hHeld => ?_)
        clear hHeld hK K hG
        refine wpAnyH_take (i := 13) (oi := _) (v := .agg #[.int .i64 u.pc, .slice none 0 0, .slice xa NL xc]) rfl (by kernel_rfl) (by kernel_rfl) (by kernel_rfl) (fun _ _ _ h => h) (Or.inl ⟨by rfl, (by intro w' hSw; go_simp; first | done | rfl)⟩) (unhide HB3) ?_
        go_simp
        refine wpAnyH_ready (rs := [14]) (by kernel_rfl) (by simp) ?_
        refine AllReadyH.cons (o := _) rfl (fun K hK => ?_) AllReadyH.nil
        go_simp
        obtain ⟨w4, hw4⟩ : ∃ w4, Hid (w3.alloc (Obj.cells #[.int .i64 0, .slice none 0 0, .slice none 0 0] 47) = w4) := ⟨_, hide rfl⟩
        rw [unhide hw4]
        have HB4 : Hid (Below wr.heap.size wr w4) := by rw [← unhide hw4]; exact (unhide HB3).trans ((box1n w3 _).mono (unhide HB3).size)
        have HZB : Hid (w4.heap[w3.heap.size]? = some (.cells #[.int .i64 0, .slice none 0 0, .slice none 0 0] 47)) := by rw [← unhide hw4]; exact heap_alloc_new w3 _
        have hle := (unhide HB3).size
        have hb34 : Below w3.heap.size w3 w4 := by rw [← unhide hw4]; exact box1n w3 _
        have HNX : Hid (Ro w4 1 (.slice xa NL xc) u.nx.length (flt enI u.nx)) := (unhide HG).1.fr (Fr.of_below (S := fun _ => False) hb34) (fun _ _ e => e)
        have HNB : Hid (∀ k, (Value.slice xa NL xc).ownBlock = some k → wr.heap.size ≤ k ∧ k < w4.heap.size ∧ k ≠ w3.heap.size) := fun k hk => ⟨(unhide HG).2.2 k hk, Nat.lt_of_lt_of_le ((unhide HG).1.lt k hk) hb34.size, Nat.ne_of_lt ((unhide HG).1.lt k hk)⟩
        refine hK.out _ _ (unhide HB4) (fun hHeld => ?_)
        clear hHeld hK K hw4 hb34
        have p0 := (blk_cells (unhide HZB)).1 0
        have p1 := (blk_cells (unhide HZB)).1 1
        have p2 := (blk_cells (unhide HZB)).1 2
        have f0 := (blk_cells (unhide HZB)).2.1 0
        have f1 := (blk_cells (unhide HZB)).2.1 1
        have f2 := (blk_cells (unhide HZB)).2.1 2
        have pl := (blk_cells (unhide HZB)).2.2
        simp at p0 p1 p2 pl
        refine wpAnyH_ready (rs := [15]) (by kernel_rfl) (by simp) ?_
        refine AllReadyH.cons (o := _) rfl (fun K hK => ?_) AllReadyH.nil
        go_simp
        have HFB := hide (bx3st (x0 := .int .i64 u.pc) (x1 := .slice none 0 0) (x2 := .slice xa NL xc) (unhide HZB))
        have HB5 : Hid (Below wr.heap.size wr _) := hide ((unhide HB4).trans ((unhide HFB).2.below (unhide HB4).size (fun k hk e => by have e' : k = w3.heap.size := e; omega)))
        have HQ0 : Hid (CQ w fn regs (.slice (some ⟨vb, vo, none⟩) N vc) (bl.take i) cv Ts wr w3.heap.size u.pc (.slice xa NL xc) u.nx _ [] (.slice none 0 0) [] _) := hide (CQ.mk0 (unhide hS) (unhide HB5) ⟨hle, Nat.lt_of_lt_of_le pl (unhide HFB).2.size⟩ ((unhide HNX).fr (unhide HFB).2 (fun k hk e => (unhide HNB k hk).2.2 e)) (fun k hk => ⟨(unhide HNB k hk).1, Nat.lt_of_lt_of_le (unhide HNB k hk).2.1 (unhide HFB).2.size, (unhide HNB k hk).2.2⟩) (unhide HFB).1)
        refine hK.out _ _ (unhide HB5) (fun hHeld => ?_)
        clear hHeld hK K p0 p1 p2 f0 f1 f2
        refine wpAnyH_done (by kernel_rfl) ?_ _
        go_wp2_with fail
        go_meet
        case rel => exact ⟨w3.heap.size, _, _, rfl, HQ0⟩
      · go_simp
        obtain ⟨w2, hw2⟩ : ∃ w2, Hid ((wr.alloc (Obj.cells #[.int .i64 0, .slice none 0 0, .slice none 0 0] 47)).drew = w2) := ⟨_, hide rfl⟩
        rw [unhide hw2]
        have HB2 : Hid (Below wr.heap.size wr w2) := by rw [← unhide hw2]; exact (bl_drew wr).trans (box1n wr.drew _)
        have HZ2 : Hid (w2.heap[wr.heap.size]? = some (.cells #[.int .i64 0, .slice none 0 0, .slice none 0 0] 47)) := by rw [← unhide hw2]; exact heap_alloc_new wr.drew _
        refine hK.out _ _ (unhide HB2) (fun hHeld => ?_)
        clear hHeld hK K hw2
        refine wpAnyH_ready (rs := [12]) (by kernel_rfl) (by simp) ?_
        refine AllReadyH.cons (o := _) rfl (fun K hK => ?_) AllReadyH.nil
        go_simp
        refine (unhide HCI _ (unhide HRW _ (unhide HB2)).bw).mono ?_
        rintro e w4 ⟨nv, rfl, hG⟩
        obtain ⟨xa, xc, ex, -, -⟩ := hG.1.shape
        rw [unhide hNL] at ex
        subst ex
        have hl2 := (blk_cells (unhide HZ2)).2.2
        have HB4 : Hid (Below wr.heap.size wr w4) := (unhide HB2).trans (hG.2.1.mono (unhide HB2).size)
        have HZB : Hid (w4.heap[wr.heap.size]? = some (.cells #[.int .i64 0, .slice none 0 0, .slice none 0 0] 47)) := (hG.2.1.block _ hl2).trans (unhide HZ2)
        have hle : wr.heap.size ≤ wr.heap.size := Nat.le_refl _
        have HNX : Hid (Ro w4 1 (.slice xa NL xc) u.nx.length (flt enI u.nx)) := hG.1
        have HNB : Hid (∀ k, (Value.slice xa NL xc).ownBlock = some k → wr.heap.size ≤ k ∧ k < w4.heap.size ∧ k ≠ wr.heap.size) := fun k hk => ⟨by have := hG.2.2 k hk; omega, hG.1.lt k hk, fun e => by have := hG.2.2 k hk; omega⟩
        refine hK.out _ _ (unhide HB4) (fun hHeld => ?_)
        clear hHeld hK K hG
        refine wpAnyH_take (i := 13) (oi := _) (v := .agg #[.int .i64 u.pc, .slice none 0 0, .slice xa NL xc]) rfl (by kernel_rfl) (by kernel_rfl) (by kernel_rfl) (fun _ _ _ h => h) (Or.inl ⟨by rfl, (by intro w' hSw; go_simp; first | done | rfl)⟩) (unhide HB4) ?_
        go_simp
        have p0 := (blk_cells (unhide HZB)).1 0
        have p1 := (blk_cells (unhide HZB)).1 1
        have p2 := (blk_cells (unhide HZB)).1 2
        have f0 := (blk_cells (unhide HZB)).2.1 0
        have f1 := (blk_cells (unhide HZB)).2.1 1
        have f2 := (blk_cells (unhide HZB)).2.1 2
        have pl := (blk_cells (unhide HZB)).2.2
        simp at p0 p1 p2 pl
        refine wpAnyH_ready (rs := [15]) (by kernel_rfl) (by simp) ?_
        refine AllReadyH.cons (o := _) rfl (fun K hK => ?_) AllReadyH.nil
        go_simp
        have HFB := hide (bx3st (x0 := .int .i64 u.pc) (x1 := .slice none 0 0) (x2 := .slice xa NL xc) (unhide HZB))
        have HB5 : Hid (Below wr.heap.size wr _) := hide ((unhide HB4).trans ((unhide HFB).2.below (unhide HB4).size (fun k hk e => by have e' : k = wr.heap.size := e; omega)))
        have HQ0 : Hid (CQ w fn regs (.slice (some ⟨vb, vo, none⟩) N vc) (bl.take i) cv Ts wr wr.heap.size u.pc (.slice xa NL xc) u.nx _ [] (.slice none 0 0) [] _) := hide (CQ.mk0 (unhide hS) (unhide HB5) ⟨hle, Nat.lt_of_lt_of_le pl (unhide HFB).2.size⟩ ((unhide HNX).fr (unhide HFB).2 (fun k hk e => (unhide HNB k hk).2.2 e)) (fun k hk => ⟨(unhide HNB k hk).1, Nat.lt_of_lt_of_le (unhide HNB k hk).2.1 (unhide HFB).2.size, (unhide HNB k hk).2.2⟩) (unhide HFB).1)
        refine hK.out _ _ (unhide HB5) (fun hHeld => ?_)
        clear hHeld hK K p0 p1 p2 f0 f1 f2
        refine wpAnyH_done (by kernel_rfl) ?_ _
        go_wp2_with fail
        go_meet
        case rel => exact ⟨wr.heap.size, _, _, rfl, HQ0⟩
    case rest =>
      obtain ⟨g, xa, xc, rfl, HQ⟩ := hcut
      clear HRW hS
      obtain ⟨wO, rfl⟩ : ∃ z, z = wr := ⟨wr, rfl⟩
      obtain ⟨gO, rfl⟩ : ∃ z, z = gk := ⟨gk, rfl⟩
      go_wp2_with fail
      go_loopg [6] IL (fun gg t6 W => ∃ (j : Nat) (iv : Value) (ts : List TI), Hid (j + gg = IL) ∧ t6 = .int .i64 (j : Int) ∧ Hid (CQ w fn regs (.slice (some ⟨vb, vo, none⟩) N vc) (bl.take i) cv Ts wO g u.pc (.slice xa NL xc) u.nx wc (u.ins.take j) iv ts W))
      case atStart => exact ⟨0, _, _, by unfold Hid; omega, rfl, HQ⟩
      case round =>
        clear HQ
        obtain ⟨j, iv, ts, hj, rfl, hQ⟩ := hrel
        have HR := hide ((unhide hQ).cr.on (unhide hQ).bel)
        have HBW := hide (unhide HR).bw
        obtain ⟨x0, x1, x2, x3⟩ := unhide HBL wr (unhide HBW)
        have gb := blk_cells (unhide HR).bc
        have c2 := gb.1 2
        have cl := gb.2.2
        simp at c2 cl
        clear gb
        obtain ⟨iva, ivc, eiv, -, -⟩ := (unhide hQ).ow.row.shape
        have HTJ : Hid ((u.ins.take j).length = j) := by
          have := unhide hj
          rw [← unhide hIL] at this
          unfold Hid
          rw [List.length_take]
          omega
        rw [unhide HTJ] at eiv
        subst eiv
        have HTS : Hid ((ts.map Prod.fst).length = j) := by unfold Hid; rw [List.length_map, (unhide hQ).ow.len]; exact unhide HTJ
        have j0 : (0 : Int) ≤ (j : Int) := by omega
        by_cases hjt : j < IL
        case neg =>
          have hjN : IL = j := by have := unhide hj; omega
          subst hjN
          have j1 : ¬ (IL : Int) < (IL : Int) := by omega
          have HTK : Hid (u.ins.take IL = u.ins) := List.take_of_length_le (by rw [unhide hIL]; exact Nat.le_refl _)
          rw [unhide HTK] at hQ
          have HTI : Hid ((bl.take i).length = i) := by
            unfold Hid
            rw [List.length_take, unhide hNN]
            omega
          rw [unhide HTI] at ecv
          subst ecv
          have HTT : Hid ((Ts.map Prod.fst).length = i) := by unfold Hid; rw [List.length_map, (unhide HR).ow.len]; exact unhide HTI
          have gg := blk_cells (unhide hQ).bg
          have b0 := gg.1 0
          have b1 := gg.1 1
          have b2 := gg.1 2
          have bl3 := gg.2.2
          have dd := blk_cells (unhide HR).bd
          have d2 := dd.1 2
          have dl := dd.2.2
          have df := dd.2.1 2
          simp at b0 b1 b2 bl3 d2 dl
          clear gg dd
          have HROW : Hid (Ro wr 3 (.slice cva i cvc) (Ts.map Prod.fst).length (flt enBk (Ts.map Prod.fst))) := by
            have q := (unhide HR).ow.row
            rw [unhide HTI] at q
            rw [fltB1]
            unfold Hid
            rw [unhide HTT]
            exact q
          have HLB : Hid ((Ts.map Prod.fst).length ≤ 1099511627776) := by rw [unhide HTT]; unfold Hid; omega
          go_wp2_with (first | (at_builtin; refine appBk rfl _ _ rfl _ (Ts.map Prod.fst) rfl (Ro.fr (unhide HROW) (Fr.of_below (S := fun _ => False) (box1n _ _)) (fun _ _ e => e)) ⟨wr.heap.size, 0, none⟩ 1 ⟨u.pc, .slice iva IL ivc, .slice xa NL xc⟩ rfl (new_cells _ _ _) rfl rfl (unhide HLB) ?_))
          intro v' w' hr hg hat
          obtain ⟨Ts', hT⟩ := (unhide hQ).done (box1n wr _) hr (by simp) hg (by simpa using hat)
          rw [← take_push (unhide HU)] at hT
          obtain ⟨v'a, v'c, ev', -, -⟩ := hr.shape
          rw [show (Ts.length = i) by have := unhide HTT; simpa using this] at ev'
          subst ev'
          have HT := hide hT
          have dl2 : w.heap.size + 2 < w'.heap.size := by have := hg.size; simp at this; omega
          have df2 : w'.frozen? ⟨w.heap.size + 2, 2, none⟩ = false := by
            have q := hg.block (w.heap.size + 2) (by simp; omega) (fun e => by have q : w.heap.size + 2 < w.heap.size + 2 := (unhide HR).ow.rb _ e.symm; omega)
            rw [World.frozen?_of_block (q.trans (Below.heap_alloc _ _ _ dl))]
            exact df
          have dcx : ∃ z, w'.cell? ⟨w.heap.size + 2, 2, none⟩ = some z := by
            have q := hg.block (w.heap.size + 2) (by simp; omega) (fun e => by have q : w.heap.size + 2 < w.heap.size + 2 := (unhide HR).ow.rb _ e.symm; omega)
            rw [World.cell?_of_block (q.trans (Below.heap_alloc _ _ _ dl))]
            exact ⟨_, d2⟩
          obtain ⟨dcz, dc2⟩ := dcx
          clear hr hg hat hT d2 df dl b0 b1 b2 bl3 x0 x1 x2 x3 c2 cl HROW
          go_wp2_with fail
          go_roundg (N - (i + 1))
          case measure => have := unhide hi; omega
          case rel => exact ⟨i + 1, _, Ts', by have := unhide hi; unfold Hid; omega, by go_num, HT⟩
        have j1 : (j : Int) < (IL : Int) := by omega
        obtain ⟨x, hx⟩ : ∃ s, u.ins[j]? = some s := ⟨_, List.getElem?_eq_getElem (by rw [unhide hIL]; exact hjt)⟩
        obtain ⟨ib, io, aa, ac, ea, ec, rfl, hib, hInP, ha1', ha2', he1', he2', hic8⟩ := InsV.at8 (unhide HIN) hx
        obtain ⟨hibw, y0, y1, y2, y3, y4, y5, y6, y7⟩ := hic8 wr (unhide HBW)
        have HX := hide hx
        have hbx := (unhide HOU).2.2 x (List.mem_of_getElem? hx)
        have HCP : Hid (Calls Tryd.prog 50 #[inV ⟨x.op, x.code, x.dst, .slice aa x.args.length ac, x.n, x.pc, x.need, .slice ea x.ex.length ec⟩] wr fun e w' => ∃ r, e = .returned (inV r) ∧ CiT wr x r w') := copyInT_any (InP.mv.bel hInP (unhide HBW)) (by omega) (by omega) (fun s hs => by have := hbx.2.2 s hs; omega)
        unfold inV at HCP
        dsimp only at HCP
        obtain ⟨AL, hAL⟩ : ∃ z, Hid (x.args.length = z) := ⟨_, hide rfl⟩
        obtain ⟨EL, hEL⟩ : ∃ z, Hid (x.ex.length = z) := ⟨_, hide rfl⟩
        rw [unhide hAL] at y3 HCP
        rw [unhide hEL] at y7 HCP
        clear hic8 hInP hx hbx ha1' ha2' he1' he2'
        go_wp2_with fail
        refine (unhide HCP).mono ?_
        rintro e w1 ⟨r, rfl, hc⟩
        obtain ⟨a1, c1, a2, c3, e1, e2⟩ := hc.shape
        have hb1 := hc.bel
        obtain ⟨rop, rcode, rdst, rav, rn, rpc, rneed, rev⟩ := r
        simp only at e1 e2
        rw [unhide hAL] at e1
        rw [unhide hEL] at e2
        subst e1 e2
        have HC := hide hc
        have HQ1 := hide ((unhide hQ).on hb1)
        have gg := blk_cells (unhide HQ1).bg
        have b1 := gg.1 1
        have bl3 := gg.2.2
        simp at b1 bl3
        have HROW : Hid (Ro w1 8 (.slice iva j ivc) (ts.map Prod.fst).length (flt enIn (ts.map Prod.fst))) := by
          have q := (unhide HQ1).ow.row
          rw [unhide HTJ] at q
          rw [fltT]
          unfold Hid
          rw [unhide HTS]
          exact q
        have HLB : Hid ((ts.map Prod.fst).length ≤ 1099511627776) := by rw [unhide HTS]; have := (unhide HOU).1; rw [unhide hIL] at this; unfold Hid; omega
        clear hc hb1 gg HCP x0 x1 x2 x3 c2 cl y0 y1 y2 y3 y4 y5 y6 y7 hibw
        go_wp2_with (first | (at_builtin; refine appIn rfl _ _ rfl _ (ts.map Prod.fst) rfl (Ro.fr (unhide HROW) (Fr.of_below (S := fun _ => False) (bl_past (box1n _ _) (box1n _ _))) (fun _ _ e => e)) ⟨w1.heap.size + 1, 0, none⟩ 1 ⟨rop, rcode, rdst, .slice a1 AL c1, rn, rpc, rneed, .slice a2 EL c3⟩ rfl (new_cellsB _ _ _ (by simp)) rfl rfl (unhide HLB) ?_))
        intro v' w' hr hg hat
        obtain ⟨ts', hT⟩ := (unhide hQ).step (unhide HC) (bl_past (box1n _ _) (box1n _ _)) hr (by simp) hg (by simpa using hat)
        rw [← take_push (unhide HX)] at hT
        obtain ⟨v'a, v'c, ev', -, -⟩ := hr.shape
        rw [show (ts.length = j) by have := unhide HTS; simpa using this] at ev'
        subst ev'
        have HT := hide hT
        have hbk : w'.heap[g]? = w1.heap[g]? := (hg.block g (by simp; omega) (fun e => by have q : wc.heap.size ≤ g := (unhide HQ1).ow.rb _ e.symm; have := (unhide hQ).gw.2; omega)).trans ((Below.heap_alloc _ _ _ (by simp; omega)).trans (Below.heap_alloc _ _ _ bl3))
        have bl4 : g < w'.heap.size := by have := hg.size; simp at this; omega
        have bf4 : w'.frozen? ⟨g, 1, none⟩ = false := by rw [World.frozen?_of_block hbk]; exact (blk_cells (unhide HQ1).bg).2.1 1
        have bc4 : w'.cell? ⟨g, 1, none⟩ = some (.slice iva j ivc) := by rw [World.cell?_of_block hbk]; exact b1
        clear hr hg hat hT hbk b1 bl3 HROW
        go_wp2_with fail
        go_roundg (gk - 1)
        case measure => have := unhide hj; omega
        case rel => exact ⟨j + 1, _, ts', by have := unhide hj; unfold Hid; omega, by go_num, HT⟩
end Go.Proofs.YtpbdmbmafjkinaaDoor
