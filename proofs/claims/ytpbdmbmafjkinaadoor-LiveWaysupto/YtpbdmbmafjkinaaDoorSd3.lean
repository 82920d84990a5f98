/-
  Are two instructions the same: whichever they are.
-/
import Derived.Test.YtpbdmbmafjkinaaDoorSd2
namespace Go.Proofs.YtpbdmbmafjkinaaDoor
open Go.RowKit
set_option linter.unusedVariables false
set_option linter.unusedSimpArgs false
theorem in_ext {x y : RIn} (h1 : x.op = y.op) (h2 : x.code = y.code) (h3 : x.dst = y.dst) (h4 : x.args = y.args) (h5 : x.n = y.n) (h6 : x.pc = y.pc) (h7 : x.need = y.need) (h8 : x.ex = y.ex) : x = y := by
  obtain ⟨a, b, c, d, e, f, g, h⟩ := x; obtain ⟨a', b', c', d', e', f', g', h'⟩ := y
  simp only at h1 h2 h3 h4 h5 h6 h7 h8
  rw [h1, h2, h3, h4, h5, h6, h7, h8]
set_option maxRecDepth 100000 in
set_option maxHeartbeats 12800000 in
theorem sameX_dc {w : World} {D D' : Nat → Prop} {x y : RIn} {r q : InR} (ha : InP D w x r) (hb : InP D' w y q) (hM : OkX x) (hM2 : OkX y) :
    Calls Tryd.prog 34 #[inV r, inV q] w fun e w' => e = .returned (.bool (Dc (x = y))) ∧ Below w.heap.size w w' := by
  obtain ⟨rop, rcode, rdst, av, rn, rpc, rneed, ev⟩ := r
  obtain ⟨qop, qcode, qdst, bv, qn, qpc, qneed, fv⟩ := q
  obtain ⟨h1, h2, h3, h4, h5, h6, h7, h8⟩ := ha
  obtain ⟨k1, k2, k3, k4, k5, k6, k7, k8⟩ := hb
  simp only at h1 h2 h3 h4 h5 h6 h7 h8 k1 k2 k3 k4 k5 k6 k7 k8
  obtain ⟨aa, ac, ea1, ha1, ha2⟩ := h7.1.shape
  obtain ⟨ea, ec, ee1, he1, he2⟩ := NV.shape h8
  obtain ⟨ba, bc, ea2, hb1, hb2⟩ := k7.1.shape
  obtain ⟨fa, fc, ee2, hf1, hf2⟩ := NV.shape k8
  subst ea1 ee1 ea2 ee2 h1 h2 h3 h4 h5 h6 k1 k2 k3 k4 k5 k6
  obtain ⟨AL, hAL⟩ : ∃ z, Hid (x.args.length = z) := ⟨_, hide rfl⟩
  obtain ⟨EL, hEL⟩ : ∃ z, Hid (x.ex.length = z) := ⟨_, hide rfl⟩
  obtain ⟨BL, hBL⟩ : ∃ z, Hid (y.args.length = z) := ⟨_, hide rfl⟩
  obtain ⟨FL, hFL⟩ : ∃ z, Hid (y.ex.length = z) := ⟨_, hide rfl⟩
  have HO : Hid (∀ W, Below w.heap.size w W → Calls Tryd.prog 56 #[.slice aa AL ac, .slice ba BL bc] W fun e w' => e = .returned (.bool (Dc (x.args = y.args))) ∧ Below W.heap.size W w') := fun W hW => by
    rw [← unhide hAL, ← unhide hBL]
    exact sameO_dc (h7.1.below hW (Nat.le_refl _)) (k7.1.below hW (Nat.le_refl _)) (by have := hM.1; omega) (by have := hM2.1; omega)
  have HE : Hid (∀ W, Below w.heap.size w W → Calls Tryd.prog 57 #[.slice ea EL ec, .slice fa FL fc] W fun e w' => e = .returned (.bool (Dc (x.ex = y.ex))) ∧ Below W.heap.size W w') := fun W hW => by
    rw [← unhide hEL, ← unhide hFL]
    exact sameS_dc (ShsV.mv.bel h8 hW) (ShsV.mv.bel k8 hW) (by have := hM.2.1; omega) (by have := hM2.2.1; omega) (fun s hs => by have := hM.2.2 s hs; omega) (fun s hs => by have := hM2.2.2 s hs; omega)
  unfold inV
  dsimp only
  rw [unhide hAL] at ha1 ⊢
  rw [unhide hBL] at hb1 ⊢
  rw [unhide hEL] at he1 ⊢
  rw [unhide hFL] at hf1 ⊢
  unfold maxLen at ha2 hb2 he2 hf2
  clear h7 h8 k7 k8 hM hM2
  obtain ⟨o1, ho1⟩ : ∃ z, Hid (x.op = z) := ⟨_, hide rfl⟩
  obtain ⟨o2, ho2⟩ : ∃ z, Hid (y.op = z) := ⟨_, hide rfl⟩
  obtain ⟨c1, hc1⟩ : ∃ z, Hid (x.code = z) := ⟨_, hide rfl⟩
  obtain ⟨c2, hc2⟩ : ∃ z, Hid (y.code = z) := ⟨_, hide rfl⟩
  obtain ⟨d1, hd1⟩ : ∃ z, Hid (x.dst = z) := ⟨_, hide rfl⟩
  obtain ⟨d2, hd2⟩ : ∃ z, Hid (y.dst = z) := ⟨_, hide rfl⟩
  obtain ⟨n1, hn1⟩ : ∃ z, Hid (x.n = z) := ⟨_, hide rfl⟩
  obtain ⟨n2, hn2⟩ : ∃ z, Hid (y.n = z) := ⟨_, hide rfl⟩
  obtain ⟨p1, hp1⟩ : ∃ z, Hid (x.pc = z) := ⟨_, hide rfl⟩
  obtain ⟨p2, hp2⟩ : ∃ z, Hid (y.pc = z) := ⟨_, hide rfl⟩
  obtain ⟨e1, he1⟩ : ∃ z, Hid (x.need = z) := ⟨_, hide rfl⟩
  obtain ⟨e2, he2⟩ : ∃ z, Hid (y.need = z) := ⟨_, hide rfl⟩
  rw [unhide ho1, unhide hc1, unhide hd1, unhide hn1, unhide hp1, unhide he1, unhide ho2, unhide hc2, unhide hd2, unhide hn2, unhide hp2, unhide he2]
  by_cases qo : o1 = o2
  case neg =>
    have HDC : Hid (Dc (x = y) = false) := Dc_false (fun e => qo (by rw [← unhide ho1, ← unhide ho2, e]))
    have B0 := BX.two w #[.int .i64 o1, .int .i64 c1, .int .i64 d1, .slice aa AL ac, .int .i64 n1, .int .i64 p1, .int .i64 e1, .slice ea EL ec] #[.int .i64 o2, .int .i64 c2, .int .i64 d2, .slice ba BL bc, .int .i64 n2, .int .i64 p2, .int .i64 e2, .slice fa FL fc] 51 51
    have H0 := hide B0
    clear B0
    go_enter Tryd.func34, Tryd.ntmps34
    go_wp2_with fail
    go_ret
    exact ⟨by rw [unhide HDC]; first | done | rfl, (unhide H0).b⟩
  subst qo
  by_cases qc : c1 = c2
  case neg =>
    have HDC : Hid (Dc (x = y) = false) := Dc_false (fun e => qc (by rw [← unhide hc1, ← unhide hc2, e]))
    have B0 := BX.two w #[.int .i64 o1, .int .i64 c1, .int .i64 d1, .slice aa AL ac, .int .i64 n1, .int .i64 p1, .int .i64 e1, .slice ea EL ec] #[.int .i64 o1, .int .i64 c2, .int .i64 d2, .slice ba BL bc, .int .i64 n2, .int .i64 p2, .int .i64 e2, .slice fa FL fc] 51 51
    have H0 := hide B0
    clear B0
    go_enter Tryd.func34, Tryd.ntmps34
    go_wp2_with fail
    go_ret
    exact ⟨by rw [unhide HDC]; first | done | rfl, (unhide H0).b⟩
  subst qc
  by_cases qd : d1 = d2
  case neg =>
    have HDC : Hid (Dc (x = y) = false) := Dc_false (fun e => qd (by rw [← unhide hd1, ← unhide hd2, e]))
    have B0 := BX.two w #[.int .i64 o1, .int .i64 c1, .int .i64 d1, .slice aa AL ac, .int .i64 n1, .int .i64 p1, .int .i64 e1, .slice ea EL ec] #[.int .i64 o1, .int .i64 c1, .int .i64 d2, .slice ba BL bc, .int .i64 n2, .int .i64 p2, .int .i64 e2, .slice fa FL fc] 51 51
    have H0 := hide B0
    clear B0
    go_enter Tryd.func34, Tryd.ntmps34
    go_wp2_with fail
    go_ret
    exact ⟨by rw [unhide HDC]; first | done | rfl, (unhide H0).b⟩
  subst qd
  by_cases qn : n1 = n2
  case neg =>
    have HDC : Hid (Dc (x = y) = false) := Dc_false (fun e => qn (by rw [← unhide hn1, ← unhide hn2, e]))
    have B0 := BX.two w #[.int .i64 o1, .int .i64 c1, .int .i64 d1, .slice aa AL ac, .int .i64 n1, .int .i64 p1, .int .i64 e1, .slice ea EL ec] #[.int .i64 o1, .int .i64 c1, .int .i64 d1, .slice ba BL bc, .int .i64 n2, .int .i64 p2, .int .i64 e2, .slice fa FL fc] 51 51
    have H0 := hide B0
    clear B0
    go_enter Tryd.func34, Tryd.ntmps34
    go_wp2_with fail
    go_ret
    exact ⟨by rw [unhide HDC]; first | done | rfl, (unhide H0).b⟩
  subst qn
  by_cases qp : p1 = p2
  case neg =>
    have HDC : Hid (Dc (x = y) = false) := Dc_false (fun e => qp (by rw [← unhide hp1, ← unhide hp2, e]))
    have B0 := BX.two w #[.int .i64 o1, .int .i64 c1, .int .i64 d1, .slice aa AL ac, .int .i64 n1, .int .i64 p1, .int .i64 e1, .slice ea EL ec] #[.int .i64 o1, .int .i64 c1, .int .i64 d1, .slice ba BL bc, .int .i64 n1, .int .i64 p2, .int .i64 e2, .slice fa FL fc] 51 51
    have H0 := hide B0
    clear B0
    go_enter Tryd.func34, Tryd.ntmps34
    go_wp2_with fail
    go_ret
    exact ⟨by rw [unhide HDC]; first | done | rfl, (unhide H0).b⟩
  subst qp
  by_cases qe : e1 = e2
  case neg =>
    have HDC : Hid (Dc (x = y) = false) := Dc_false (fun e => qe (by rw [← unhide he1, ← unhide he2, e]))
    have B0 := BX.two w #[.int .i64 o1, .int .i64 c1, .int .i64 d1, .slice aa AL ac, .int .i64 n1, .int .i64 p1, .int .i64 e1, .slice ea EL ec] #[.int .i64 o1, .int .i64 c1, .int .i64 d1, .slice ba BL bc, .int .i64 n1, .int .i64 p1, .int .i64 e2, .slice fa FL fc] 51 51
    have H0 := hide B0
    clear B0
    go_enter Tryd.func34, Tryd.ntmps34
    go_wp2_with fail
    go_ret
    exact ⟨by rw [unhide HDC]; first | done | rfl, (unhide H0).b⟩
  subst qe
  have H0 := hide (BX.two w #[.int .i64 o1, .int .i64 c1, .int .i64 d1, .slice aa AL ac, .int .i64 n1, .int .i64 p1, .int .i64 e1, .slice ea EL ec] #[.int .i64 o1, .int .i64 c1, .int .i64 d1, .slice ba BL bc, .int .i64 n1, .int .i64 p1, .int .i64 e1, .slice fa FL fc] 51 51)
  by_cases qa : x.args = y.args
  case neg =>
    have HDC : Hid (Dc (x = y) = false) := Dc_false (fun e => qa (by rw [e]))
    rw [show Dc (x.args = y.args) = false from Dc_false qa] at HO
    clear qa
    go_enter Tryd.func34, Tryd.ntmps34
    go_wp2_with fail
    refine (unhide HO _ (unhide H0).b).mono ?_
    rintro e w3 ⟨rfl, b3⟩
    have H3 := hide ((unhide H0).go b3)
    clear b3 H0
    go_wp2_with fail
    go_ret
    exact ⟨by rw [unhide HDC]; first | done | rfl, (unhide H3).b⟩
  have HDC : Hid (Dc (x = y) = Dc (x.ex = y.ex)) := Dc_congr ⟨fun e => by rw [e], fun e => in_ext (by rw [unhide ho1, unhide ho2]) (by rw [unhide hc1, unhide hc2]) (by rw [unhide hd1, unhide hd2]) qa (by rw [unhide hn1, unhide hn2]) (by rw [unhide hp1, unhide hp2]) (by rw [unhide he1, unhide he2]) e⟩
  rw [show Dc (x.args = y.args) = true from Dc_true qa] at HO
  clear qa
  obtain ⟨β, hβ⟩ : ∃ z, Hid (Dc (x.ex = y.ex) = z) := ⟨_, hide rfl⟩
  rw [unhide hβ] at HE HDC
  go_enter Tryd.func34, Tryd.ntmps34
  go_wp2_with fail
  refine (unhide HO _ (unhide H0).b).mono ?_
  rintro e w3 ⟨rfl, b3⟩
  have H3 := hide ((unhide H0).go b3)
  clear b3 H0
  have c7 := (unhide H3).ce 0 rfl 7
  have d7 := (unhide H3).ce 1 rfl 7
  have l0 := (unhide H3).lt (i := 0) rfl
  have l1 := (unhide H3).lt (i := 1) rfl
  simp at c7 d7 l0 l1
  go_wp2_with fail
  refine (unhide HE _ (unhide H3).b).mono ?_
  rintro e w4 ⟨rfl, b4⟩
  have H4 := hide ((unhide H3).go b4)
  clear c7 d7 l0 l1 b4
  go_wp2_with fail
  go_ret
  exact ⟨by rw [unhide HDC]; first | done | rfl, (unhide H4).b⟩
end Go.Proofs.YtpbdmbmafjkinaaDoor
