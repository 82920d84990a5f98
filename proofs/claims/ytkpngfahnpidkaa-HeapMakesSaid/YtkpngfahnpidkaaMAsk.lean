/-
  ask: the others, with any answer.
-/
import Derived.Test.YtkpngfahnpidkaaMBox
namespace Go.Proofs.Ytkpngfahnpidkaa
open Go.RowKit
set_option linter.unusedVariables false
set_option linter.unusedSimpArgs false

set_option maxRecDepth 100000 in
set_option maxHeartbeats 12800000 in
theorem ask_plainV {W w : World} {h : Nat} (p : OpD) {l : List (Int × Int)} (hRt : RtV W p.lv l) (hWB : Below W.heap.size W w) (hN : l.length ≤ 8796093021952) {P : SV → World → World → Prop} {Q : SV → World → Prop} {F : Nat → Prop} (hF : ∀ q, F q → W.heap.size ≤ q ∧ q < w.heap.size) (hl : h < w.heap.size) {cc : Int} (hc3 : ¬ cc = 3) (hc5 : ¬ cc = 5) (hc19 : ¬ cc = 19)
    (HC : ∀ (w2 : World) (g off cap : Nat), Below w.heap.size w w2 → Ro w2 2 (.slice (some ⟨g, off, none⟩) l.length cap) l.length (flat l) → Calls Try.prog 44 #[.pointer (some ⟨h, 0, none⟩), .int .i64 cc, .agg (opC p)] w2 fun e w' => ∃ x, e = .returned (.agg (saidV x)) ∧ P x w2 w')
    (hP : ∀ x w2 w', P x w2 w' → Fr F w2 w') (hQ : ∀ x w2 w3 w', Below w.heap.size w w2 → P x w2 w3 → Fr (fun q => w.heap.size ≤ q ∧ q < w2.heap.size) w3 w' → Q x w') :
    Calls Try.prog 24 #[.pointer (some ⟨h, 0, none⟩), .int .i64 cc, .agg (opC p)] w fun e w' => ∃ x, e = .returned (.tuple #[.agg (saidV x), .bool true]) ∧ Q x w' := by
  have d3 : (cc == 3) = false := by simp; omega
  have d5 : (cc == 5) = false := by simp; omega
  have d19 : (cc == 19) = false := by simp; omega
  have e3 : decide (cc = 3) = false := decide_eq_false hc3
  have e5 : decide (cc = 5) = false := decide_eq_false hc5
  have e19 : decide (cc = 19) = false := decide_eq_false hc19
  have HRT : Hid (∀ w', Below W.heap.size W w' → RtV w' p.lv l) := fun w' hb => hRt.below hb
  have hWs := hWB.size
  obtain ⟨la, lc, elv, hlc, _⟩ := hRt
  have hz1 : (w.alloc (.cells (opC p) 38)).heap.size = w.heap.size + 1 := by simp
  have hz2 : ((w.alloc (.cells (opC p) 38)).alloc (.cells (saidC 0 0 false) 58)).heap.size = w.heap.size + 2 := by simp
  have O0 : Opx ((w.alloc (.cells (opC p) 38)).alloc (.cells (saidC 0 0 false) 58)) w.heap.size p := (Opx.new w p 38).fr ((Fr.refl (fun _ => False) _).alloc (.cells (saidC 0 0 false) 58)) (fun e => e)
  have S0 := Said.new (w.alloc (.cells (opC p) 38)) 0 0 false 58
  rw [hz1] at S0
  have hB0 : Below w.heap.size w ((w.alloc (.cells (opC p) 38)).alloc (.cells (saidC 0 0 false) 58)) := ((Below.refl _ _).alloc (Nat.le_refl _) _).alloc (by simp) _
  have HLE := hide (lent_any (unhide HRT _ (hWB.trans (hB0.mono hWs))) hN)
  have HO := hide O0
  have HS := hide S0
  have HB0 := hide hB0
  have HCC := hide HC
  have HPP := hide hP
  have HQQ := hide hQ
  have HFF := hide hF
  have HZ2 := hide hz2
  have HWB := hide hWB
  have HWS := hide hWs
  have l0 := O0 8 (by omega)
  simp only [opL, List.getElem_cons_zero, List.getElem_cons_succ] at l0
  have ELV := hide elv
  have hNN := hide hN
  have hlc' := hide hlc
  rw [elv] at l0 HLE
  unfold opC saidC at l0 HLE
  rw [elv] at l0 HLE
  clear O0 S0 hB0 HC hP hQ hF hz1 hz2 hWB hWs hlc
  obtain ⟨LL, hLL⟩ : ∃ LL, Hid (l.length = LL) := ⟨_, rfl⟩
  rw [unhide hLL] at hN l0 HLE elv
  unfold opC
  rw [elv]
  clear elv
  go_enter Try.func24, Try.ntmps24
  go_wp2_with fail
  refine (unhide HLE).mono ?_
  rintro e1 w1 ⟨v1, rfl, hG⟩
  obtain ⟨hg1, hg2, hg3⟩ := hG
  have hB1 : Below ((w.alloc (.cells (opC p) 38)).alloc (.cells (saidC 0 0 false) 58)).heap.size ((w.alloc (.cells (opC p) 38)).alloc (.cells (saidC 0 0 false) 58)) w1 := by
    have := hg2
    unfold opC saidC
    rw [unhide ELV, unhide hLL]
    exact this
  have hs1 := hB1.size
  rw [unhide HZ2] at hs1
  obtain ⟨g, off, vcap, ev, hvc, hvm, hgl, _⟩ := hg1.full (by rw [lm_length]; omega)
  have hgB : w.heap.size + 2 ≤ g := by
    have := hg3 g (by rw [ev]; rfl)
    rw [show ((w.alloc (.cells #[.int .i64 p.on, .int .i64 p.call, .int .i64 p.vk, .int .i64 p.vn, .int .i64 p.xk, .int .i64 p.xn, .int .i64 p.i, .int .i64 p.n, .slice la LL lc] 38)).alloc (.cells #[.int .i64 0, .int .i64 0, .int .i64 0, .int .i64 0, .bool false, .int .i64 0, .slice none 0 0, .slice none 0 0, .int .i64 0, .int .i64 0, .bool false, .slice none 0 0] 58)).heap.size = w.heap.size + 2 by simp] at this
    exact this
  rw [lm_length, unhide hLL] at ev hvc
  subst ev
  have hg1' : Ro w1 2 (.slice (some ⟨g, off, none⟩) (LL + 64) vcap) (LL + 64) (flat (l ++ marks 64)) := by
    have := hg1
    rw [lm_length, unhide hLL] at this
    exact this
  have O1 : Opx w1 w.heap.size p := (unhide HO).fr (Fr.of_below (S := fun _ => False) hB1) (fun e => e)
  have S1 : Said w1 (w.heap.size + 1) 0 0 false := (unhide HS).fr (Fr.of_below (S := fun _ => False) hB1) (fun e => e)
  have l1 := O1 8 (by omega)
  simp only [opL, List.getElem_cons_zero, List.getElem_cons_succ] at l1
  rw [unhide ELV, unhide hLL] at l1
  have hbx : w.heap.size < w1.heap.size := O1.lt
  -- the world of the call
  have hA : Below w1.heap.size w1 (w1.alloc (.cells (saidC 0 0 false) 58)) := (Below.refl _ _).alloc (Nat.le_refl _) _
  have frA : Fr (fun _ => False) w1 (w1.alloc (.cells (saidC 0 0 false) 58)) := Fr.of_below hA
  have hBw : Below w.heap.size w (w1.alloc (.cells (saidC 0 0 false) 58)) := ((unhide HB0).trans (hB1.mono (by rw [unhide HZ2]; omega))).trans (hA.mono (by omega))
  have hRo2 : Ro (w1.alloc (.cells (saidC 0 0 false) 58)) 2 (.slice (some ⟨g, off, none⟩) (LL + 64) vcap) (LL + 64) (flat (l ++ marks 64)) := hg1'.fr frA (fun _ _ e => e)
  have hin : Ro (w1.alloc (.cells (saidC 0 0 false) 58)) 2 (.slice (some ⟨g, off, none⟩) l.length vcap) l.length (flat l) := by
    have := hRo2.upto (k := l.length) rfl (by rw [unhide hLL]; omega)
    rw [flat_take, List.take_left'] at this
    · exact this
    · rfl
  have T2 : Said (w1.alloc (.cells (saidC 0 0 false) 58)) w1.heap.size 0 0 false := Said.new _ _ _ _ _
  have O2 := O1.fr frA (fun e => e)
  have S2 := S1.fr frA (fun e => e)
  have HCALL := hide (unhide HCC _ g off vcap hBw hin)
  try rw [unhide hLL] at HCALL
  unfold saidC at HCALL
  have HK := hide (And.intro hBw (And.intro hRo2 (And.intro T2 (And.intro O2 S2))))
  have o0 := O2 0 (by omega)
  have o1 := O2 1 (by omega)
  have o2 := O2 2 (by omega)
  have o3 := O2 3 (by omega)
  have o4 := O2 4 (by omega)
  have o5 := O2 5 (by omega)
  have o6 := O2 6 (by omega)
  have o7 := O2 7 (by omega)
  have o8 := O2 8 (by omega)
  simp only [opL, List.getElem_cons_zero, List.getElem_cons_succ] at o0 o1 o2 o3 o4 o5 o6 o7 o8
  unfold saidC at o0 o1 o2 o3 o4 o5 o6 o7 o8
  rw [unhide ELV, unhide hLL] at o8
  unfold opC at HCALL
  rw [unhide ELV, unhide hLL] at HCALL
  have n1 : LL ≤ vcap := by omega
  unfold maxLen at hvm
  have j0 : (0 : Int) ≤ (LL : Int) := by omega
  have j1 : (LL : Int) ≤ (vcap : Int) := by omega
  have n2 : ¬ vcap < LL := by omega
  have HGB := hide hgB
  have HGL := hide hgl
  clear hg1 hg1' hg2 hg3 hB1 O1 S1 hA frA hBw hRo2 hin T2 O2 S2 hgB hgl
  go_wp2_with fail
  refine (unhide HCALL).mono ?_
  rintro e2 w3 ⟨⟨x0, x1, x2, x3, xo, xk, xia, xil, xic, xka, xkl, xkc, xf, xc, xs⟩, rfl, hp3⟩
  simp only [saidV]
  obtain ⟨hBw, hRo2, T2, O2, S2⟩ := unhide HK
  have f3 := unhide HPP _ _ w3 hp3
  have hgB := unhide HGB
  have hgl := unhide HGL
  have nF : ∀ q, w.heap.size ≤ q → ¬ F q := fun q hq e => by have := (unhide HFF q e).2; omega
  have hT3 := T2.fr f3 (nF _ (by omega))
  have hO3 := O2.fr f3 (nF _ (by omega))
  have hS3 := S2.fr f3 (nF _ (by omega))
  have hR3 := hRo2.fr f3 (fun q hq => nF q (by simp [Value.ownBlock] at hq; omega))
  have hb3 : Below W.heap.size W w3 := ((unhide HWB).trans (hBw.mono (unhide HWS))).trans (f3.below (Nat.le_trans (unhide HWS) hBw.size) (fun q hq e => by have := (unhide HFF q e).1; omega))
  obtain ⟨hT4, f4⟩ := (show SaidV ((((((((((((w3.setCell ⟨w1.heap.size, 0, none⟩ (.int .i64 x0)).setCell ⟨w1.heap.size, 1, none⟩ (.int .i64 x1)).setCell ⟨w1.heap.size, 2, none⟩ (.int .i64 x2)).setCell ⟨w1.heap.size, 3, none⟩ (.int .i64 x3)).setCell ⟨w1.heap.size, 4, none⟩ (.bool xo)).setCell ⟨w1.heap.size, 5, none⟩ (.int .i64 xk)).setCell ⟨w1.heap.size, 6, none⟩ (.slice xia xil xic)).setCell ⟨w1.heap.size, 7, none⟩ (.slice xka xkl xkc)).setCell ⟨w1.heap.size, 8, none⟩ (.int .i64 xf)).setCell ⟨w1.heap.size, 9, none⟩ (.int .i64 xc)).setCell ⟨w1.heap.size, 10, none⟩ (.bool xs)).setCell ⟨w1.heap.size, 11, none⟩ (.slice none 0 0)) w1.heap.size (SV.mk x0 x1 x2 x3 xo xk xia xil xic xka xkl xkc xf xc xs) ∧ Fr (fun q => q = w1.heap.size) w3 ((((((((((((w3.setCell ⟨w1.heap.size, 0, none⟩ (.int .i64 x0)).setCell ⟨w1.heap.size, 1, none⟩ (.int .i64 x1)).setCell ⟨w1.heap.size, 2, none⟩ (.int .i64 x2)).setCell ⟨w1.heap.size, 3, none⟩ (.int .i64 x3)).setCell ⟨w1.heap.size, 4, none⟩ (.bool xo)).setCell ⟨w1.heap.size, 5, none⟩ (.int .i64 xk)).setCell ⟨w1.heap.size, 6, none⟩ (.slice xia xil xic)).setCell ⟨w1.heap.size, 7, none⟩ (.slice xka xkl xkc)).setCell ⟨w1.heap.size, 8, none⟩ (.int .i64 xf)).setCell ⟨w1.heap.size, 9, none⟩ (.int .i64 xc)).setCell ⟨w1.heap.size, 10, none⟩ (.bool xs)).setCell ⟨w1.heap.size, 11, none⟩ (.slice none 0 0)) from hT3.setV (SV.mk x0 x1 x2 x3 xo xk xia xil xic xka xkl xkc xf xc xs))
  have hO4 := hO3.fr f4 (by omega)
  have hS4 := hS3.fr f4 (by omega)
  have hR4 := hR3.fr f4 (fun q hq => by simp [Value.ownBlock] at hq; omega)
  have hb4 : Below W.heap.size W ((((((((((((w3.setCell ⟨w1.heap.size, 0, none⟩ (.int .i64 x0)).setCell ⟨w1.heap.size, 1, none⟩ (.int .i64 x1)).setCell ⟨w1.heap.size, 2, none⟩ (.int .i64 x2)).setCell ⟨w1.heap.size, 3, none⟩ (.int .i64 x3)).setCell ⟨w1.heap.size, 4, none⟩ (.bool xo)).setCell ⟨w1.heap.size, 5, none⟩ (.int .i64 xk)).setCell ⟨w1.heap.size, 6, none⟩ (.slice xia xil xic)).setCell ⟨w1.heap.size, 7, none⟩ (.slice xka xkl xkc)).setCell ⟨w1.heap.size, 8, none⟩ (.int .i64 xf)).setCell ⟨w1.heap.size, 9, none⟩ (.int .i64 xc)).setCell ⟨w1.heap.size, 10, none⟩ (.bool xs)).setCell ⟨w1.heap.size, 11, none⟩ (.slice none 0 0)) := hb3.trans (f4.below hb3.size (fun q hq e => by have := unhide HWS; omega))
  have HKE := hide (kept_any (by rw [lm_length, unhide hLL]; exact hR4) (unhide HRT _ hb4) (unhide hNN))
  rw [unhide ELV, unhide hLL] at HKE
  have l4 := hO4 8 (by omega)
  simp only [opL, List.getElem_cons_zero, List.getElem_cons_succ] at l4
  rw [unhide ELV, unhide hLL] at l4
  have tf := hT3.2
  have t0 := hT3.1 0 (by omega)
  have t1 := hT3.1 1 (by omega)
  have t2 := hT3.1 2 (by omega)
  have t3 := hT3.1 3 (by omega)
  have t4 := hT3.1 4 (by omega)
  have t5 := hT3.1 5 (by omega)
  have t6 := hT3.1 6 (by omega)
  have t7 := hT3.1 7 (by omega)
  have t8 := hT3.1 8 (by omega)
  have t9 := hT3.1 9 (by omega)
  have t10 := hT3.1 10 (by omega)
  have t11 := hT3.1 11 (by omega)
  simp only [saidL, saidLV, List.getElem_cons_zero, List.getElem_cons_succ] at t0 t1 t2 t3 t4 t5 t6 t7 t8 t9 t10 t11
  have hq3 : w1.heap.size < w3.heap.size := hT3.lt
  have hx3 : w.heap.size < w3.heap.size := hO3.lt
  have HK4 := hide (And.intro hT4 (And.intro f4 (And.intro hS4 hR4)))
  have HP3 := hide hp3
  have hx4 : w.heap.size < ((((((((((((w3.setCell ⟨w1.heap.size, 0, none⟩ (.int .i64 x0)).setCell ⟨w1.heap.size, 1, none⟩ (.int .i64 x1)).setCell ⟨w1.heap.size, 2, none⟩ (.int .i64 x2)).setCell ⟨w1.heap.size, 3, none⟩ (.int .i64 x3)).setCell ⟨w1.heap.size, 4, none⟩ (.bool xo)).setCell ⟨w1.heap.size, 5, none⟩ (.int .i64 xk)).setCell ⟨w1.heap.size, 6, none⟩ (.slice xia xil xic)).setCell ⟨w1.heap.size, 7, none⟩ (.slice xka xkl xkc)).setCell ⟨w1.heap.size, 8, none⟩ (.int .i64 xf)).setCell ⟨w1.heap.size, 9, none⟩ (.int .i64 xc)).setCell ⟨w1.heap.size, 10, none⟩ (.bool xs)).setCell ⟨w1.heap.size, 11, none⟩ (.slice none 0 0)).heap.size := hO4.lt
  clear hBw hRo2 T2 O2 S2 f3 hgB hgl nF hT3 hO3 hS3 hR3 hb3 hT4 f4 hO4 hS4 hR4 hb4 hp3
  go_wp2_with fail
  refine (unhide HKE).mono ?_
  rintro e3 w5 ⟨rfl, hb5⟩
  obtain ⟨hT4, f4, hS4, hR4⟩ := unhide HK4
  have fr5 : Fr (fun _ => False) ((((((((((((w3.setCell ⟨w1.heap.size, 0, none⟩ (.int .i64 x0)).setCell ⟨w1.heap.size, 1, none⟩ (.int .i64 x1)).setCell ⟨w1.heap.size, 2, none⟩ (.int .i64 x2)).setCell ⟨w1.heap.size, 3, none⟩ (.int .i64 x3)).setCell ⟨w1.heap.size, 4, none⟩ (.bool xo)).setCell ⟨w1.heap.size, 5, none⟩ (.int .i64 xk)).setCell ⟨w1.heap.size, 6, none⟩ (.slice xia xil xic)).setCell ⟨w1.heap.size, 7, none⟩ (.slice xka xkl xkc)).setCell ⟨w1.heap.size, 8, none⟩ (.int .i64 xf)).setCell ⟨w1.heap.size, 9, none⟩ (.int .i64 xc)).setCell ⟨w1.heap.size, 10, none⟩ (.bool xs)).setCell ⟨w1.heap.size, 11, none⟩ (.slice none 0 0)) w5 := Fr.of_below hb5
  have hT5 := hT4.fr fr5 (fun e => e)
  have hS5 := hS4.fr fr5 (fun e => e)
  have hR5 := hR4.fr fr5 (fun _ _ e => e)
  have F5 : Hid (Fr (fun q => w.heap.size ≤ q ∧ q < w1.heap.size + 1) w3 w5) := (f4.mono (fun q _ e => by omega)).trans (fr5.mono (fun _ _ e => e.elim))
  have HK5 := hide (And.intro hT5 (And.intro hS5 hR5))
  have hlen : Hid ((l ++ marks 64).length = LL + 64) := by unfold Hid; rw [lm_length, unhide hLL]
  clear hb5 hT4 f4 hS4 hR4 fr5 hT5 hS5 hR5 l4 t0 t1 t2 t3 t4 t5 t6 t7 t8 t9 t10 t11 tf hx4 hq3 hx3
  go_wp2_with fail
  go_loopg [12] (LL + 64) (fun gg t12 wr => ∃ (i : Nat) (QQ : List (Int × Int)), Hid (i + gg = LL + 64) ∧ t12 = .int .i64 (i : Int) ∧ Hid (QQ.length = LL + 64 ∧ Ro wr 2 (.slice (some ⟨g, off, none⟩) (LL + 64) vcap) (LL + 64) (flat QQ) ∧ Fr (fun q => q = g) w5 wr))
  case atStart => exact ⟨0, _, by unfold Hid; omega, rfl, unhide hlen, (unhide HK5).2.2, Fr.refl _ _⟩
  case round =>
    obtain ⟨i, QQ, hi, rfl, hI⟩ := hrel
    by_cases hlt : i < LL + 64
    · obtain ⟨q1, q2, q3⟩ := unhide hI
      obtain ⟨⟨u0, c0⟩, ⟨u1, c1⟩, cf, hgr, r1, r2⟩ := q2.put q1 hlt (77, (i : Int))
      have cf0 := cf (off + i * 2)
      have cf1 := cf (off + i * 2 + 1)
      have hI2 : Hid ((QQ.set i (77, (i : Int))).length = LL + 64 ∧ Ro ((wr.setCell ⟨g, off + i * 2, none⟩ (.int .i64 77)).setCell ⟨g, off + i * 2 + 1, none⟩ (.int .i64 (i : Int))) 2 (.slice (some ⟨g, off, none⟩) (LL + 64) vcap) (LL + 64) (flat (QQ.set i (77, (i : Int)))) ∧ Fr (fun q => q = g) w5 ((wr.setCell ⟨g, off + i * 2, none⟩ (.int .i64 77)).setCell ⟨g, off + i * 2 + 1, none⟩ (.int .i64 (i : Int)))) := ⟨by rw [List.length_set]; exact q1, r1, q3.trans r2⟩
      have i0 : (0 : Int) ≤ (i : Int) := by omega
      have i1 : (i : Int) < (LL : Int) + 64 := by omega
      clear q1 q2 q3 r1 r2 cf
      go_wp2_with fail
      go_roundg (gk - 1)
      case measure => have := unhide hi; omega
      case rel => exact ⟨i + 1, _, by have := unhide hi; unfold Hid; omega, by go_num, hI2⟩
    · have hiL : i = LL + 64 := by have := unhide hi; omega
      subst hiL
      obtain ⟨q1, q2, q3⟩ := unhide hI
      obtain ⟨hT5, hS5, _⟩ := unhide HK5
      have hgB := unhide HGB
      have hgl := unhide HGL
      have hT6 := hT5.fr q3 (by omega)
      have hS6 := hS5.fr q3 (by omega)
      obtain ⟨hZ, fz⟩ := hS6.setV (SV.mk x0 x1 x2 x3 xo xk xia xil xic xka xkl xkc xf xc xs)
      have ff : Fr (fun q => w.heap.size ≤ q ∧ q < w1.heap.size + 1) w3 (wr.setCells (w.heap.size + 1) 0 (saidLV (SV.mk x0 x1 x2 x3 xo xk xia xil xic xka xkl xkc xf xc xs))) := ((unhide F5).trans (q3.mono (fun q _ e => by omega))).trans (fz.mono (fun q _ e => by omega))
      have hQ8 := hide (unhide HQQ _ (w1.alloc (.cells (saidC 0 0 false) 58)) w3 _ (unhide HK).1 (unhide HP3) (ff.mono (fun q _ e => by simpa using e)))
      have tf := hT6.2
      have t0 := hT6.1 0 (by omega)
      have t1 := hT6.1 1 (by omega)
      have t2 := hT6.1 2 (by omega)
      have t3 := hT6.1 3 (by omega)
      have t4 := hT6.1 4 (by omega)
      have t5 := hT6.1 5 (by omega)
      have t6 := hT6.1 6 (by omega)
      have t7 := hT6.1 7 (by omega)
      have t8 := hT6.1 8 (by omega)
      have t9 := hT6.1 9 (by omega)
      have t10 := hT6.1 10 (by omega)
      have t11 := hT6.1 11 (by omega)
      simp only [saidL, saidLV, List.getElem_cons_zero, List.getElem_cons_succ] at t0 t1 t2 t3 t4 t5 t6 t7 t8 t9 t10 t11
      have rf := hS6.2
      have r0 := hS6.1 0 (by omega)
      have r1 := hS6.1 1 (by omega)
      have r2 := hS6.1 2 (by omega)
      have r3 := hS6.1 3 (by omega)
      have r4 := hS6.1 4 (by omega)
      have r5 := hS6.1 5 (by omega)
      have r6 := hS6.1 6 (by omega)
      have r7 := hS6.1 7 (by omega)
      have r8 := hS6.1 8 (by omega)
      have r9 := hS6.1 9 (by omega)
      have r10 := hS6.1 10 (by omega)
      have r11 := hS6.1 11 (by omega)
      simp only [saidL, saidLV, List.getElem_cons_zero, List.getElem_cons_succ] at r0 r1 r2 r3 r4 r5 r6 r7 r8 r9 r10 r11
      have hqt : w1.heap.size < wr.heap.size := hT6.lt
      have hqr : w.heap.size + 1 < wr.heap.size := hS6.lt
      have HZ8 := hide hZ
      clear q1 q2 q3 hT5 hS5 hgB hgl hT6 hS6 hZ fz ff
      go_wp2_with fail
      show bodyPost Try.prog Try.f24 _ Exit.ret _ (wr.setCells (w.heap.size + 1) 0 (saidLV (SV.mk x0 x1 x2 x3 xo xk xia xil xic xka xkl xkc xf xc xs)))
      have hZ := unhide HZ8
      clear t0 r0 t1 r1 t2 r2 t3 r3 t4 r4 t5 r5 t6 r6 t7 r7 t8 r8 t9 r9 t10 r10 t11 r11 tf rf hqt hqr HZ8
      generalize wr.setCells (w.heap.size + 1) 0 (saidLV (SV.mk x0 x1 x2 x3 xo xk xia xil xic xka xkl xkc xf xc xs)) = W8 at *
      have z0 := hZ.1 0 (by omega)
      have z1 := hZ.1 1 (by omega)
      have z2 := hZ.1 2 (by omega)
      have z3 := hZ.1 3 (by omega)
      have z4 := hZ.1 4 (by omega)
      have z5 := hZ.1 5 (by omega)
      have z6 := hZ.1 6 (by omega)
      have z7 := hZ.1 7 (by omega)
      have z8 := hZ.1 8 (by omega)
      have z9 := hZ.1 9 (by omega)
      have z10 := hZ.1 10 (by omega)
      have z11 := hZ.1 11 (by omega)
      simp only [saidL, saidLV, List.getElem_cons_zero, List.getElem_cons_succ] at z0 z1 z2 z3 z4 z5 z6 z7 z8 z9 z10 z11
      refine bodyPost_ret (v := .tuple #[.agg (saidV (SV.mk x0 x1 x2 x3 xo xk xia xil xic xka xkl xkc xf xc xs)), .bool true]) (by simp [results, Try.results24, go_sem, saidV, z0, z1, z2, z3, z4, z5, z6, z7, z8, z9, z10, z11]) rfl ?_
      exact ⟨_, rfl, unhide hQ8⟩
end Go.Proofs.Ytkpngfahnpidkaa
