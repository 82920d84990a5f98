/-
  VerifyProgram holds.
-/
import Derived.Test.YtbkfnmkfbdoadaaGreatDoorTPrg
import Derived.Test.YtbkfnmkfbdoadaaGreatDoorLent
import Derived.Test.YtbkfnmkfbdoadaaGreatDoorKP
namespace Go.Proofs.YtbkfnmkfbdoadaaGreatDoor
open Go.RowKit
set_option linter.unusedVariables false
set_option linter.unusedSimpArgs false
/-- Facts that can be read. -/
def FcW (w : World) (hv mv : Value) (Ls : List (List Int)) : Prop :=
  ∃ vs, Ro w 1 hv Ls.length vs ∧ (∀ (i : Nat) (l : List Int) (u : Value), Ls[i]? = some l → vs[i]? = some u → Ro w 1 u l.length (flt enN l)) ∧ Ro w 1 mv Ls.length (flt enN (Ls.map mxl))
theorem FcR.fcw {B : Nat} {w : World} {hv mv : Value} {Ls : List (List Int)} (h : FcR B w hv mv Ls) : FcW w hv mv Ls := by
  obtain ⟨vs, h1, h2, h3, _⟩ := h
  exact ⟨vs, h1, fun i l u a b => (h2 i l u a b).1, h3⟩
theorem FcW.nil (w : World) : FcW w (.slice none 0 0) (.slice none 0 0) [] := ⟨[], Ro.nil _ _, fun i l u h => by simp at h, Ro.nil _ _⟩
theorem FcW.fr {S : Nat → Prop} {w w' : World} {hv mv : Value} {Ls : List (List Int)} (h : FcW w hv mv Ls) (f : Fr (fun _ => False) w w') : FcW w' hv mv Ls := by
  obtain ⟨vs, h1, h2, h3⟩ := h
  exact ⟨vs, h1.fr f (fun _ _ e => e), fun i l u a b => (h2 i l u a b).fr f (fun _ _ e => e), h3.fr f (fun _ _ e => e)⟩
theorem Ro.at1 {w : World} {v : Value} {n : Nat} {vs : List Value} (h : Ro w 1 v n vs) {i : Nat} (hi : i < n) : ∃ b off cap u, v = .slice (some ⟨b, off, none⟩) n cap ∧ b < w.heap.size ∧ vs[i]? = some u ∧ w.cell? ⟨b, off + i, none⟩ = some u := by
  obtain ⟨g, off, cap, e, _, _, hl, hc⟩ := h.full (by omega)
  have hv : i < vs.length := by have := h.1; omega
  refine ⟨g, off, cap, vs[i], e, hl, List.getElem?_eq_getElem hv, ?_⟩
  rw [hc i (by omega)]
  exact List.getElem?_eq_getElem hv
set_option maxRecDepth 100000 in
set_option maxHeartbeats 3200000 in
theorem sameRows_any {w : World} {u v : Value} {vs us : List Value} {Ls : List (List Int)} (hN : Ls.length ≤ 1048576) (hu : Ro w 1 u Ls.length us) (hv : Ro w 1 v Ls.length vs) (eu : ∀ (i : Nat) (l : List Int) (z : Value), Ls[i]? = some l → us[i]? = some z → Ro w 1 z l.length (flt enN l)) (ev : ∀ (i : Nat) (l : List Int) (z : Value), Ls[i]? = some l → vs[i]? = some z → Ro w 1 z l.length (flt enN l)) :
    Calls Tryz.prog 23 #[u, v] w fun e w' => e = .returned (.bool true) ∧ ∃ k, w' = w.drewN k := by
  have HU := hide hu
  have HV := hide hv
  have HEU := hide eu
  have HEV := hide ev
  obtain ⟨ua, uc, rfl, _, _⟩ := hu.shape
  obtain ⟨va, vc, rfl, _, _⟩ := hv.shape
  obtain ⟨N, hNn⟩ : ∃ n, Hid (Ls.length = n) := ⟨_, rfl⟩
  rw [unhide hNn] at hN HU HV ⊢
  have d0 : (((N : Nat) : Int) != (N : Int)) = false := by simp
  clear hu hv eu ev
  go_enter Tryz.func23, Tryz.ntmps23
  go_wp2_with fail
  go_loopg [5] N (fun gg t5 wr => ∃ (i : Nat), Hid (i + gg = N) ∧ t5 = .int .i64 (i : Int) ∧ Hid (∃ k, wr = w.drewN k))
  case atStart => exact ⟨0, by unfold Hid; omega, rfl, 0, rfl⟩
  case round =>
    obtain ⟨i, hi, rfl, hB⟩ := hrel
    by_cases hlt : i < N
    · have hil : i < Ls.length := by rw [unhide hNn]; exact hlt
      obtain ⟨l, hl⟩ : ∃ l, Ls[i]? = some l := ⟨_, List.getElem?_eq_getElem hil⟩
      obtain ⟨b1, o1, c1, z1, e1, l1, g1, k1⟩ := (unhide HU).at1 hlt
      obtain ⟨b2, o2, c2, z2, e2, l2, g2, k2⟩ := (unhide HV).at1 hlt
      have e1' : ua = some ⟨b1, o1, none⟩ := by injection e1
      have e2' : va = some ⟨b2, o2, none⟩ := by injection e2
      subst e1' e2'
      obtain ⟨kk, ekk⟩ := unhide hB
      have fw : Hid (Fr (fun _ => False) w wr) := by unfold Hid; rw [ekk]; exact Fr.drewN kk
      have k1 := ((unhide fw).cell (a := ⟨b1, o1 + i, none⟩) l1 (fun e => e)).trans k1
      have k2 := ((unhide fw).cell (a := ⟨b2, o2 + i, none⟩) l2 (fun e => e)).trans k2
      have l1 := Nat.lt_of_lt_of_le l1 (unhide fw).size
      have l2 := Nat.lt_of_lt_of_le l2 (unhide fw).size
      have HS := hide (fun (wx : World) (h : Fr (fun _ => False) w wx) => sameN_any (Rn.of_ro ((unhide HEU i l z1 hl g1).fr h (fun _ _ e => e))) (Rn.of_ro ((unhide HEV i l z2 hl g2).fr h (fun _ _ e => e))))
      obtain ⟨za, zc, ez, _, _⟩ := (unhide HEU i l z1 hl g1).shape
      obtain ⟨ya, yc, ey, _, _⟩ := (unhide HEV i l z2 hl g2).shape
      subst ez ey
      have i0 : (0 : Int) ≤ (i : Int) := by omega
      have i1 : (i : Int) < (N : Int) := by omega
      have HEK := hide ekk
      clear e1 e2 g1 g2 hl ekk
      go_wp2_with fail
      go_quiet (first | (go_at_call 24; exact Calls.quiet_of (unhide HS _ ((unhide fw).trans (Fr.drewN _)))))
      go_wp2_with fail
      go_roundg (gk - 1)
      case measure => have := unhide hi; omega
      case rel => exact ⟨i + 1, by have := unhide hi; unfold Hid; omega, by go_num, kk + nq, by rw [unhide HEK, World.drewN_drewN]⟩
    · have i1 : ¬ (i : Int) < (N : Int) := by omega
      go_wp2_with fail
      go_ret
      exact ⟨rfl, unhide hB⟩
set_option maxRecDepth 100000 in
set_option maxHeartbeats 3200000 in
theorem sameFacts_any {w : World} {h1 m1 h2 m2 : Value} {Ls : List (List Int)} (hN : Ls.length ≤ 1048576) (F1 : FcW w h1 m1 Ls) (F2 : FcW w h2 m2 Ls) :
    Calls Tryz.prog 9 #[.agg #[h1, m1], .agg #[h2, m2]] w fun e w' => e = .returned (.bool true) ∧ Below w.heap.size w w' := by
  have HF := hide (fun (wx : World) (h : Fr (fun _ => False) w wx) => (show Calls Tryz.prog 23 #[h1, h2] wx (fun e w' => e = .returned (.bool true) ∧ ∃ k, w' = wx.drewN k) from by
    obtain ⟨vs, a1, a2, a3⟩ := F1.fr (S := fun _ => False) h
    obtain ⟨us, b1, b2, b3⟩ := F2.fr (S := fun _ => False) h
    exact sameRows_any hN a1 b1 a2 b2))
  have HG := hide (fun (wx : World) (h : Fr (fun _ => False) w wx) => (show Calls Tryz.prog 24 #[m1, m2] wx (fun e w' => e = .returned (.bool true) ∧ ∃ k, w' = wx.drewN k) from by
    obtain ⟨vs, a1, a2, a3⟩ := F1.fr (S := fun _ => False) h
    obtain ⟨us, b1, b2, b3⟩ := F2.fr (S := fun _ => False) h
    exact sameN_any (l := Ls.map mxl) (Rn.of_ro (by rw [List.length_map]; exact a3)) (Rn.of_ro (by rw [List.length_map]; exact b3))))
  obtain ⟨_, a1, _, a3⟩ := F1
  obtain ⟨_, b1, _, b3⟩ := F2
  obtain ⟨p1, q1, rfl, _, _⟩ := a1.shape
  obtain ⟨p2, q2, rfl, _, _⟩ := a3.shape
  obtain ⟨p3, q3, rfl, _, _⟩ := b1.shape
  obtain ⟨p4, q4, rfl, _, _⟩ := b3.shape
  obtain ⟨N, hNn⟩ : ∃ n, Hid (Ls.length = n) := ⟨_, rfl⟩
  rw [unhide hNn] at HF HG ⊢
  obtain ⟨X, eX⟩ : ∃ X, X = (w.alloc (.cells #[.slice p1 N q1, .slice p2 N q2] 29)).alloc (.cells #[.slice p3 N q3, .slice p4 N q4] 29) := ⟨_, rfl⟩
  obtain ⟨t1, t2, t3, t4⟩ := two_boxes w #[.slice p1 N q1, .slice p2 N q2] #[.slice p3 N q3, .slice p4 N q4] 29 29
  rw [← eX] at t1 t2 t3 t4
  have x1 := t1 1
  have x2 := t2 1
  have HB := hide t3
  have fX : Hid (Fr (fun _ => False) w X) := Fr.of_below t3
  have ls1 : w.heap.size < X.heap.size := by omega
  have ls2 : w.heap.size + 1 < X.heap.size := by omega
  clear a1 a3 b1 b3 t1 t2 t3 t4
  go_enter Tryz.func9, Tryz.ntmps9
  go_wp2_with fail
  rw [← eX]
  refine (unhide HF _ (unhide fX)).mono ?_
  rintro e W2 ⟨rfl, k, ek⟩
  have f2 : Fr (fun _ => False) X W2 := by rw [ek]; exact Fr.drewN k
  have HFW : Hid (Fr (fun _ => False) w W2) := (unhide fX).trans f2
  have x1 := (f2.cell (a := ⟨w.heap.size, 1, none⟩) ls1 (fun e => e)).trans x1
  have x2 := (f2.cell (a := ⟨w.heap.size + 1, 1, none⟩) ls2 (fun e => e)).trans x2
  have ls1 := Nat.lt_of_lt_of_le ls1 f2.size
  have ls2 := Nat.lt_of_lt_of_le ls2 f2.size
  clear ek f2 eX
  simp at x1 x2
  go_wp2_with fail
  refine (unhide HG _ (unhide HFW)).mono ?_
  rintro e W3 ⟨rfl, k, ek⟩
  have HE : Hid (Below w.heap.size w W3) := by unfold Hid; rw [ek]; exact ((unhide HFW).trans (Fr.drewN k)).below (Nat.le_refl _) (fun _ _ e => e)
  clear ek
  go_wp2_with fail
  go_ret
  exact ⟨rfl, unhide HE⟩
set_option maxRecDepth 100000 in
theorem num8_any (w : World) (n : Int) : Calls Tryz.prog 8 #[.int .i64 n] w fun e w' => e = .returned (.int .i64 n) ∧ w' = w := by
  go_enter Tryz.func8, Tryz.ntmps8
  go_wp2_with fail
  go_ret
  exact ⟨rfl, rfl⟩

set_option linter.unusedVariables false
set_option linter.unusedSimpArgs false
theorem facts_of {B : Nat} {w : World} {fa : Value} {L : Option (List (List Int))} (h1 : L = none → fa = .agg #[.slice none 0 0, .slice none 0 0]) (h2 : ∀ Ls, L = some Ls → ∃ hv mv, fa = .agg #[hv, mv] ∧ FcR B w hv mv Ls) :
    ∃ ha hn hc ma mn mc, fa = .agg #[.slice ha hn hc, .slice ma mn mc] ∧ FcW w (.slice ha hn hc) (.slice ma mn mc) (L.getD []) := by
  cases L with
  | none => exact ⟨_, _, _, _, _, _, h1 rfl, FcW.nil w⟩
  | some Ls =>
    obtain ⟨hv, mv, rfl, hf⟩ := h2 Ls rfl
    have hf := hf.fcw
    obtain ⟨vs, a1, a2, a3⟩ := id hf
    obtain ⟨p1, q1, rfl, _, _⟩ := a1.shape
    obtain ⟨p2, q2, rfl, _, _⟩ := a3.shape
    exact ⟨_, _, _, _, _, _, rfl, hf⟩
theorem Laid.blw {B : Nat} {w w' : World} (h : Laid w) (f : Below B w w') (hB : 0 < B) : Laid w' := (f.cell (p := ⟨0, 0, none⟩) hB).trans h
/-- Boxes of two cells, one behind the other. -/
theorem boxes2 {w wr : World} {u v x y : Value} {e f : TypeId} (h : Below (w.heap.size + 2) ((w.alloc (.cells #[u, v] e)).alloc (.cells #[x, y] f)) wr) :
    wr.cell? ⟨w.heap.size, 0, none⟩ = some u ∧ wr.cell? ⟨w.heap.size, 1, none⟩ = some v ∧ wr.cell? ⟨w.heap.size + 1, 0, none⟩ = some x ∧ wr.cell? ⟨w.heap.size + 1, 1, none⟩ = some y ∧ Below w.heap.size w wr ∧ w.heap.size + 2 ≤ wr.heap.size := by
  have hs := h.size
  obtain ⟨t1, t2, t3, t4⟩ := two_boxes w #[u, v] #[x, y] e f
  rw [t4] at hs
  have c1 := fun o => (h.cell (p := ⟨w.heap.size, o, none⟩) (by simp)).trans (t1 o)
  have c2 := fun o => (h.cell (p := ⟨w.heap.size + 1, o, none⟩) (by simp)).trans (t2 o)
  exact ⟨c1 0, c1 1, c2 0, c2 1, t3.trans (h.mono (by omega)), hs⟩
set_option maxRecDepth 100000 in
set_option maxHeartbeats 6400000 in
theorem verifyProgramLaw {w : World} {v : Value} {p : Pg} (h : PgV w v p) (hN : p.funcs.length ≤ 1048576) (hC : p.consts.length ≤ 1048576) (hBD : ∀ (i : Nat) (f : Fc), p.funcs[i]? = some f → f.code.length ≤ 1048576 ∧ f.hs.length ≤ 1048576) (hok : OkP p) (hokr : ∀ (i : Nat) (f : Fc), p.funcs[i]? = some f → f.code.length ≤ 9000000000000 ∧ f.name.size ≤ 9223372036854775807 ∧ ∀ q ∈ f.code, I64 q.2) (hl : Laid w) :
    Calls Tryz.prog 3 #[v] w fun e w' => e = .returned (.bool true) ∧ Below w.heap.size w w' := by
  have gl : 0 < w.heap.size := World.block_lt_of_cell? _ _ hl
  have HPV := hide h
  have HBD := hide hBD
  obtain ⟨cv, fv, rfl, hc, hf⟩ := h
  obtain ⟨fa, cap, rfl, _, _, hat⟩ := hf.at
  obtain ⟨_, ca, ccap, rfl, _, _, _⟩ := hc
  clear hf hat hBD
  obtain ⟨NC, hNC⟩ : ∃ L, Hid (p.consts.length = L) := ⟨_, rfl⟩
  obtain ⟨NF, hNF⟩ : ∃ L, Hid (p.funcs.length = L) := ⟨_, rfl⟩
  have H5 := hide (fun (wx : World) (q : Value) (hx : PgV wx q p) => tprogram_any hx (by omega) hokr)
  have H7 := hide (fun (wx : World) (q : Value) (hx : PgV wx q p) (hy : Laid wx) => program_any hx hok hy)
  have HLn := hide (fun (wx : World) (hx : PgV wx (.agg #[.slice ca p.consts.length ccap, .slice fa p.funcs.length cap]) p) => lent_any hx hN hC (unhide HBD))
  have HN := hide hN
  have HC := hide hC
  have HLD := hide hl
  have HGL := hide gl
  rw [unhide hNC] at HPV HLn ⊢
  rw [unhide hNF] at HPV HLn ⊢
  obtain ⟨X1, eX1⟩ : ∃ X1, X1 = w.alloc (.cells #[.slice ca NC ccap, .slice fa NF cap] 25) := ⟨_, rfl⟩
  have F1 : Hid (Below (w.heap.size + 1) (w.alloc (.cells #[.slice ca NC ccap, .slice fa NF cap] 25)) X1) := by unfold Hid; rw [eX1]; exact Below.refl _ _
  obtain ⟨p0, p1, hl1, hs1⟩ := box2 (unhide F1)
  have HL1 := hide hl1
  have HS1 := hide hs1
  clear hl1 hs1 p0 p1 hok hokr hN hC hl gl
  go_enter Tryz.func3, Tryz.ntmps3
  go_wp2_with fail
  rw [← eX1]
  clear eX1
  refine (unhide H5 X1 _ ((unhide HPV).below (unhide HL1) (Nat.le_refl _))).mono ?_
  rintro e W2 ⟨fa1, L1, k1, a1, er1, rfl, hV1, hb2, hn1, hs1⟩
  obtain ⟨ha, hn, hc, ma, mn, mc, rfl, hF1⟩ := facts_of hn1 hs1
  have HV1 := hide hV1
  have HF1 := hide hF1
  have F2 : Hid (Below (w.heap.size + 1) (w.alloc (.cells #[.slice ca NC ccap, .slice fa NF cap] 25)) W2) := (unhide F1).trans (hb2.mono (unhide HS1))
  clear hV1 hb2 hn1 hs1 hF1
  obtain ⟨p0, p1, hl2, hs2⟩ := box2 (unhide F2)
  have HL2 := hide hl2
  have HS2 := hide hs2
  clear hl2
  go_wp2_with fail
  obtain ⟨W3, eW3⟩ : ∃ W3, W3 = (W2.alloc (.cells #[.slice ha hn hc, .slice ma mn mc] 29)).alloc (.cells #[.int .i64 k1, .int .i64 a1] 31) := ⟨_, rfl⟩
  rw [← eW3]
  have F3 : Hid (Below (W2.heap.size + 2) ((W2.alloc (.cells #[.slice ha hn hc, .slice ma mn mc] 29)).alloc (.cells #[.int .i64 k1, .int .i64 a1] 31)) W3) := by unfold Hid; rw [eW3]; exact Below.refl _ _
  obtain ⟨_, _, _, _, hl23, hs3⟩ := boxes2 (unhide F3)
  have HL3 : Hid (Below w.heap.size w W3) := (unhide HL2).trans (hl23.mono (unhide HL2).size)
  have HS3 := hide hs3
  clear eW3 hl23 hs3 p0 p1 hs2
  refine (unhide HLn W3 ((unhide HPV).below (unhide HL3) (Nat.le_refl _))).mono ?_
  rintro e w4 ⟨cg, co, qcap, fg, fo, fcap, ys, rfl, hlnt⟩
  have h34 := hlnt.below
  have F4 : Hid (Below (W2.heap.size + 2) ((W2.alloc (.cells #[.slice ha hn hc, .slice ma mn mc] 29)).alloc (.cells #[.int .i64 k1, .int .i64 a1] 31)) w4) := (unhide F3).trans (h34.mono (unhide HS3))
  obtain ⟨W5, hW5⟩ : ∃ x, Hid ((w4.alloc (.cells #[.slice (some ⟨cg, co, none⟩) NC qcap, .slice (some ⟨fg, fo, none⟩) NF fcap] 25)) = x) := ⟨_, rfl⟩
  have hb45 : Below w4.heap.size w4 W5 := by rw [← unhide hW5]; exact (Below.refl _ _).alloc (Nat.le_refl _) _
  obtain ⟨q0, q1, _, hq2⟩ := box2 (w := w4) (wr := W5) (u := .slice (some ⟨cg, co, none⟩) NC qcap) (v := .slice (some ⟨fg, fo, none⟩) NF fcap) (e := 25) (by rw [← unhide hW5]; exact Below.refl _ _)
  have HQ := hide (show w4.heap.size < W5.heap.size ∧ W5.cell? ⟨w4.heap.size, 0, none⟩ = some (.slice (some ⟨cg, co, none⟩) NC qcap) ∧ W5.cell? ⟨w4.heap.size, 1, none⟩ = some (.slice (some ⟨fg, fo, none⟩) NF fcap) from ⟨hq2, q0, q1⟩)
  have HL24 := (boxes2 (unhide F4)).2.2.2.2.1
  have HS4 : Hid (W2.heap.size + 2 ≤ w4.heap.size) := (boxes2 (unhide F4)).2.2.2.2.2
  have F5 : Hid (Below (W2.heap.size + 2) ((W2.alloc (.cells #[.slice ha hn hc, .slice ma mn mc] 29)).alloc (.cells #[.int .i64 k1, .int .i64 a1] 31)) W5) := (unhide F4).trans (hb45.mono (unhide HS4))
  have HL5 : Hid (Below w.heap.size w W5) := (unhide HL2).trans ((boxes2 (unhide F5)).2.2.2.2.1.mono (unhide HL2).size)
  have HLt := hide (hlnt.keep hb45)
  have hqp := (unhide HLt).pgv
  rw [unhide hNC, unhide hNF] at hqp
  have HQP := hide hqp
  clear hqp hlnt hb45 h34 hq2 q0 q1 HL24
  go_wp2_with fail
  rw [unhide hW5]
  refine (unhide H7 W5 _ (unhide HQP) ((unhide HLD).blw (unhide HL5) (unhide HGL))).mono ?_
  rintro e W6 ⟨fa2, L2, k2, a2, er2, rfl, hV2, hb6, hn2, hs2⟩
  obtain ⟨hb, hm, hd, mb, mm, md, rfl, hF2⟩ := facts_of hn2 hs2
  obtain ⟨rfl, rfl, rfl, rfl⟩ := (unhide HV1).uniq hV2
  have HF2 := hide hF2
  have F6 : Hid (Below (W2.heap.size + 2) ((W2.alloc (.cells #[.slice ha hn hc, .slice ma mn mc] 29)).alloc (.cells #[.int .i64 k1, .int .i64 a1] 31)) W6) := (unhide F5).trans (hb6.mono (by have := (unhide F5).size; simp at this; omega))
  have HB6 := hide hb6
  have g0 := Below.heldIn hb6 (unhide HQ).1 (unhide HQ).2.1
  have g1 := Below.heldIn hb6 (unhide HQ).1 (unhide HQ).2.2
  have lg : w4.heap.size < W6.heap.size := Nat.lt_of_lt_of_le (unhide HQ).1 hb6.size
  have HLN : Hid ((L1.getD []).length ≤ 1048576) := by
    unfold Hid
    rcases unhide HV1 with ⟨_, _, _, e, _⟩ | ⟨_, _, _, _, _, e, _⟩ | ⟨_, _, _, _, Ls, e, e2, _⟩
    · rw [e]; simp
    · rw [e]; simp
    · rw [e]; simp only [Option.getD_some]; rw [e2]; exact unhide HN
  obtain ⟨b0, b1, b2, b3, hlb, hsb⟩ := boxes2 (unhide F6)
  have HL6 : Hid (Below w.heap.size w W6) := (unhide HL2).trans (hlb.mono (unhide HL2).size)
  have F2' : Hid (Below (w.heap.size + 1) (w.alloc (.cells #[.slice ca NC ccap, .slice fa NF cap] 25)) W6) := (unhide F2).trans (hlb.mono (by have := unhide HS2; omega))
  obtain ⟨p0, p1, _, lp⟩ := box2 (unhide F2')
  have lb0 : W2.heap.size < W6.heap.size := by omega
  have lb1 : W2.heap.size + 1 < W6.heap.size := by omega
  have HF16 : Hid (FcW W6 (.slice ha hn hc) (.slice ma mn mc) (L1.getD [])) := (unhide HF1).fr (S := fun _ => False) (Fr.of_below hlb)
  clear hV2 hb6 hn2 hs2 hF2 hlb hsb
  have d0 : (er1 == er1) = true := by simp
  have d1 : (k1 == k1) = true := by simp
  have d2 : (a1 == a1) = true := by simp
  obtain ⟨W7, eW7⟩ : ∃ W7, W7 = (W6.alloc (.cells #[.slice hb hm hd, .slice mb mm md] 29)).alloc (.cells #[.int .i64 k1, .int .i64 a1] 31) := ⟨_, rfl⟩
  have F7 : Hid (Below (W6.heap.size + 2) ((W6.alloc (.cells #[.slice hb hm hd, .slice mb mm md] 29)).alloc (.cells #[.int .i64 k1, .int .i64 a1] 31)) W7) := by unfold Hid; rw [eW7]; exact Below.refl _ _
  have h67 := (boxes2 (unhide F7)).2.2.2.2.1
  have H67 := hide h67
  go_wp2_with fail
  rw [← eW7]
  refine (num8_any W7 er1).mono ?_
  rintro e W7' ⟨rfl, e7⟩
  obtain rfl := e7.symm
  clear e7
  have p0 := Below.heldIn h67 lp p0
  have p1 := Below.heldIn h67 lp p1
  have b0 := Below.heldIn h67 lb0 b0
  have b1 := Below.heldIn h67 lb0 b1
  have b2 := Below.heldIn h67 lb1 b2
  have b3 := Below.heldIn h67 lb1 b3
  have g0 := Below.heldIn h67 lg g0
  have g1 := Below.heldIn h67 lg g1
  obtain ⟨v0, v1, v2, v3, _, sv⟩ := boxes2 (unhide F7)
  have lp7 := Nat.lt_of_lt_of_le lp h67.size
  have lb07 := Nat.lt_of_lt_of_le lb0 h67.size
  have lb17 := Nat.lt_of_lt_of_le lb1 h67.size
  have lg7 := Nat.lt_of_lt_of_le lg h67.size
  have lv0 : W6.heap.size < W7.heap.size := by omega
  have lv1 : W6.heap.size + 1 < W7.heap.size := by omega
  have HSF := hide (sameFacts_any (unhide HLN) ((unhide HF2).fr (S := fun _ => False) (Fr.of_below h67)) ((unhide HF16).fr (S := fun _ => False) (Fr.of_below h67)))
  clear eW7 h67 sv lp lb0 lb1 lg
  go_wp2_with fail
  refine (unhide HSF).mono ?_
  rintro e W8 ⟨rfl, hb8⟩
  have p0 := Below.heldIn hb8 lp7 p0
  have p1 := Below.heldIn hb8 lp7 p1
  have g0 := Below.heldIn hb8 lg7 g0
  have g1 := Below.heldIn hb8 lg7 g1
  have lp8 := Nat.lt_of_lt_of_le lp7 hb8.size
  have lg8 := Nat.lt_of_lt_of_le lg7 hb8.size
  have HB58 : Hid (Below W5.heap.size W5 W8) := (unhide HB6).trans (((unhide H67).mono (unhide HB6).size).trans (hb8.mono (Nat.le_trans (unhide HB6).size (unhide H67).size)))
  have HL8 : Hid (Below w.heap.size w W8) := (unhide HL5).trans ((unhide HB58).mono (unhide HL5).size)
  have hk := keptP_any ((unhide HLt).keep (unhide HB58)) ((unhide HPV).below (unhide HL8) (Nat.le_refl _)) (unhide HN) (unhide HC) (unhide HBD)
  rw [unhide hNC, unhide hNF] at hk
  have HK := hide hk
  clear hk hb8 b0 b1 b2 b3 v0 v1 v2 v3
  go_wp2_with fail
  refine (unhide HK).mono ?_
  rintro e W9 ⟨rfl, hb9⟩
  have HL9 : Hid (Below w.heap.size w W9) := (unhide HL8).trans (hb9.mono (unhide HL8).size)
  clear hb9 p0 p1 g0 g1
  go_wp2_with fail
  go_ret
  exact ⟨rfl, unhide HL9⟩
end Go.Proofs.YtbkfnmkfbdoadaaGreatDoor
