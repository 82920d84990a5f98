/-
  VerifyMemory: all rows in one list.
-/
import Derived.Test.YtbkfnmkfbdoadaaGreatDoorTPrg
import Derived.Test.YtbkfnmkfbdoadaaGreatDoorTMem0
namespace Go.Proofs.YtbkfnmkfbdoadaaGreatDoor
open Go.RowKit
set_option linter.unusedVariables false
set_option linter.unusedSimpArgs false
/-- Facts that can be read. -/
def FcW (w : World) (hv mv : Value) (Ls : List (List Int)) : Prop :=
  ∃ vs, Ro w 1 hv Ls.length vs ∧ (∀ (i : Nat) (l : List Int) (u : Value), Ls[i]? = some l → vs[i]? = some u → Ro w 1 u l.length (flt enN l)) ∧ Ro w 1 mv Ls.length (flt enN (Ls.map mxl))
theorem FcR.fcw {B : Nat} {w : World} {hv mv : Value} {Ls : List (List Int)} (h : FcR B w hv mv Ls) : FcW w hv mv Ls := by
  obtain ⟨vs, h1, h2, h3, _⟩ := h
  exact ⟨vs, h1, fun i l u a b => (h2 i l u a b).1, h3⟩
theorem FcW.nil (w : World) : FcW w (.slice none 0 0) (.slice none 0 0) [] := ⟨[], Ro.nil _ _, fun i l u h => by simp at h, Ro.nil _ _⟩
theorem FcW.fr {S : Nat → Prop} {w w' : World} {hv mv : Value} {Ls : List (List Int)} (h : FcW w hv mv Ls) (f : Fr (fun _ => False) w w') : FcW w' hv mv Ls := by
  obtain ⟨vs, h1, h2, h3⟩ := h
  exact ⟨vs, h1.fr f (fun _ _ e => e), fun i l u a b => (h2 i l u a b).fr f (fun _ _ e => e), h3.fr f (fun _ _ e => e)⟩
theorem Ro.at1 {w : World} {v : Value} {n : Nat} {vs : List Value} (h : Ro w 1 v n vs) {i : Nat} (hi : i < n) : ∃ b off cap u, v = .slice (some ⟨b, off, none⟩) n cap ∧ b < w.heap.size ∧ vs[i]? = some u ∧ w.cell? ⟨b, off + i, none⟩ = some u := by
  obtain ⟨g, off, cap, e, _, _, hl, hc⟩ := h.full (by omega)
  have hv : i < vs.length := by have := h.1; omega
  refine ⟨g, off, cap, vs[i], e, hl, List.getElem?_eq_getElem hv, ?_⟩
  rw [hc i (by omega)]
  exact List.getElem?_eq_getElem hv
set_option maxRecDepth 100000 in
set_option maxHeartbeats 3200000 in
theorem sameRows_any {w : World} {u v : Value} {vs us : List Value} {Ls : List (List Int)} (hN : Ls.length ≤ 1048576) (hu : Ro w 1 u Ls.length us) (hv : Ro w 1 v Ls.length vs) (eu : ∀ (i : Nat) (l : List Int) (z : Value), Ls[i]? = some l → us[i]? = some z → Ro w 1 z l.length (flt enN l)) (ev : ∀ (i : Nat) (l : List Int) (z : Value), Ls[i]? = some l → vs[i]? = some z → Ro w 1 z l.length (flt enN l)) :
    Calls Tryz.prog 23 #[u, v] w fun e w' => e = .returned (.bool true) ∧ ∃ k, w' = w.drewN k := by
  have HU := hide hu
  have HV := hide hv
  have HEU := hide eu
  have HEV := hide ev
  obtain ⟨ua, uc, rfl, _, _⟩ := hu.shape
  obtain ⟨va, vc, rfl, _, _⟩ := hv.shape
  obtain ⟨N, hNn⟩ : ∃ n, Hid (Ls.length = n) := ⟨_, rfl⟩
  rw [unhide hNn] at hN HU HV ⊢
  have d0 : (((N : Nat) : Int) != (N : Int)) = false := by simp
  clear hu hv eu ev
  go_enter Tryz.func23, Tryz.ntmps23
  go_wp2_with fail
  go_loopg [5] N (fun gg t5 wr => ∃ (i : Nat), Hid (i + gg = N) ∧ t5 = .int .i64 (i : Int) ∧ Hid (∃ k, wr = w.drewN k))
  case atStart => exact ⟨0, by unfold Hid; omega, rfl, 0, rfl⟩
  case round =>
    obtain ⟨i, hi, rfl, hB⟩ := hrel
    by_cases hlt : i < N
    · have hil : i < Ls.length := by rw [unhide hNn]; exact hlt
      obtain ⟨l, hl⟩ : ∃ l, Ls[i]? = some l := ⟨_, List.getElem?_eq_getElem hil⟩
      obtain ⟨b1, o1, c1, z1, e1, l1, g1, k1⟩ := (unhide HU).at1 hlt
      obtain ⟨b2, o2, c2, z2, e2, l2, g2, k2⟩ := (unhide HV).at1 hlt
      have e1' : ua = some ⟨b1, o1, none⟩ := by injection e1
      have e2' : va = some ⟨b2, o2, none⟩ := by injection e2
      subst e1' e2'
      obtain ⟨kk, ekk⟩ := unhide hB
      have fw : Hid (Fr (fun _ => False) w wr) := by unfold Hid; rw [ekk]; exact Fr.drewN kk
      have k1 := ((unhide fw).cell (a := ⟨b1, o1 + i, none⟩) l1 (fun e => e)).trans k1
      have k2 := ((unhide fw).cell (a := ⟨b2, o2 + i, none⟩) l2 (fun e => e)).trans k2
      have l1 := Nat.lt_of_lt_of_le l1 (unhide fw).size
      have l2 := Nat.lt_of_lt_of_le l2 (unhide fw).size
      have HS := hide (fun (wx : World) (h : Fr (fun _ => False) w wx) => sameN_any (Rn.of_ro ((unhide HEU i l z1 hl g1).fr h (fun _ _ e => e))) (Rn.of_ro ((unhide HEV i l z2 hl g2).fr h (fun _ _ e => e))))
      obtain ⟨za, zc, ez, _, _⟩ := (unhide HEU i l z1 hl g1).shape
      obtain ⟨ya, yc, ey, _, _⟩ := (unhide HEV i l z2 hl g2).shape
      subst ez ey
      have i0 : (0 : Int) ≤ (i : Int) := by omega
      have i1 : (i : Int) < (N : Int) := by omega
      have HEK := hide ekk
      clear e1 e2 g1 g2 hl ekk
      go_wp2_with fail
      go_quiet (first | (go_at_call 24; exact Calls.quiet_of (unhide HS _ ((unhide fw).trans (Fr.drewN _)))))
      go_wp2_with fail
      go_roundg (gk - 1)
      case measure => have := unhide hi; omega
      case rel => exact ⟨i + 1, by have := unhide hi; unfold Hid; omega, by go_num, kk + nq, by rw [unhide HEK, World.drewN_drewN]⟩
    · have i1 : ¬ (i : Int) < (N : Int) := by omega
      go_wp2_with fail
      go_ret
      exact ⟨rfl, unhide hB⟩
set_option maxRecDepth 100000 in
set_option maxHeartbeats 3200000 in
theorem sameFacts_any {w : World} {h1 m1 h2 m2 : Value} {Ls : List (List Int)} (hN : Ls.length ≤ 1048576) (F1 : FcW w h1 m1 Ls) (F2 : FcW w h2 m2 Ls) :
    Calls Tryz.prog 9 #[.agg #[h1, m1], .agg #[h2, m2]] w fun e w' => e = .returned (.bool true) ∧ Below w.heap.size w w' := by
  have HF := hide (fun (wx : World) (h : Fr (fun _ => False) w wx) => (show Calls Tryz.prog 23 #[h1, h2] wx (fun e w' => e = .returned (.bool true) ∧ ∃ k, w' = wx.drewN k) from by
    obtain ⟨vs, a1, a2, a3⟩ := F1.fr (S := fun _ => False) h
    obtain ⟨us, b1, b2, b3⟩ := F2.fr (S := fun _ => False) h
    exact sameRows_any hN a1 b1 a2 b2))
  have HG := hide (fun (wx : World) (h : Fr (fun _ => False) w wx) => (show Calls Tryz.prog 24 #[m1, m2] wx (fun e w' => e = .returned (.bool true) ∧ ∃ k, w' = wx.drewN k) from by
    obtain ⟨vs, a1, a2, a3⟩ := F1.fr (S := fun _ => False) h
    obtain ⟨us, b1, b2, b3⟩ := F2.fr (S := fun _ => False) h
    exact sameN_any (l := Ls.map mxl) (Rn.of_ro (by rw [List.length_map]; exact a3)) (Rn.of_ro (by rw [List.length_map]; exact b3))))
  obtain ⟨_, a1, _, a3⟩ := F1
  obtain ⟨_, b1, _, b3⟩ := F2
  obtain ⟨p1, q1, rfl, _, _⟩ := a1.shape
  obtain ⟨p2, q2, rfl, _, _⟩ := a3.shape
  obtain ⟨p3, q3, rfl, _, _⟩ := b1.shape
  obtain ⟨p4, q4, rfl, _, _⟩ := b3.shape
  obtain ⟨N, hNn⟩ : ∃ n, Hid (Ls.length = n) := ⟨_, rfl⟩
  rw [unhide hNn] at HF HG ⊢
  obtain ⟨X, eX⟩ : ∃ X, X = (w.alloc (.cells #[.slice p1 N q1, .slice p2 N q2] 29)).alloc (.cells #[.slice p3 N q3, .slice p4 N q4] 29) := ⟨_, rfl⟩
  obtain ⟨t1, t2, t3, t4⟩ := two_boxes w #[.slice p1 N q1, .slice p2 N q2] #[.slice p3 N q3, .slice p4 N q4] 29 29
  rw [← eX] at t1 t2 t3 t4
  have x1 := t1 1
  have x2 := t2 1
  have HB := hide t3
  have fX : Hid (Fr (fun _ => False) w X) := Fr.of_below t3
  have ls1 : w.heap.size < X.heap.size := by omega
  have ls2 : w.heap.size + 1 < X.heap.size := by omega
  clear a1 a3 b1 b3 t1 t2 t3 t4
  go_enter Tryz.func9, Tryz.ntmps9
  go_wp2_with fail
  rw [← eX]
  refine (unhide HF _ (unhide fX)).mono ?_
  rintro e W2 ⟨rfl, k, ek⟩
  have f2 : Fr (fun _ => False) X W2 := by rw [ek]; exact Fr.drewN k
  have HFW : Hid (Fr (fun _ => False) w W2) := (unhide fX).trans f2
  have x1 := (f2.cell (a := ⟨w.heap.size, 1, none⟩) ls1 (fun e => e)).trans x1
  have x2 := (f2.cell (a := ⟨w.heap.size + 1, 1, none⟩) ls2 (fun e => e)).trans x2
  have ls1 := Nat.lt_of_lt_of_le ls1 f2.size
  have ls2 := Nat.lt_of_lt_of_le ls2 f2.size
  clear ek f2 eX
  simp at x1 x2
  go_wp2_with fail
  refine (unhide HG _ (unhide HFW)).mono ?_
  rintro e W3 ⟨rfl, k, ek⟩
  have HE : Hid (Below w.heap.size w W3) := by unfold Hid; rw [ek]; exact ((unhide HFW).trans (Fr.drewN k)).below (Nat.le_refl _) (fun _ _ e => e)
  clear ek
  go_wp2_with fail
  go_ret
  exact ⟨rfl, unhide HE⟩
set_option maxRecDepth 100000 in
theorem num8_any (w : World) (n : Int) : Calls Tryz.prog 8 #[.int .i64 n] w fun e w' => e = .returned (.int .i64 n) ∧ w' = w := by
  go_enter Tryz.func8, Tryz.ntmps8
  go_wp2_with fail
  go_ret
  exact ⟨rfl, rfl⟩

set_option linter.unusedVariables false
set_option linter.unusedSimpArgs false
theorem facts_of {B : Nat} {w : World} {fa : Value} {L : Option (List (List Int))} (h1 : L = none → fa = .agg #[.slice none 0 0, .slice none 0 0]) (h2 : ∀ Ls, L = some Ls → ∃ hv mv, fa = .agg #[hv, mv] ∧ FcR B w hv mv Ls) :
    ∃ ha hn hc ma mn mc, fa = .agg #[.slice ha hn hc, .slice ma mn mc] ∧ FcW w (.slice ha hn hc) (.slice ma mn mc) (L.getD []) := by
  cases L with
  | none => exact ⟨_, _, _, _, _, _, h1 rfl, FcW.nil w⟩
  | some Ls =>
    obtain ⟨hv, mv, rfl, hf⟩ := h2 Ls rfl
    have hf := hf.fcw
    obtain ⟨vs, a1, a2, a3⟩ := id hf
    obtain ⟨p1, q1, rfl, _, _⟩ := a1.shape
    obtain ⟨p2, q2, rfl, _, _⟩ := a3.shape
    exact ⟨_, _, _, _, _, _, rfl, hf⟩
theorem Laid.blw {B : Nat} {w w' : World} (h : Laid w) (f : Below B w w') (hB : 0 < B) : Laid w' := (f.cell (p := ⟨0, 0, none⟩) hB).trans h
/-- Boxes of two cells, one behind the other. -/
theorem boxes2 {w wr : World} {u v x y : Value} {e f : TypeId} (h : Below (w.heap.size + 2) ((w.alloc (.cells #[u, v] e)).alloc (.cells #[x, y] f)) wr) :
    wr.cell? ⟨w.heap.size, 0, none⟩ = some u ∧ wr.cell? ⟨w.heap.size, 1, none⟩ = some v ∧ wr.cell? ⟨w.heap.size + 1, 0, none⟩ = some x ∧ wr.cell? ⟨w.heap.size + 1, 1, none⟩ = some y ∧ Below w.heap.size w wr ∧ w.heap.size + 2 ≤ wr.heap.size := by
  have hs := h.size
  obtain ⟨t1, t2, t3, t4⟩ := two_boxes w #[u, v] #[x, y] e f
  rw [t4] at hs
  have c1 := fun o => (h.cell (p := ⟨w.heap.size, o, none⟩) (by simp)).trans (t1 o)
  have c2 := fun o => (h.cell (p := ⟨w.heap.size + 1, o, none⟩) (by simp)).trans (t2 o)
  exact ⟨c1 0, c1 1, c2 0, c2 1, t3.trans (h.mono (by omega)), hs⟩

set_option linter.unusedVariables false
set_option linter.unusedSimpArgs false

theorem VpR.sizes {p : Pg} {Ls : List (List Int)} {k a er : Int} (h : VpR p (some Ls) k a er) : Ls.length ≤ 128 ∧ ∀ l ∈ Ls, l.length ≤ 100000 := by
  rcases h with ⟨_, _, _, e, _⟩ | ⟨_, _, _, _, _, e, _⟩ | ⟨h0, _, _, _, Ls', e, e2, h7⟩
  · cases e
  · cases e
  · cases e
    obtain ⟨_, _, h1, h2⟩ := ckF_none.1 h0
    refine ⟨by omega, fun l hl => ?_⟩
    obtain ⟨i, hi, el⟩ := List.getElem_of_mem hl
    have hf : p.funcs[i]? = some (p.funcs[i]'(by omega)) := List.getElem?_eq_getElem (by omega)
    have hr := h7 i _ l hf (by rw [List.getElem?_eq_getElem hi, el])
    have hz := (szF_none.1 (fnF_none.1 (h2 i _ hf)).2.1).2.2.2.2.2
    rcases hr with ⟨_, q, _⟩ | ⟨_, q, _⟩ | ⟨_, _, _, _, hts, q, q2, _⟩
    · cases q
    · cases q
    · cases q
      omega
theorem facts_ofA {B : Nat} {w : World} {p : Pg} {fa : Value} {L : Option (List (List Int))} {k a er : Int} (hv : VpR p L k a er) (h1 : L = none → fa = .agg #[.slice none 0 0, .slice none 0 0]) (h2 : ∀ Ls, L = some Ls → ∃ hv mv, fa = .agg #[hv, mv] ∧ FcA B w hv mv Ls) :
    ∃ ha hn hc ma mn mc vs, fa = .agg #[.slice ha hn hc, .slice ma mn mc] ∧ FcW w (.slice ha hn hc) (.slice ma mn mc) (L.getD []) ∧ FA B w (.slice ha hn hc) (.slice ma mn mc) hn vs := by
  cases L with
  | none => exact ⟨_, _, _, _, _, _, [], h1 rfl, FcW.nil w, FA.nil B w⟩
  | some Ls =>
    obtain ⟨hv', mv, rfl, hf⟩ := h2 Ls rfl
    obtain ⟨s1, s2⟩ := hv.sizes
    obtain ⟨vs, hA⟩ := hf.fa s1 s2
    have hw := hf.fcr.fcw
    obtain ⟨us, a1, a2, a3⟩ := id hw
    obtain ⟨p1, q1, e1, _, _⟩ := a1.shape
    obtain ⟨p2, q2, e2, _, _⟩ := a3.shape
    subst e1
    subst e2
    exact ⟨_, _, _, _, _, _, vs, rfl, hw, hA⟩
theorem wpList_appLs {w : World} {ops : Array Oper} {rest : List Oper} {o : Oper} {a : Act} {Q : Exit → Act → World → Prop}
    (hg : o.guard = none) (s x : Operand) (hop : o.op = Op.call { callee := Callee.builtin Builtin.append, args := #[s, x], argTypes := #[26, 26] })
    (v u : Value) (n m : Nat) (l news : List Value) (hs : a.eval s = v) (hr : Ro w 1 v n l) (hx : a.eval x = u) (hu : Ro w 1 u m news) (h1 : ∀ z ∈ news, z.oneCell' = true) (h0 : 0 < m) (hN : n + m < 1000000000)
    (hK : ∀ v' w', Ro w' 1 v' (n + m) (l ++ news) → w.grownBy w' v.ownBlock → (v'.ownBlock = v.ownBlock ∨ v'.ownBlock = some w.heap.size) → wpList Tryz.prog ops Q rest (a.put o.dst v') w') :
    wpList Tryz.prog ops Q (o :: rest) a w := by
  obtain ⟨i0, hi0, hz0, hz1, hz2⟩ := info_parts Tryz.info27
  obtain ⟨g, off, cap, e, _, _, _, hc⟩ := hu.full h0
  have hul := hu.1
  exact wpList_app hg s x 26 hop 27 i0 _ 1 24 Tryz.underlying26 hi0 hz0 hz1 hz2 rfl (by decide) v n l hs hr ⟨g, off, none⟩ m cap news (hx.trans e) hul (fun j z hz => by
    rw [Go.WideShapes.add_plain, hc j (by have := (List.getElem?_eq_some_iff.1 hz).1; omega)]; exact hz) h1 h0 (by unfold maxLen; omega) (by omega) hK
theorem OkP.wiped {p : Pg} (h : OkP p) (k : Nat) : OkP { p with funcs := wpL p.funcs k } := by
  refine ⟨h.1, fun i g hg => ?_⟩
  obtain ⟨f, hf, q⟩ := wpL_mem hg
  obtain ⟨a1, a2⟩ := h.2 i f hf
  rcases q with q | q
  · subst q; exact ⟨a1, a2⟩
  · subst q; exact ⟨by rw [wpF, wipe_length]; exact a1, a2⟩
theorem wiped_r {p : Pg} (h : ∀ (i : Nat) (f : Fc), p.funcs[i]? = some f → f.code.length ≤ 9000000000000 ∧ f.name.size ≤ 9223372036854775807 ∧ ∀ q ∈ f.code, I64 q.2) (k : Nat) : ∀ (i : Nat) (f : Fc), (wpL p.funcs k)[i]? = some f → f.code.length ≤ 9000000000000 ∧ f.name.size ≤ 9223372036854775807 ∧ ∀ q ∈ f.code, I64 q.2 := by
  intro i g hg
  obtain ⟨f, hf, q⟩ := wpL_mem hg
  obtain ⟨a1, a2, a3⟩ := h i f hf
  rcases q with q | q
  · subst q; exact ⟨a1, a2, a3⟩
  · subst q; exact ⟨by rw [wpF, wipe_length]; exact a1, a2, fun q hq => wipe_mem hq⟩
theorem wiped_b {p : Pg} (h : ∀ (i : Nat) (f : Fc), p.funcs[i]? = some f → f.code.length ≤ 1048576 ∧ f.hs.length ≤ 1048576) (k : Nat) : ∀ (i : Nat) (f : Fc), (wpL p.funcs k)[i]? = some f → f.code.length ≤ 1048576000 ∧ f.hs.length ≤ 1048576000 := by
  intro i g hg
  obtain ⟨f, hf, q⟩ := wpL_mem hg
  obtain ⟨a1, a2⟩ := h i f hf
  rcases q with q | q
  · subst q; exact ⟨by omega, by omega⟩
  · subst q; exact ⟨by rw [wpF, wipe_length]; omega, by show f.hs.length ≤ _; omega⟩

set_option linter.unusedVariables false
set_option linter.unusedSimpArgs false

/-- A copy of a program, of which function k has this code. -/
def OPc (B : Nat) (p : Pg) (l : List Fc) (k : Nat) (f : Fc) (c : List (Int × Int)) (xs : List Fv) (cv fv : Value) (wr : World) : Prop := OP B { p with funcs := l.set k { f with code := c } } xs cv fv wr
section
variable {B : Nat} {p : Pg} {l : List Fc} {k : Nat} {f : Fc} {c : List (Int × Int)} {xs : List Fv} {cv fv : Value} {wr w0 : World} {x : Fv}
theorem OPc.at (h : OPc B p l k f c xs cv fv wr) (hx : xs[k]? = some x) (hk : k < l.length) {n : Nat} (hn : n < c.length) : ∃ cg co ccap a b, x.cv = .slice (some ⟨cg, co, none⟩) c.length ccap ∧ cg < wr.heap.size ∧ c[n]? = some (a, b) ∧ wr.cell? ⟨cg, co + n * 2, none⟩ = some (.int .i64 a) ∧ wr.cell? ⟨cg, co + n * 2 + 1, none⟩ = some (.int .i64 b) ∧ ∀ o, wr.frozen? ⟨cg, o, none⟩ = false :=
  OP.instr h (f := { f with code := c }) hx (by show (l.set k _)[k]? = _; rw [List.getElem?_set_self hk]) hn
theorem OPc.set (h : OPc B p l k f c xs cv fv wr) (hx : xs[k]? = some x) (hk : k < l.length) {n cg co ccap m : Nat} {q : Int × Int} (a b : Int) (hq : c[n]? = some q) (e : x.cv = .slice (some ⟨cg, co, none⟩) m ccap) :
    OPc B p l k f (c.set n (a, b)) xs cv fv ((wr.setCell ⟨cg, co + n * 2, none⟩ (.int .i64 a)).setCell ⟨cg, co + n * 2 + 1, none⟩ (.int .i64 b)) := by
  have r := OP.setI h (f := { f with code := c }) a b hx (by show (l.set k _)[k]? = _; rw [List.getElem?_set_self hk]) hq e
  unfold OPc
  have e2 : (l.set k { f with code := c }).set k { f with code := c.set n (a, b) } = l.set k { f with code := c.set n (a, b) } := List.set_set ..
  simp only [e2] at r
  exact r
theorem cd_set (h : Fr (cdB xs) w0 wr) (hx : xs[k]? = some x) {cg co ccap m : Nat} (e : x.cv = .slice (some ⟨cg, co, none⟩) m ccap) (n : Nat) (u v : Value) : Fr (cdB xs) w0 ((wr.setCell ⟨cg, co + n * 2, none⟩ u).setCell ⟨cg, co + n * 2 + 1, none⟩ v) := by
  have q : cdB xs cg := ⟨k, x, hx, .inl (by rw [e]; rfl)⟩
  exact (h.setCell ⟨cg, co + n * 2, none⟩ (.inr q) _).setCell ⟨cg, co + n * 2 + 1, none⟩ (.inr q) _
/-- It begins. -/
theorem OP.opc (h : OP B { p with funcs := wpL p.funcs k } xs cv fv wr) (hf : p.funcs[k]? = some f) : OPc B p (wpL p.funcs k) k f (wip f.code 0) xs cv fv wr := by
  unfold OPc
  rw [wip_zero]
  have e : (wpL p.funcs k).set k f = wpL p.funcs k := by
    have h2 := wpL_at hf
    refine List.ext_getElem? fun j => ?_
    by_cases q : k = j
    · subst q; rw [List.getElem?_set_self (List.getElem?_eq_some_iff.1 h2).1, h2]
    · rw [List.getElem?_set_ne q]
  show OP B { p with funcs := (wpL p.funcs k).set k f } xs cv fv wr
  rw [e]
  exact h
/-- It is done. -/
theorem OPc.done (h : OPc B p (wpL p.funcs k) k f (wipe f.code) xs cv fv wr) (hf : p.funcs[k]? = some f) : OP B { p with funcs := wpL p.funcs (k + 1) } xs cv fv wr := by
  rw [← wpL_set hf]
  exact h
theorem wipe_short {c : List (Int × Int)} (h : c.length ≤ 1) : wip c c.length = wipe c := by unfold wipe; rw [if_neg (by omega)]
theorem wipe_long {c : List (Int × Int)} {m : Nat} (h : c.length = m + 2) : ((wip c c.length).set m (1, 0)).set (m + 1) (45, 0) = wipe c := by
  unfold wipe; rw [if_pos (by omega), h]; rfl
/-- Where a function's code is found. -/
theorem OP.codeAt (h : OP B p xs cv fv wr) (hx : xs[k]? = some x) : ∃ g off cap, fv = .slice (some ⟨g, off, none⟩) xs.length cap ∧ g < wr.heap.size ∧ wr.cell? ⟨g, off + k * 5 + 3, none⟩ = some x.cv := by
  obtain ⟨b, off, cap, e, _, _, hb, hc⟩ := Rx.elem zF (Rx.of_ro h.fo) hx
  exact ⟨b, off, cap, e, hb, hc 3 _ rfl⟩
end

set_option linter.unusedVariables false
set_option linter.unusedSimpArgs false

/-- A list of one's own. -/
def AL (W0 : World) (l : List Value) (al : Value) (W : World) : Prop := Ro W 1 al l.length l ∧ Below W0.heap.size W0 W ∧ ∀ k, al.ownBlock = some k → W0.heap.size ≤ k
theorem AL.nil (W0 : World) : AL W0 [] (.slice none 0 0) W0 := ⟨Ro.nil _ _, Below.refl _ _, fun k hk => by simp [Value.ownBlock] at hk⟩
theorem Gx.al {W W' : World} {l : List Value} {u : Value} (h : Gx W 1 enV l u W') : Ro W' 1 u l.length l := by
  have := h.1
  rwa [flt_enV] at this
theorem AL.push {W0 W W' W2 : World} {l1 l2 : List Value} {a1 a2 u : Value} (h : AL W0 l1 a1 W) (hG : Gx W 1 enV l2 u W') (hr : Ro W2 1 a2 (l1.length + l2.length) (l1 ++ l2)) (hg : W'.grownBy W2 a1.ownBlock) (hat : a2.ownBlock = a1.ownBlock ∨ a2.ownBlock = some W'.heap.size) : AL W0 (l1 ++ l2) a2 W2 := by
  obtain ⟨h1, h2, h3⟩ := h
  have hs := h2.size
  have hs2 := hG.2.1.size
  have b1 : Below W0.heap.size W0 W' := h2.trans (hG.2.1.mono hs)
  have f : Fr (fun k => a1.ownBlock = some k) W' W2 := (Fr.refl _ W').grown hg (fun k e => .inr e)
  refine ⟨by rw [List.length_append]; exact hr, b1.trans (f.below (by omega) (fun k hk e => by have := h3 k e; omega)), fun k hk => ?_⟩
  rcases hat with q | q
  · exact h3 k (q ▸ hk)
  · rw [q] at hk; cases hk; omega
/-- The rows of three answers, in one list. -/
def all3 (vs1 vs2 vs3 : List Value) (m1 m2 m3 : Value) : List Value := ((vs1 ++ [m1]) ++ (vs2 ++ [m2])) ++ (vs3 ++ [m3])
section
variable {W : World} {B1 B2 B3 E1 E2 : Nat} {h1 h2 h3 m1 m2 m3 : Value} {n1 n2 n3 : Nat} {vs1 vs2 vs3 : List Value}
theorem bks_append {l1 l2 : List Value} {b : Nat} : bks (l1 ++ l2) b ↔ bks l1 b ∨ bks l2 b := by
  constructor
  · rintro ⟨v, hv, hb⟩
    rcases List.mem_append.1 hv with q | q
    · exact .inl ⟨v, q, hb⟩
    · exact .inr ⟨v, q, hb⟩
  · rintro (⟨v, hv, hb⟩ | ⟨v, hv, hb⟩)
    · exact ⟨v, List.mem_append_left _ hv, hb⟩
    · exact ⟨v, List.mem_append_right _ hv, hb⟩
theorem FA.rs {B n : Nat} {hv mv : Value} {vs : List Value} (h : FA B W hv mv n vs) : Rs W (vs ++ [mv]) := ⟨h.rv, h.ap⟩
theorem all3_rs (A1 : FA B1 W h1 m1 n1 vs1) (A2 : FA B2 W h2 m2 n2 vs2) (A3 : FA B3 W h3 m3 n3 vs3) (u1 : ∀ b, bks (vs1 ++ [m1]) b → b < B2) (u2 : ∀ b, bks (vs2 ++ [m2]) b → b < B3) (h12 : B2 ≤ B3) : Rs W (all3 vs1 vs2 vs3 m1 m2 m3) := by
  refine Rs.join (Rs.join A1.rs A2.rs (fun b q1 q2 => ?_)) A3.rs (fun b q1 q2 => ?_)
  · have := u1 b q1; have := A2.lo b q2; omega
  · have := A3.lo b q2
    rcases bks_append.1 q1 with q | q
    · have := u1 b q; omega
    · have := u2 b q; omega
theorem all3_bk {b : Nat} : bk (all3 vs1 vs2 vs3 m1 m2 m3) b ↔ bks (vs1 ++ [m1]) b ∨ bks (vs2 ++ [m2]) b ∨ bks (vs3 ++ [m3]) b := by
  rw [bks_bk, all3, bks_append, bks_append, or_assoc]
theorem all3_length (A1 : FA B1 W h1 m1 n1 vs1) (A2 : FA B2 W h2 m2 n2 vs2) (A3 : FA B3 W h3 m3 n3 vs3) : (all3 vs1 vs2 vs3 m1 m2 m3).length ≤ 1000 := by
  have l1 := A1.hr.1
  have l2 := A2.hr.1
  have l3 := A3.hr.1
  have := A1.n1
  have := A2.n1
  have := A3.n1
  simp only [all3, List.length_append, List.length_singleton]
  omega
theorem FA.ones {B n : Nat} {hv mv : Value} {vs : List Value} (h : FA B W hv mv n vs) : ∀ z ∈ vs ++ [mv], z.oneCell' = true := by
  intro z hz
  obtain ⟨l, h1, _⟩ := h.rv z hz
  obtain ⟨a, cap, e, _⟩ := h1.shape
  rw [e]; rfl
theorem FA.len {B n : Nat} {hv mv : Value} {vs : List Value} (h : FA B W hv mv n vs) : vs.length = n := by have := h.hr.1; omega
end
end Go.Proofs.YtbkfnmkfbdoadaaGreatDoor
