/-
  Dominates; all.
-/
import Derived.Test.YtfeombhileiamaaDoms
namespace Go.Proofs.Ytfeombhileiamaa
open Go.RowKit Go.Shelf
set_option linter.unusedVariables false
attribute [local go_sem] Oper.semAt_some

/-- Dominates' state behind k rounds. -/
structure MI (w : World) (a b : Int) (uv : Value) (ds : List Int) (k : Nat) (X : World) : Prop where
  bel : Below w.heap.size w X
  ba : Bx X (w.heap.size + 1) (.int .i64 a)
  br : Bx X (w.heap.size + 2) (.bool false)
  bu : Bx X (w.heap.size + 3) uv
  bf : Bx X (w.heap.size + 4) (.int .i64 b)
  no : ∀ j x, j < k → ds[j]? = some x → x ≠ a
theorem MI.keep {w X Y : World} {a b : Int} {uv : Value} {ds : List Int} {k : Nat} (h : MI w a b uv ds k X) (f : Fr (two2 (w.heap.size + 5)) X Y) : MI w a b uv ds k Y :=
  ⟨h.bel.trans (f.below h.bel.size (fun k hk e => by unfold two2 at e; omega)), h.ba.keep f (by unfold two2; omega), h.br.keep f (by unfold two2; omega), h.bu.keep f (by unfold two2; omega), h.bf.keep f (by unfold two2; omega), h.no⟩
/-- It was found. -/
structure MX (w : World) (a : Int) (ds : List Int) (c : Code) (k : Nat) (X : World) : Prop where
  isret : c = .ret
  bel : Below w.heap.size w X
  br : Bx X (w.heap.size + 2) (.bool true)
  found : a ∈ ds
theorem MX.keep {w X Y : World} {a : Int} {ds : List Int} {c : Code} {k : Nat} (h : MX w a ds c k X) (f : Fr (two2 (w.heap.size + 5)) X Y) : MX w a ds c k Y :=
  ⟨h.isret, h.bel.trans (f.below h.bel.size (fun k hk e => by unfold two2 at e; omega)), h.br.keep f (by unfold two2; omega), h.found⟩

set_option maxRecDepth 100000 in
set_option maxHeartbeats 1600000 in
theorem dominates_any {w : World} {gv : Value} {st up : List Int} (a b : Int) (h : GV w gv st up) (hN : up.length ≤ 17592186043904) :
    Calls Try.prog 8 #[gv, .int .i64 a, .int .i64 b] w fun e w' => e = .returned (.bool (decide (a ∈ dms up b))) ∧ Below w.heap.size w w' := by
  obtain ⟨n, hn⟩ : ∃ n : Nat, 4 ≤ n := ⟨4, Nat.le_refl _⟩
  refine (callsIn_wide (n := n)).1 ?_
  obtain ⟨a0, c0, a1, n1, c1, a2, n2, c2, a3, c3, a4, n4, c4, rfl, hst, hup⟩ := h
  obtain ⟨R, hR⟩ : ∃ R, Hid (dms up b = R) := ⟨_, rfl⟩
  rw [unhide hR]
  obtain ⟨rb, hrb⟩ : ∃ rb, Hid (decide (a ∈ R) = rb) := ⟨_, rfl⟩
  rw [unhide hrb]
  refine callsIn_of_wp_marks Try.func8 rfl trivial ?_ rfl
  simp only [Try.ntmps8, List.size_toArray, List.length_cons, List.length_nil, Nat.reduceAdd, Nat.reduceSub, Array.replicate_succ, Array.replicate_zero, List.push_toArray, List.append_toArray, List.nil_append, List.cons_append]
  have HU := hide hup
  obtain ⟨L, hL⟩ : ∃ L, Hid (up.length = L) := ⟨_, rfl⟩
  obtain ⟨U, hU⟩ : ∃ U, Hid (st.length = U) := ⟨_, rfl⟩
  rw [unhide hL, unhide hU]
  rw [unhide hL] at HU hN
  clear hst hup
  gi_wp2_with fail
  refine ⟨trivial, (fun q => by cases q), (callsIn_wide.2 (climb_any _ _ _ _ _)).mono ?_⟩
  rintro e w1 ⟨rfl, ew⟩
  rw [ew]
  clear ew w1
  gi_wp2_with fail
  obtain ⟨W0, eW⟩ : ∃ W0, W0 = (((((w.alloc (.cells #[.slice a0 U c0, .slice a1 n1 c1, .slice a2 n2 c2, .slice a3 L c3, .slice a4 n4 c4] 25)).alloc (.cells #[.int .i64 a] 3)).alloc (.cells #[.bool false] 4)).alloc (.cells #[.slice a3 L c3] 22)).alloc (.cells #[.int .i64 b] 3)) := ⟨_, rfl⟩
  have hs0 : W0.heap.size = w.heap.size + 5 := by rw [eW]; simp
  have hG : MI w a b (.slice a3 L c3) R 0 W0 := by
    rw [eW]
    have s1 : ∀ o, (w.alloc o).heap.size = w.heap.size + 1 := fun o => by simp
    have s2 : ∀ o o', ((w.alloc o).alloc o').heap.size = w.heap.size + 2 := fun o o' => by simp
    have s3 : ∀ o o' o'', (((w.alloc o).alloc o').alloc o'').heap.size = w.heap.size + 3 := fun o o' o'' => by simp
    have s4 : ∀ o o' o'' o3, ((((w.alloc o).alloc o').alloc o'').alloc o3).heap.size = w.heap.size + 4 := fun o o' o'' o3 => by simp
    exact ⟨(((((Below.refl _ _).alloc (Nat.le_refl _) _).alloc (by simp) _).alloc (by simp; omega) _).alloc (by simp; omega) _).alloc (by simp; omega) _, (((Bx.new' _ _ _ (s1 _)).alloc _).alloc _).alloc _, ((Bx.new' _ _ _ (s2 _ _)).alloc _).alloc _, (Bx.new' _ _ _ (s3 _ _ _)).alloc _, Bx.new' _ _ _ (s4 _ _ _ _), fun j x hj => by omega⟩
  rw [← eW]
  clear eW
  have hseq := climb1_hands (n - 1) (w.heap.size + 4) (w.heap.size + 3) b (.slice a3 L c3) up
  rw [unhide hR] at hseq
  refine wpIn_hands rfl (by omega) (gf := 18) (lb := #[.pointer (some ⟨w.heap.size + 4, 0, none⟩), .pointer (some ⟨w.heap.size + 3, 0, none⟩)]) rfl trivial (enters_of Try.func18 (by kernel_rfl) rfl) hseq (fun _ => rfl)
    (MI w a b (.slice a3 L c3) R) (MX w a R) (fun k X q => ⟨q.bf.1, q.bu.1, (unhide HU).below q.bel (Nat.le_refl _)⟩) (fun k X Y q f => q.keep (by rw [hs0] at f; exact f)) (fun c k X Y q f => q.keep (by rw [hs0] at f; exact f)) hG
    (fun k => { tmps := #[.agg #[.slice a0 U c0, .slice a1 n1 c1, .slice a2 n2 c2, .slice a3 L c3, .slice a4 n4 c4], .int .i64 a, .int .i64 b, .pointer (some ⟨w.heap.size, 0, none⟩), .pointer (some ⟨w.heap.size + 1, 0, none⟩), undef, .pointer (some ⟨w.heap.size + 1 + 1, 0, none⟩), .int .i64 (R.getD k 0), .pointer (some ⟨w.heap.size, 3, none⟩), .slice a3 L c3, .int .i64 b, .func (.func 18) #[] #[.pointer (some ⟨w.heap.size + 1 + 1 + 1 + 1, 0, none⟩), .pointer (some ⟨w.heap.size + 1 + 1 + 1, 0, none⟩)], .int .i64 (R.getD k 0), undef, undef, undef], defers := [] }) ?assign ?body ?done ?stop
  case assign =>
    intro l k X K hK
    simp only [encN]
    gi_wp2_with fail
    exact hK
  case body =>
    rintro l k X hG hk hlt
    have hk' : k < R.length := hk
    obtain ⟨x, hx⟩ : ∃ x, R[k]? = some x := ⟨_, List.getElem?_eq_getElem hk'⟩
    rw [List.getD_eq_getElem?_getD, hx, Option.getD_some]
    have HX := hide hx
    have HG := hide hG
    have c1 := hG.ba.1
    have c2 := hG.br.1
    have f2 := hG.br.2
    clear hG hx hk hk'
    by_cases he : x = a
    · subst he
      gi_wp2_with fail
      have g := unhide HG
      have hs := g.bel.size
      refine ⟨⟨?_, ?_⟩, ⟨rfl, g.bel.setCell (p := ⟨w.heap.size + 2, 0, none⟩) (by show w.heap.size ≤ w.heap.size + 2; omega) _, g.br.set _, List.mem_of_getElem? (unhide HX)⟩⟩
      · exact Below.heap_setCell _ _ _ _ (by show _ ≠ w.heap.size + 2; omega)
      · exact Below.heap_setCell _ _ _ _ (by show _ ≠ w.heap.size + 2; omega)
    · have hne : (x == a) = false := by simpa using he
      gi_wp2_with fail
      have g := unhide HG
      refine ⟨⟨rfl, rfl⟩, ⟨g.bel, g.ba, g.br, g.bu, g.bf, fun j y hj hy => ?_⟩⟩
      by_cases q : j = k
      · subst q; rw [unhide HX] at hy; cases hy; exact he
      · exact g.no j y (by omega) hy
  case done =>
    rintro k X hE hG hK
    have ek : k = R.length := hE
    have hb : rb = false := by
      rw [← unhide hrb]
      refine decide_eq_false (fun hm => ?_)
      obtain ⟨j, hj, e⟩ := List.getElem_of_mem hm
      exact hG.no j _ (by omega) (List.getElem?_eq_getElem hj) e
    subst hb
    have c2 := hG.br.1
    have f2 := hG.br.2
    have HG := hide hG
    clear hG
    gi_wp2_with fail
    have g := unhide HG
    have f := fr_sh W0.heap.size (X.setCell ⟨w.heap.size + 1 + 1, 0, none⟩ (.bool false)) (.deferred none)
    have hK' : (X.setCell ⟨w.heap.size + 1 + 1, 0, none⟩ (.bool false)).heap[W0.heap.size]? = some (.deferred (some [])) := (Below.heap_setCell _ _ _ _ (by show _ ≠ w.heap.size + 1 + 1; omega)).trans hK
    have c5 := (g.br.set (.bool false)).keep f (by show ¬ _ = _; omega)
    have hc5 := c5.1
    have hs := g.bel.size
    refine ⟨by simp, .inl ⟨_, _, rfl, run_takeDeferred hK', .bool false, ?_, rfl, (g.bel.setCell (p := ⟨w.heap.size + 1 + 1, 0, none⟩) (by show w.heap.size ≤ w.heap.size + 1 + 1; omega) _).trans (f.below (by simp; omega) (fun k hk e => by omega))⟩⟩
    simp [results, Try.f8, go_sem, hc5]
  case stop =>
    rintro c k X hG hK
    obtain ⟨rfl, hbel, hbr, hf⟩ := hG
    have hb : rb = true := by rw [← unhide hrb]; exact decide_eq_true hf
    subst hb
    have HB := hide hbel
    have HR := hide hbr
    clear hbel hbr
    gi_wp2_with fail
    have f := fr_sh W0.heap.size X (.deferred none)
    have c5 := (unhide HR).keep f (by show ¬ _ = _; omega)
    have hc5 := c5.1
    refine ⟨by simp, .inl ⟨_, _, rfl, run_takeDeferred hK, .bool true, ?_, rfl, (unhide HB).trans (f.below (unhide HB).size (fun k hk e => by omega))⟩⟩
    simp [results, Try.f8, go_sem, hc5]

theorem fn_not_nil (ab : Nat) (W : World) : (binOp .eql 34 (.func (.func 17) #[] #[.pointer (some ⟨ab, 0, none⟩)]) .nilFunc).run Try.prog W = .ok (.bool false) W := by kernel_rfl

/-- all's state behind k rounds. -/
structure AI (w w2 : World) (most : Int) (ds : List Int) (k : Nat) (X : World) : Prop where
  fr : Fr (fun x => x = w.heap.size + 2 ∨ w2.heap.size ≤ x) w2 X
  bm : Bx X (w.heap.size + 1) (.int .i64 most)
  bl : ∃ lv, BL X (w.heap.size + 2) (w2.heap.size + 2) lv (ds.take k)
theorem AI.keep {w w2 X Y : World} {most : Int} {ds : List Int} {k : Nat} (hz : w.heap.size + 3 ≤ w2.heap.size) (h : AI w w2 most ds k X) (f : Fr (two2 w2.heap.size) X Y) : AI w w2 most ds k Y := by
  obtain ⟨h1, h2, lv, h3⟩ := h
  exact ⟨h1.trans (f.mono (fun k _ e => by unfold two2 at e; omega)), h2.keep f (by unfold two2; omega), lv, h3.keep f (by unfold two2; omega) (fun k e => by unfold two2 at e; omega)⟩

set_option maxRecDepth 100000 in
set_option maxHeartbeats 1600000 in
theorem all_any {w : World} {gv : Value} {st up : List Int} (b most : Int) (h : GV w gv st up) (hN : up.length ≤ 17592186043904) (hm : (up.length : Int) < most) :
    Calls Try.prog 11 #[gv, .int .i64 b, .int .i64 most] w fun e w' => ∃ v', e = .returned v' ∧ Gn w (dms up b) v' w' := by
  obtain ⟨n, hn⟩ : ∃ n : Nat, 6 ≤ n := ⟨6, Nat.le_refl _⟩
  refine (callsIn_wide (n := n)).1 ?_
  have HD := hide (fun (W : World) (hW : Below w.heap.size w W) => doms_any b (h.below hW (Nat.le_refl _)) hN)
  obtain ⟨a0, c0, a1, n1, c1, a2, n2, c2, a3, c3, a4, n4, c4, rfl, hst, hup⟩ := h
  have HDL := hide (dms_length up b)
  obtain ⟨R, hR⟩ : ∃ R, Hid (dms up b = R) := ⟨_, rfl⟩
  rw [unhide hR] at HDL HD ⊢
  refine callsIn_of_wp_marks Try.func11 rfl trivial ?_ rfl
  simp only [Try.ntmps11, List.size_toArray, List.length_cons, List.length_nil, Nat.reduceAdd, Nat.reduceSub, Array.replicate_succ, Array.replicate_zero, List.push_toArray, List.append_toArray, List.nil_append, List.cons_append]
  obtain ⟨L, hL⟩ : ∃ L, Hid (up.length = L) := ⟨_, rfl⟩
  obtain ⟨U, hU⟩ : ∃ U, Hid (st.length = U) := ⟨_, rfl⟩
  rw [unhide hL, unhide hU] at HD ⊢
  rw [unhide hL] at HDL hN hm
  clear hst hup
  gi_wp2_with fail
  obtain ⟨W0, eW⟩ : ∃ W0, W0 = (((w.alloc (.cells #[.slice a0 U c0, .slice a1 n1 c1, .slice a2 n2 c2, .slice a3 L c3, .slice a4 n4 c4] 25)).alloc (.cells #[.int .i64 most] 3)).alloc (.cells #[.slice none 0 0] 22)) := ⟨_, rfl⟩
  have hs0 : W0.heap.size = w.heap.size + 3 := by rw [eW]; simp
  have hbel : Below w.heap.size w W0 := by rw [eW]; exact (((Below.refl _ _).alloc (Nat.le_refl _) _).alloc (by simp) _).alloc (by simp; omega) _
  have hbm : Bx W0 (w.heap.size + 1) (.int .i64 most) := by rw [eW]; exact (Bx.new' _ _ _ (by simp)).alloc _
  have hbl : Bx W0 (w.heap.size + 2) (.slice none 0 0) := by rw [eW]; exact Bx.new' _ _ _ (by simp)
  rw [← eW]
  have HBE := hide hbel
  have HBM := hide hbm
  have HBL := hide hbl
  clear eW hbel hbm hbl
  refine ⟨trivial, (fun q => by cases q), (callsIn_wide.2 (unhide HD W0 (unhide HBE))).mono ?_⟩
  rintro e w2 ⟨rfl, hb2, lv, hlv⟩
  rw [hs0] at hlv
  have HB2 := hide hb2
  have HLV := hide hlv
  have hnf := fn_not_nil (w.heap.size + 3 + 1) w2
  have hz2 : w.heap.size + 5 ≤ w2.heap.size := by have := hlv.bx.lt; omega
  clear hb2 hlv HD
  gi_wp2_with fail
  have hG : AI w w2 most R 0 w2 := ⟨Fr.refl _ _, (unhide HBM).keep (Fr.of_below (S := fun _ => False) (unhide HB2)) (fun e => e), .slice none 0 0, ⟨(unhide HBL).keep (Fr.of_below (S := fun _ => False) (unhide HB2)) (fun e => e), by simpa [flt] using Ro.nil _ _, by simp [Value.ownBlock]⟩⟩
  have hseq := doms1_hands (n - 1) (w.heap.size + 3 + 1) lv R
  refine wpIn_hands rfl (by omega) (gf := 17) (lb := #[.pointer (some ⟨w.heap.size + 3 + 1, 0, none⟩)]) rfl trivial (enters_of Try.func17 (by kernel_rfl) rfl) hseq (fun _ => rfl)
    (AI w w2 most R) (fun _ _ _ => False) (fun k X q => ⟨((unhide HLV).bx.keep q.fr (by show ¬ (_ ∨ _); omega)).1, Rn.of_ro ((unhide HLV).ro.fr q.fr (fun k hk e => by have := (unhide HLV).own k hk; have := (unhide HLV).ro.lt k hk; omega))⟩) (fun k X Y q f => q.keep (by omega) f) (fun _ _ _ _ q _ => q) hG
    (fun k => { tmps := #[.agg #[.slice a0 U c0, .slice a1 n1 c1, .slice a2 n2 c2, .slice a3 L c3, .slice a4 n4 c4], .int .i64 b, .int .i64 most, .pointer (some ⟨w.heap.size, 0, none⟩), undef, .pointer (some ⟨w.heap.size + 1, 0, none⟩), .slice none 0 0, .pointer (some ⟨w.heap.size + 1 + 1, 0, none⟩), .func (.func 17) #[] #[.pointer (some ⟨w.heap.size + 3 + 1, 0, none⟩)], .int .i64 (R.getD k 0), .agg #[.slice a0 U c0, .slice a1 n1 c1, .slice a2 n2 c2, .slice a3 L c3, .slice a4 n4 c4], .int .i64 b, .func (.func 17) #[] #[.pointer (some ⟨w.heap.size + 3 + 1, 0, none⟩)], .func (.func 17) #[] #[.pointer (some ⟨w.heap.size + 3 + 1, 0, none⟩)], .bool false, undef, .func (.func 17) #[] #[.pointer (some ⟨w.heap.size + 3 + 1, 0, none⟩)], .int .i64 (R.getD k 0), undef, undef, undef, undef, undef, undef, undef, undef, undef], defers := [] }) ?assign ?body ?done ?stop
  case assign =>
    intro l k X K hK
    simp only [encN]
    gi_wp2_with fail
    exact hK
  case body =>
    rintro l k X hG hk hlt
    have hk' : k < R.length := hk
    obtain ⟨x, hx⟩ : ∃ x, R[k]? = some x := ⟨_, List.getElem?_eq_getElem hk'⟩
    rw [List.getD_eq_getElem?_getD, hx, Option.getD_some]
    have HX := hide hx
    obtain ⟨lv1, hbl⟩ := hG.bl
    have HB1 := hide hbl
    have c1 := hbl.bx.1
    have f1 := hbl.bx.2
    have cm := hG.bm.1
    have htl : (R.take k).length = k := by simp; omega
    have HTL := hide htl
    have HG := hide hG
    have hkl : k < L := Nat.lt_of_lt_of_le hk' (unhide HDL)
    have hge : ¬ (most : Int) ≤ (k : Int) := by omega
    obtain ⟨va, vc, ev, _, _⟩ := hbl.ro.shape
    rw [htl] at ev
    subst ev
    clear hG hbl hx hk htl hk' hnf
    gi_wp2_with (first | (gi_at_builtin; refine wpListIn_appN rfl _ _ rfl (.slice va k vc) (R.take k) rfl ((unhide HB1).ro.keep (fun g hg => Below.heap_alloc _ _ _ ((unhide HB1).ro.lt g hg))) ⟨X.heap.size, 0, none⟩ 1 x rfl (new_cells _ #[_] _) (by rw [unhide HTL]; omega) ?_; intro v' w' hr hg hat; rw [unhide HTL] at hr; obtain ⟨va', vc', ev', _, _⟩ := hr.shape; subst ev'; obtain ⟨p1, p2, p3⟩ := (unhide HB1).push (x := x) (by omega) (by omega) hr (by rw [unhide HTL]) hg (by simpa using hat); have P1 := hide p1; have P2 := hide p2; have k1 := p3.1; have k2 := p3.2; clear hr hg hat p1 p2 p3) | fail)
    have g := unhide HG
    refine ⟨⟨(unhide P2).block _ (by omega) (by omega), (unhide P2).block _ (by omega) (by omega)⟩, ⟨g.fr.trans ((unhide P2).mono (fun k hk e => by omega)), g.bm.keep (unhide P2) (by show ¬ (_ ∨ _); omega), ⟨_, by rw [take_push (unhide HX)]; exact unhide P1⟩⟩⟩
  case done =>
    rintro k X hE hG hK
    have ek : k = R.length := hE
    obtain ⟨lv1, hbl⟩ := hG.bl
    rw [ek, List.take_of_length_le (Nat.le_refl _)] at hbl
    have HB1 := hide hbl
    have c1 := hbl.bx.1
    have HG := hide hG
    clear hG
    obtain ⟨va, vc, ev, _, _⟩ := hbl.ro.shape
    subst ev
    clear hbl hnf
    gi_wp2_with fail
    have g := unhide HG
    have hbl := unhide HB1
    have f := fr_sh w2.heap.size X (.deferred none)
    have fb : Below w.heap.size w X := (unhide HBE).trans (((unhide HB2).mono (by omega)).trans (g.fr.below (by omega) (fun k hk e => by omega)))
    refine ⟨by simp, .inl ⟨_, _, rfl, run_takeDeferred hK, .slice va R.length vc, ?_, _, rfl, hbl.ro.fr f (fun k hk e => by have := hbl.own k hk; omega), fb.trans (f.below fb.size (fun k hk e => by omega)), fun k hk => by have := hbl.own k hk; omega⟩⟩
    simp [results, Try.f11, go_sem]
  case stop =>
    rintro c k X q
    exact q.elim
end Go.Proofs.Ytfeombhileiamaa
