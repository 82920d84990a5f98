/-
  Dominates, Doms.
-/
import Derived.Test.YtfeombhileiamaaHands
namespace Go.Proofs.Ytfeombhileiamaa
open Go.RowKit Go.Shelf
set_option linter.unusedVariables false
attribute [local go_sem] Oper.semAt_some

/-- A cell that may be written. -/
def Bx (X : World) (b : Nat) (v : Value) : Prop := X.cell? ⟨b, 0, none⟩ = some v ∧ X.frozen? ⟨b, 0, none⟩ = false
theorem Bx.lt {X : World} {b : Nat} {v : Value} (h : Bx X b v) : b < X.heap.size := World.block_lt_of_cell? _ _ h.1
theorem Bx.keep {S : Nat → Prop} {X Y : World} {b : Nat} {v : Value} (h : Bx X b v) (f : Fr S X Y) (hn : ¬ S b) : Bx Y b v :=
  ⟨(f.cell (a := ⟨b, 0, none⟩) h.lt hn).trans h.1, (f.frozen (a := ⟨b, 0, none⟩) h.lt hn).trans h.2⟩
theorem Bx.alloc {X : World} {b : Nat} {v : Value} (h : Bx X b v) (o : Obj) : Bx (X.alloc o) b v := h.keep ((Fr.refl (fun _ => False) X).alloc o) (fun e => e)
theorem Bx.new (X : World) (v : Value) (t : TypeId) : Bx (X.alloc (.cells #[v] t)) X.heap.size v := by
  have hg := heap_alloc_new X (.cells #[v] t)
  refine ⟨?_, ?_⟩
  · simp only [World.cell?, hg]; rfl
  · simp only [World.frozen?, hg]; rfl
theorem Bx.new' (X : World) (v : Value) (t : TypeId) {n : Nat} (hn : X.heap.size = n) : Bx (X.alloc (.cells #[v] t)) n v := hn ▸ Bx.new X v t
theorem Bx.set {X : World} {b : Nat} {v : Value} (h : Bx X b v) (u : Value) : Bx (X.setCell ⟨b, 0, none⟩ u) b u :=
  ⟨World.cell?_setCell_same' _ _ _ (by rw [h.1]; rfl), by rw [World.frozen?_setCell]; exact h.2⟩
theorem Bx.other {X : World} {b c : Nat} {v : Value} (h : Bx X b v) (hne : b ≠ c) (u : Value) : Bx (X.setCell ⟨c, 0, none⟩ u) b v :=
  h.keep ((Fr.refl (fun x => x = c) X).setCell ⟨c, 0, none⟩ (.inr rfl) u) hne
theorem fr_sh (D : Nat) (X : World) (o : Obj) : Fr (fun x => x = D) X (X.putObj D o) := ⟨rfl, rfl, rfl, by simp, fun k _ hk => World.putObj_heap_other hk⟩

theorem wpListIn_appN {F : Fence} {n : Nat} {w : World} {ops : Array Oper} {rest : List Oper} {o : Oper} {a : Act} {Q : Exit → Act → World → Prop}
    (hg : o.guard = none) (s x : Operand) (hop : o.op = Op.call { callee := Callee.builtin Builtin.append, args := #[s, x], argTypes := #[22, 22] })
    (v : Value) (l : List Int) (hs : a.eval s = v) (hr : Ro w 1 v l.length (flt enN l)) (ad : Addr) (c : Nat) (k : Int) (hx : a.eval x = .slice (some ad) 1 c) (hc : ∀ j u, [Value.int .i64 k][j]? = some u → w.cell? (ad.add j) = some u)
    (hN : l.length < 17592186044416)
    (hK : ∀ v' w', Ro w' 1 v' (l.length + 1) (flt enN l ++ enN k) → w.grownBy w' v.ownBlock → (v'.ownBlock = v.ownBlock ∨ v'.ownBlock = some w.heap.size) → wpListIn F n Try.prog ops Q rest (a.put o.dst v') w') :
    wpListIn F n Try.prog ops Q (o :: rest) a w := by
  obtain ⟨i0, hi0, hz0, hz1, hz2⟩ := info_parts Try.info3
  refine wpListIn_plain hg fun K hK' => ?_
  obtain ⟨v', w', hrun, r1, r2, r3⟩ := Ro.app (P := Try.prog) 22 o.type 3 i0 _ 1 8 Try.underlying22 hi0 hz0 hz1 hz2 rfl (by decide) hr ad 1 c [.int .i64 k] rfl hc (by simp [Value.oneCell']) (by omega) (by unfold maxLen; omega) (by omega)
  unfold Oper.wpIn
  refine ⟨?_, ?_⟩
  · simp [Oper.about, hop, resolve, Target.leads, Sem.run_pure]
  · rw [Oper.semAt_plain F _ _ (by rw [hop]; intro c hc'; cases hc')]
    simp [execOp, hop, resolve, invoke, builtin, hs, hx, hrun, Result.andThen]
    exact hK' _ _ (hK v' w' r1 r2 r3)

/-- A box with a list of one's own in it, which lies from block E on. -/
structure BL (X : World) (B E : Nat) (lv : Value) (l : List Int) : Prop where
  bx : Bx X B lv
  ro : Ro X 1 lv l.length (flt enN l)
  own : ∀ k, lv.ownBlock = some k → E ≤ k
theorem BL.keep {S : Nat → Prop} {X Y : World} {B E : Nat} {lv : Value} {l : List Int} (h : BL X B E lv l) (f : Fr S X Y) (hB : ¬ S B) (hE : ∀ k, S k → k < E) : BL Y B E lv l :=
  ⟨h.bx.keep f hB, h.ro.fr f (fun k hk e => by have := h.own k hk; have := hE k e; omega), h.own⟩
/-- One more is laid in. -/
theorem BL.push {X Y : World} {B E : Nat} {lv lv' : Value} {l : List Int} {x : Int} {o : Obj} {m : Nat} (h : BL X B E lv l) (hBE : B < E) (hE : E ≤ X.heap.size) (hr : Ro Y 1 lv' m (flt enN l ++ enN x)) (hm : m = l.length + 1) (hg : (X.alloc o).grownBy Y lv.ownBlock) (hat : lv'.ownBlock = lv.ownBlock ∨ lv'.ownBlock = some (X.alloc o).heap.size) :
    BL (Y.setCell ⟨B, 0, none⟩ lv') B E lv' (l ++ [x]) ∧ Fr (fun k => k = B ∨ E ≤ k) X (Y.setCell ⟨B, 0, none⟩ lv') ∧ Bx Y B lv := by
  subst hm
  have f1 : Fr (fun k => k = B ∨ E ≤ k) X Y := ((Fr.refl _ X).alloc o).grown hg (fun k e => .inr (.inr (h.own k e)))
  have f2 := f1.setCell ⟨B, 0, none⟩ (.inr (.inl rfl)) lv'
  have own' : ∀ k, lv'.ownBlock = some k → E ≤ k := fun k hk => by
    rcases hat with q | q
    · exact h.own k (q ▸ hk)
    · rw [q] at hk; cases hk; simp; omega
  have hb : Bx Y B lv := h.bx.keep (((Fr.refl (fun k => E ≤ k) X).alloc o).grown hg (fun k e => .inr (h.own k e))) (by omega)
  refine ⟨⟨hb.set _, ?_, own'⟩, f2, hb⟩
  rw [List.length_append, flt_append, flt_one]
  exact hr.fr ((Fr.refl (fun x => x = B) Y).setCell ⟨B, 0, none⟩ (.inr rfl) lv') (fun k hk e => by have := own' k hk; omega)

/-- Doms' state behind k rounds. -/
structure DI (w : World) (b : Int) (uv : Value) (ds : List Int) (k : Nat) (X : World) : Prop where
  bel : Below w.heap.size w X
  bl : ∃ lv, BL X (w.heap.size + 1) (w.heap.size + 6) lv (ds.take k)
  bu : Bx X (w.heap.size + 2) uv
  bf : Bx X (w.heap.size + 3) (.int .i64 b)
theorem DI.keep {w X Y : World} {b : Int} {uv : Value} {ds : List Int} {k : Nat} (h : DI w b uv ds k X) (f : Fr (two2 (w.heap.size + 4)) X Y) : DI w b uv ds k Y := by
  obtain ⟨h1, ⟨lv, h2⟩, h3, h4⟩ := h
  refine ⟨h1.trans (f.below h1.size (fun k hk e => by unfold two2 at e; omega)), ⟨lv, h2.keep f (by unfold two2; omega) (fun k e => by unfold two2 at e; omega)⟩, h3.keep f (by unfold two2; omega), h4.keep f (by unfold two2; omega)⟩

set_option maxRecDepth 100000 in
set_option maxHeartbeats 1600000 in
theorem doms_any {w : World} {gv : Value} {st up : List Int} (b : Int) (h : GV w gv st up) (hN : up.length ≤ 17592186043904) :
    Calls Try.prog 14 #[gv, .int .i64 b] w fun e w' => e = .returned (.func (.func 17) #[] #[.pointer (some ⟨w.heap.size + 1, 0, none⟩)]) ∧ Below w.heap.size w w' ∧ ∃ lv, BL w' (w.heap.size + 1) (w.heap.size + 6) lv (dms up b) := by
  obtain ⟨n, hn⟩ : ∃ n : Nat, 4 ≤ n := ⟨4, Nat.le_refl _⟩
  refine (callsIn_wide (n := n)).1 ?_
  obtain ⟨a0, c0, a1, n1, c1, a2, n2, c2, a3, c3, a4, n4, c4, rfl, hst, hup⟩ := h
  have HDL := hide (dms_length up b)
  obtain ⟨R, hR⟩ : ∃ R, Hid (dms up b = R) := ⟨_, rfl⟩
  rw [unhide hR] at HDL ⊢
  refine callsIn_of_wp_marks Try.func14 rfl trivial ?_ rfl
  simp only [Try.ntmps14, List.size_toArray, List.length_cons, List.length_nil, Nat.reduceAdd, Nat.reduceSub, Array.replicate_succ, Array.replicate_zero, List.push_toArray, List.append_toArray, List.nil_append, List.cons_append]
  have HU := hide hup
  obtain ⟨L, hL⟩ : ∃ L, Hid (up.length = L) := ⟨_, rfl⟩
  obtain ⟨U, hU⟩ : ∃ U, Hid (st.length = U) := ⟨_, rfl⟩
  rw [unhide hL, unhide hU]
  rw [unhide hL] at HU HDL hN
  clear hst hup
  gi_wp2_with fail
  refine ⟨trivial, (fun q => by cases q), (callsIn_wide.2 (climb_any _ _ _ _ _)).mono ?_⟩
  rintro e w1 ⟨rfl, ew⟩
  rw [ew]
  clear ew w1
  gi_wp2_with fail
  obtain ⟨W0, eW⟩ : ∃ W0, W0 = ((((w.alloc (.cells #[.slice a0 U c0, .slice a1 n1 c1, .slice a2 n2 c2, .slice a3 L c3, .slice a4 n4 c4] 25)).alloc (.cells #[.slice none 0 0] 22)).alloc (.cells #[.slice a3 L c3] 22)).alloc (.cells #[.int .i64 b] 3)) := ⟨_, rfl⟩
  have hs0 : W0.heap.size = w.heap.size + 4 := by rw [eW]; simp
  have hG : DI w b (.slice a3 L c3) R 0 W0 := by
    rw [eW]
    have s1 : ∀ o, (w.alloc o).heap.size = w.heap.size + 1 := fun o => by simp
    have s2 : ∀ o o', ((w.alloc o).alloc o').heap.size = w.heap.size + 2 := fun o o' => by simp
    have s3 : ∀ o o' o'', (((w.alloc o).alloc o').alloc o'').heap.size = w.heap.size + 3 := fun o o' o'' => by simp
    refine ⟨((((Below.refl _ _).alloc (Nat.le_refl _) _).alloc (by simp) _).alloc (by simp; omega) _).alloc (by simp; omega) _, ⟨.slice none 0 0, ⟨((Bx.new' _ _ _ (s1 _)).alloc _).alloc _, by simpa [flt] using Ro.nil _ _, by simp [Value.ownBlock]⟩⟩, (Bx.new' _ _ _ (s2 _ _)).alloc _, Bx.new' _ _ _ (s3 _ _ _)⟩
  rw [← eW]
  clear eW
  have hseq := climb1_hands (n - 1) (w.heap.size + 3) (w.heap.size + 2) b (.slice a3 L c3) up
  rw [unhide hR] at hseq
  refine wpIn_hands rfl (by omega) (gf := 18) (lb := #[.pointer (some ⟨w.heap.size + 3, 0, none⟩), .pointer (some ⟨w.heap.size + 2, 0, none⟩)]) rfl trivial (enters_of Try.func18 (by kernel_rfl) rfl) hseq (fun _ => rfl)
    (DI w b (.slice a3 L c3) R) (fun _ _ _ => False) (fun k X q => ⟨q.bf.1, q.bu.1, (unhide HU).below q.bel (Nat.le_refl _)⟩) (fun k X Y q f => q.keep (by rw [hs0] at f; exact f)) (fun _ _ _ _ q _ => q) hG
    (fun k => { tmps := #[.agg #[.slice a0 U c0, .slice a1 n1 c1, .slice a2 n2 c2, .slice a3 L c3, .slice a4 n4 c4], .int .i64 b, .pointer (some ⟨w.heap.size, 0, none⟩), undef, .nilFunc, .pointer (some ⟨w.heap.size + 1, 0, none⟩), .int .i64 (R.getD k 0), .pointer (some ⟨w.heap.size, 3, none⟩), .slice a3 L c3, .int .i64 b, .func (.func 18) #[] #[.pointer (some ⟨w.heap.size + 1 + 1 + 1, 0, none⟩), .pointer (some ⟨w.heap.size + 1 + 1, 0, none⟩)], .int .i64 (R.getD k 0), undef, undef, undef, undef, undef], defers := [] }) ?assign ?body ?done ?stop
  case assign =>
    intro l k X K hK
    simp only [encN]
    gi_wp2_with fail
    exact hK
  case body =>
    rintro l k X hG hk hlt
    have hk' : k < R.length := hk
    obtain ⟨x, hx⟩ : ∃ x, R[k]? = some x := ⟨_, List.getElem?_eq_getElem hk'⟩
    rw [List.getD_eq_getElem?_getD, hx, Option.getD_some]
    have HX := hide hx
    obtain ⟨lv, hbl⟩ := hG.bl
    have HBL := hide hbl
    have c1 := hbl.bx.1
    have f1 := hbl.bx.2
    have htl : (R.take k).length = k := by simp; omega
    have HTL := hide htl
    have HG := hide hG
    have hsz : w.heap.size + 6 ≤ X.heap.size := by omega
    have hkl : k < L := Nat.lt_of_lt_of_le hk' (unhide HDL)
    obtain ⟨va, vc, ev, _, _⟩ := hbl.ro.shape
    rw [htl] at ev
    subst ev
    clear hG hbl hx hk htl hk'
    gi_wp2_with (first | (gi_at_builtin; refine wpListIn_appN rfl _ _ rfl (.slice va k vc) (R.take k) rfl ((unhide HBL).ro.keep (fun g hg => Below.heap_alloc _ _ _ ((unhide HBL).ro.lt g hg))) ⟨X.heap.size, 0, none⟩ 1 x rfl (new_cells _ #[_] _) (by rw [unhide HTL]; omega) ?_; intro v' w' hr hg hat; rw [unhide HTL] at hr; obtain ⟨va', vc', ev', _, _⟩ := hr.shape; subst ev'; obtain ⟨p1, p2, p3⟩ := (unhide HBL).push (x := x) (by omega) (by omega) hr (by rw [unhide HTL]) hg (by simpa using hat); have P1 := hide p1; have P2 := hide p2; have k1 := p3.1; have k2 := p3.2; clear hr hg hat p1 p2 p3) | fail)
    have g := unhide HG
    refine ⟨⟨(unhide P2).block _ (by omega) (by omega), (unhide P2).block _ (by omega) (by omega)⟩, ⟨g.bel.trans ((unhide P2).below g.bel.size (fun k hk e => by omega)), ⟨_, by rw [take_push (unhide HX)]; exact unhide P1⟩, g.bu.keep (unhide P2) (by show ¬ (_ ∨ _); omega), g.bf.keep (unhide P2) (by show ¬ (_ ∨ _); omega)⟩⟩
  case done =>
    rintro k X hE hG hK
    have ek : k = R.length := hE
    obtain ⟨lv, hbl⟩ := hG.bl
    have HBL := hide hbl
    have HG := hide hG
    clear hG hbl
    gi_wp2_with fail
    have g := unhide HG
    have hbl := unhide HBL
    have f := fr_sh W0.heap.size X (.deferred none)
    rw [ek, List.take_of_length_le (Nat.le_refl _)] at hbl
    refine ⟨by simp, .inl ⟨_, _, rfl, run_takeDeferred hK, .func (.func 17) #[] #[.pointer (some ⟨w.heap.size + 1, 0, none⟩)], ?_, rfl, g.bel.trans (f.below g.bel.size (fun k hk e => by omega)), lv, ⟨hbl.bx.keep f (by omega), hbl.ro.fr f (fun k hk e => by have := hbl.own k hk; omega), hbl.own⟩⟩⟩
    simp [results, Try.f14, go_sem]
  case stop =>
    rintro c k X q
    exact q.elim
end Go.Proofs.Ytfeombhileiamaa
