/-
  A block handed in: the state on the way.
-/
import Derived.Test.YtpbdmbmafjkinaaDoorRg14
namespace Go.Proofs.YtpbdmbmafjkinaaDoor
open Go.RowKit
set_option linter.unusedVariables false
set_option linter.unusedSimpArgs false
theorem InsV.at {D : Nat → Prop} {w : World} {l : List RIn} {v : Value} (h : InsV D w l v) {i : Nat} {x : RIn} (hx : l[i]? = some x) :
    ∃ b off cap aa ac ea ec, v = .slice (some ⟨b, off, none⟩) l.length cap ∧ b < w.heap.size ∧ D b ∧ OpV D w x.args (.slice aa x.args.length ac) ∧ x.args.length ≤ ac ∧ ac ≤ maxLen ∧ ShsV D w x.ex (.slice ea x.ex.length ec) ∧ x.ex.length ≤ ec ∧ ec ≤ maxLen ∧
      ∀ W : World, W.heap[b]? = w.heap[b]? → W.cell? ⟨b, off + i * 8, none⟩ = some (.int .i64 x.op) ∧ W.cell? ⟨b, off + i * 8 + 1, none⟩ = some (.int .i64 x.code) ∧ W.cell? ⟨b, off + i * 8 + 2, none⟩ = some (.int .i64 x.dst) ∧ W.cell? ⟨b, off + i * 8 + 3, none⟩ = some (.slice aa x.args.length ac) ∧ W.cell? ⟨b, off + i * 8 + 4, none⟩ = some (.int .i64 x.n) ∧ W.cell? ⟨b, off + i * 8 + 5, none⟩ = some (.int .i64 x.pc) ∧ W.cell? ⟨b, off + i * 8 + 6, none⟩ = some (.int .i64 x.need) ∧ W.cell? ⟨b, off + i * 8 + 7, none⟩ = some (.slice ea x.ex.length ec) := by
  obtain ⟨b, off, cap, r, e, hb, hD, ⟨h1, h2, h3, h4, h5, h6, h7, h8⟩, hc⟩ := NV.at zIn h hx
  obtain ⟨aa, ac, es, hs1, hs2⟩ := h7.1.shape
  obtain ⟨ea, ec, es2, hs3, hs4⟩ := NV.shape h8
  obtain ⟨r1, r2, r3, r4, r5, r6, r7, r8⟩ := r
  subst h1 h2 h3 h4 h5 h6 es es2
  refine ⟨b, off, cap, aa, ac, ea, ec, e, hb, hD, h7, hs1, hs2, h8, hs3, hs4, fun W hW => ?_⟩
  exact ⟨(World.cell?_of_block (a := ⟨b, off + i * 8, none⟩) hW).trans (hc 0 _ rfl), (World.cell?_of_block (a := ⟨b, off + i * 8 + 1, none⟩) hW).trans (hc 1 _ rfl), (World.cell?_of_block (a := ⟨b, off + i * 8 + 2, none⟩) hW).trans (hc 2 _ rfl), (World.cell?_of_block (a := ⟨b, off + i * 8 + 3, none⟩) hW).trans (hc 3 _ rfl), (World.cell?_of_block (a := ⟨b, off + i * 8 + 4, none⟩) hW).trans (hc 4 _ rfl), (World.cell?_of_block (a := ⟨b, off + i * 8 + 5, none⟩) hW).trans (hc 5 _ rfl), (World.cell?_of_block (a := ⟨b, off + i * 8 + 6, none⟩) hW).trans (hc 6 _ rfl), (World.cell?_of_block (a := ⟨b, off + i * 8 + 7, none⟩) hW).trans (hc 7 _ rfl)⟩
theorem NxV.at {D : Nat → Prop} {w : World} {l : List Int} {v : Value} (h : NxV D w l v) {i : Nat} {n : Int} (hn : l[i]? = some n) : ∃ b off cap, v = .slice (some ⟨b, off, none⟩) l.length cap ∧ b < w.heap.size ∧ D b ∧ ∀ W : World, W.heap[b]? = w.heap[b]? → W.cell? ⟨b, off + i, none⟩ = some (.int .i64 n) := by
  have hi := (List.getElem?_eq_some_iff.1 hn).1
  obtain ⟨b, off, cap, e, _, _, hb, hc⟩ := h.1.elem zI hn
  refine ⟨b, off, cap, e, hb, h.2 (by omega) b (by rw [e]; rfl), fun W hW => (World.cell?_of_block (a := ⟨b, off + i, none⟩) hW).trans ?_⟩
  have := hc 0 _ rfl
  rwa [Nat.mul_one, Nat.add_zero] at this
/-- append of one. -/
theorem appT {w : World} {ops : Array Oper} {rest : List Oper} {o : Oper} {a : Act} {Q : Exit → Act → World → Prop}
    (hg : o.guard = none) (s x : Operand) (hop : o.op = Op.call { callee := Callee.builtin Builtin.append, args := #[s, x], argTypes := #[45, 45] })
    (v : Value) (l : List TI) (hs : a.eval s = v) (hr : Ro w 8 v l.length (flt enT l)) (ad : Addr) (c : Nat) (p : TI) (hx : a.eval x = .slice (some ad) 1 c) (hc : ∀ j u, (enT p)[j]? = some u → w.cell? (ad.add j) = some u) (h1 : p.1.av.oneCell' = true) (h2 : p.1.ev.oneCell' = true)
    (hn : l.length ≤ 1099511627776)
    (hK : ∀ v' w', Ro w' 8 v' (l.length + 1) (flt enT l ++ enT p) → w.grownBy w' v.ownBlock → (v'.ownBlock = v.ownBlock ∨ v'.ownBlock = some w.heap.size) → wpList Tryd.prog ops Q rest (a.put o.dst v') w') :
    wpList Tryd.prog ops Q (o :: rest) a w := by
  obtain ⟨i0, hi0, hz0, hz1, hz2⟩ := info_parts infIn
  exact wpList_app hg s x 45 hop 51 i0 _ 8 96 Tryd.underlying45 hi0 hz0 hz1 hz2 rfl (by decide) v _ _ hs hr ad 1 c (enT p) hx (by rw [zT]) hc (by intro u hu; simp only [enT, enIn, List.mem_cons, List.not_mem_nil, or_false] at hu; rcases hu with rfl | rfl | rfl | rfl | rfl | rfl | rfl | rfl <;> first | rfl | exact h1 | exact h2) (by omega) (by unfold maxLen; omega) (by omega) hK
theorem flt_T (X : List TI) : flt enT X = flt enIn (X.map Prod.fst) := by
  induction X with
  | nil => rfl
  | cons p r ih => simp only [flt, List.flatMap_cons, List.map_cons] at ih ⊢; rw [ih]; rfl
def mkT (i : Nat) : TI := (mkIn i, [])
theorem mkT_fst (n : Nat) : (mks mkT n).map Prod.fst = mks mkIn n := by simp [mks, mkT, List.map_map, Function.comp_def]
theorem mkT_bl {i k : Nat} (h : blT (mkT i) k) : False := by
  rcases h with h | h | ⟨r, h, _⟩
  · cases h
  · cases h
  · cases h
structure HB (T0 : Nat → Nat) (w : World) (p : Nat) (cf cr : Int) (cb : Value) (rv0 : Nat → Value) (vs0 : Nat → List Value) (bs : List BkR) (b : Bk) (iv nv nw : Value) (ns : List Int) (ov : Value) (ts : List TI) (cn : Nat → Nat) (T : Nat → Nat) (rv : Nat → Value) (vs : Nat → List Value) (wr : World) : Prop where
  hs : HS T wr p cf cr cb rv vs bs
  tk : ∀ k, k < w.heap.size → T k = T0 k
  fr : Fr (fun k => 1 ≤ T0 k ∧ T0 k ≤ 5) w wr
  b3 : wr.heap[w.heap.size]? = some (.cells #[.int .i64 b.pc, iv, nv] 47)
  b4 : wr.heap[w.heap.size + 1]? = some (.cells #[.int .i64 0, .slice none 0 0, .slice none 0 0] 47)
  t3 : T w.heap.size = 9
  t4 : T (w.heap.size + 1) = 9
  sz : w.heap.size + 2 ≤ wr.heap.size
  nx : Ro wr 1 nw ns.length (flt enI ns)
  ow : Ro wr 8 ov ts.length (flt enT ts)
  ob : ∀ k, ov.ownBlock = some k → T k = 7 ∧ w.heap.size + 2 ≤ k
  el : ∀ (j : Nat) (u : RIn) (t : TI), b.ins[j]? = some u → ts[j]? = some t → InT wr u t
  cn : ∀ t, 2 ≤ t → t ≤ 5 → (vs t).length = (vs0 t).length + cn t
  c6 : rv 6 = rv0 6
  nb : ∀ k, nw.ownBlock = some k → T k = 0 ∧ w.heap.size + 2 ≤ k
  bt : ∀ (t : TI) (k : Nat), t ∈ ts → blT t k → T k = 0 ∧ w.heap.size + 2 ≤ k ∧ k < wr.heap.size ∧ nw.ownBlock ≠ some k
  ap : ∀ (i j : Nat) (t q : TI) (k : Nat), i ≠ j → ts[i]? = some t → ts[j]? = some q → blT t k → ¬ blT q k
section
variable {T0 T : Nat → Nat} {w wr w' : World} {p : Nat} {cf cr : Int} {cb ov iv nv nw : Value} {rv0 rv : Nat → Value} {vs0 vs : Nat → List Value} {bs : List BkR} {b : Bk} {ns : List Int} {cn : Nat → Nat} {ts : List TI}
theorem HB.start (h : HS T0 w p cf cr cb rv0 vs0 bs) (b : Bk) (iv nv : Value) : HB T0 w p cf cr cb rv0 vs0 bs b iv nv (.slice none 0 0) [] (.slice none 0 0) [] (fun _ => 0) (tl T0 w.heap.size 9) rv0 vs0 ((w.alloc (.cells #[.int .i64 b.pc, iv, nv] 47)).alloc (.cells #[.int .i64 0, .slice none 0 0, .slice none 0 0] 47)) := by
  have hb := bl_two w (.cells #[.int .i64 b.pc, iv, nv] 47) (.cells #[.int .i64 0, .slice none 0 0, .slice none 0 0] 47)
  refine ⟨h.below hb 9, fun k hk => tl_lt _ _ hk, Fr.of_below hb, ?_, ?_, tl_ge _ _ (Nat.le_refl _), tl_ge _ _ (by omega), by simp, by simpa [flt] using Ro.nil _ 1, by simpa [flt] using Ro.nil _ 8, (fun k e => by cases e), (fun j s r _ h => by simp at h), (fun t _ _ => rfl), rfl, (fun k e => by cases e), (fun t k h => by simp at h), (fun i j t q k _ h => by simp at h)⟩
  · rw [Below.heap_alloc _ _ _ (by simp)]; exact heap_alloc_new w _
  · have := heap_alloc_new (w.alloc (.cells #[.int .i64 b.pc, iv, nv] 47)) (.cells #[.int .i64 0, .slice none 0 0, .slice none 0 0] 47)
    simpa only [World.size_alloc] using this
/-- Nothing turns but what is of tag 7 or 8, from the boxes on, and new blocks have the tag t. -/
theorem HB.on (h : HB T0 w p cf cr cb rv0 vs0 bs b iv nv nw ns ov ts cn T rv vs wr) {S : Nat → Prop} {T' : Nat → Nat} (f : Fr S wr w') (hS : ∀ k, k < wr.heap.size → S k → T k = 8 ∧ w.heap.size + 2 ≤ k) (hT : ∀ k, k < wr.heap.size → T' k = T k) : HB T0 w p cf cr cb rv0 vs0 bs b iv nv nw ns ov ts cn T' rv vs w' := by
  have hsz := h.sz
  refine ⟨h.hs.move f (fun k hk e => by have := hS k hk e; omega) (fun k hk _ => hT k hk), fun k hk => by rw [hT k (by omega)]; exact h.tk k hk, h.fr.comp f (fun k hk e => by have := hS k (by omega) e; omega), (f.block _ (by omega) (fun e => by have := hS _ (by omega) e; omega)).trans h.b3, (f.block _ (by omega) (fun e => by have := hS _ (by omega) e; omega)).trans h.b4, by rw [hT _ (by omega)]; exact h.t3, by rw [hT _ (by omega)]; exact h.t4, Nat.le_trans hsz f.size, h.nx.fr f (fun k hk e => by have := h.nb k hk; have := hS k (h.nx.lt k hk) e; omega), h.ow.fr f (fun k hk e => by have := h.ob k hk; have := hS k (h.ow.lt k hk) e; omega), fun k hk => ?_, fun j u t hu ht => stayT S wr w' u t (h.el j u t hu ht) f (fun k hk e => by have h3 := h.bt t k (List.mem_of_getElem? ht) hk; have := hS k h3.2.2.1 e; omega), h.cn, h.c6, fun k hk => by rw [hT k (h.nx.lt k hk)]; exact h.nb k hk, fun t k ht hk => by have h3 := h.bt t k ht hk; exact ⟨by rw [hT k h3.2.2.1]; exact h3.1, h3.2.1, Nat.lt_of_lt_of_le h3.2.2.1 f.size, h3.2.2.2⟩, h.ap⟩
  rw [hT k (h.ow.lt k hk)]; exact h.ob k hk
theorem HB.below (h : HB T0 w p cf cr cb rv0 vs0 bs b iv nv nw ns ov ts cn T rv vs wr) (f : Below wr.heap.size wr w') (t : Nat) : HB T0 w p cf cr cb rv0 vs0 bs b iv nv nw ns ov ts cn (tl T wr.heap.size t) rv vs w' :=
  h.on (Fr.of_below (S := fun _ => False) f) (fun _ _ e => e.elim) (fun k hk => tl_lt T t hk)
theorem HB.other (h : HB T0 w p cf cr cb rv0 vs0 bs b iv nv nw ns ov ts cn T rv vs wr) {x : Nat} (f : Fr (fun k => k = x) wr w') (hx : w.heap.size + 2 ≤ x) (ht : T x = 8) : HB T0 w p cf cr cb rv0 vs0 bs b iv nv nw ns ov ts cn T rv vs w' :=
  h.on f (fun k hk e => by subst e; exact ⟨ht, hx⟩) (fun _ _ => rfl)
/-- The lists of what is handed in turn, and nothing else. -/
theorem HB.lists (h : HB T0 w p cf cr cb rv0 vs0 bs b iv nv nw ns ov ts cn T rv vs wr) {T' : Nat → Nat} {rv' : Nat → Value} {vs' : Nat → List Value} {cn' : Nat → Nat} (f : Fr (fun k => 1 ≤ T k ∧ T k ≤ 5) wr w') (hT : ∀ k, k < wr.heap.size → T' k = T k) (hh : HS T' w' p cf cr cb rv' vs' bs) (h6 : rv' 6 = rv 6) (hc : ∀ t, 2 ≤ t → t ≤ 5 → (vs' t).length = (vs0 t).length + cn' t) :
    HB T0 w p cf cr cb rv0 vs0 bs b iv nv nw ns ov ts cn' T' rv' vs' w' := by
  have hsz := h.sz
  have h3 := h.t3
  have h4 := h.t4
  refine ⟨hh, fun k hk => by rw [hT k (by omega)]; exact h.tk k hk, h.fr.comp f (fun k hk e => by rw [← h.tk k hk]; exact e), (f.block _ (by omega) (by omega)).trans h.b3, (f.block _ (by omega) (by omega)).trans h.b4, by rw [hT _ (by omega)]; exact h.t3, by rw [hT _ (by omega)]; exact h.t4, Nat.le_trans hsz f.size, h.nx.fr f (fun k hk e => by have := h.nb k hk; omega), h.ow.fr f (fun k hk e => by have := h.ob k hk; omega), fun k hk => ?_, fun j u t hu ht => stayT _ wr w' u t (h.el j u t hu ht) f (fun k hk e => by have h3 := h.bt t k (List.mem_of_getElem? ht) hk; have e' : 1 ≤ T k ∧ T k ≤ 5 := e; omega), hc, by rw [h6]; exact h.c6, fun k hk => by rw [hT k (h.nx.lt k hk)]; exact h.nb k hk, fun t k ht hk => by have h3 := h.bt t k ht hk; exact ⟨by rw [hT k h3.2.2.1]; exact h3.1, h3.2.1, Nat.lt_of_lt_of_le h3.2.2.1 f.size, h3.2.2.2⟩, h.ap⟩
  rw [hT k (h.ow.lt k hk)]; exact h.ob k hk
theorem HB.push (h : HB T0 w p cf cr cb rv0 vs0 bs b iv nv nw ns ov ts cn T rv vs wr) {t : Nat} (ht2 : 2 ≤ t) (ht5 : t ≤ 5) {w1 w2 : World} {u v' : Value} (hb : Below wr.heap.size wr w1) (hu : QT t (fun k => T k = 0) wr u) {m : Nat}
    (hr : Ro w2 1 v' m (flt enV (vs t) ++ enV u)) (hm : m = (vs t).length + 1) (hg : w1.grownBy w2 (rv t).ownBlock) (hat : v'.ownBlock = (rv t).ownBlock ∨ v'.ownBlock = some w1.heap.size) :
    HB T0 w p cf cr cb rv0 vs0 bs b iv nv nw ns ov ts (upd cn t (cn t + 1)) (tl T wr.heap.size t) (upd rv t v') (upd vs t (vs t ++ [u])) (w2.setCell ⟨p, t + 1, none⟩ v') ∧ Fr (fun k => T k = t ∨ T k = 1) wr (w2.setCell ⟨p, t + 1, none⟩ v') := by
  obtain ⟨q1, q2⟩ := h.hs.push ht2 ht5 hb hu hr hm hg hat
  refine ⟨h.lists (q2.mono (fun k hk e => by omega)) (fun k hk => tl_lt T t hk) q1 (upd_ne _ _ (by omega)) (fun s s2 s5 => ?_), q2⟩
  by_cases q : s = t
  · subst q
    rw [upd_self, upd_self, List.length_append, h.cn s s2 s5]
    simp; omega
  · rw [upd_ne _ _ q, upd_ne _ _ q]; exact h.cn s s2 s5
theorem HB.shapes (h : HB T0 w p cf cr cb rv0 vs0 bs b iv nv nw ns ov ts cn T rv vs wr) {l : List Sh} {v : Value} (hh : HSh T wr p cf cr cb rv vs bs l v w') :
    ∃ T' rv' vs' rs, HB T0 w p cf cr cb rv0 vs0 bs b iv nv nw ns ov ts (upd (upd cn 2 (cn 2 + l.length)) 3 (cn 3 + 1)) T' rv' vs' w' ∧ (∀ k, k < wr.heap.size → T' k = T k) ∧ Fr (fun k => 1 ≤ T k ∧ T k ≤ 3) wr w' ∧ ShT w' l v rs ∧ ∀ k, blSh v rs k → T' k = 0 ∧ wr.heap.size ≤ k := by
  obtain ⟨T', rv', vs', rs, g1, g2, g3, g4, g4b, g5, g6, g7⟩ := hh
  refine ⟨T', rv', vs', rs, h.lists (g3.mono (fun k hk e => ⟨e.1, by omega⟩)) g2 g1 (g7 6 (by omega)).2 (fun s s2 s5 => ?_), g2, g3, g4, g4b⟩
  have hc := h.cn s s2 s5
  obtain rfl | rfl | q : s = 2 ∨ s = 3 ∨ 4 ≤ s := by omega
  · rw [upd_ne _ _ (by omega), upd_self, g5, hc]; omega
  · rw [upd_self, g6, hc]; omega
  · rw [upd_ne _ _ (by omega), upd_ne _ _ (by omega), (g7 s q).1]; exact hc
theorem HB.out (h : HB T0 w p cf cr cb rv0 vs0 bs b iv nv nw ns ov ts cn T rv vs wr) {w1 : World} {t : TI} {v' : Value} (hb : Below wr.heap.size wr w1) (hin : ∀ x, b.ins[ts.length]? = some x → InT wr x t) (hnb : ∀ k, blT t k → T k = 0 ∧ w.heap.size + 2 ≤ k ∧ k < wr.heap.size ∧ nw.ownBlock ≠ some k ∧ ∀ q ∈ ts, ¬ blT q k) {m : Nat}
    (hr : Ro w' 8 v' m (flt enT ts ++ enT t)) (hm : m = ts.length + 1) (hg : w1.grownBy w' ov.ownBlock) (hat : v'.ownBlock = ov.ownBlock ∨ v'.ownBlock = some w1.heap.size) :
    HB T0 w p cf cr cb rv0 vs0 bs b iv nv nw ns v' (ts ++ [t]) cn (tl T wr.heap.size 7) rv vs w' := by
  subst hm
  have hsz := h.sz
  have hbs := hb.size
  have h3 := h.t3
  have h4 := h.t4
  have f1 : Fr (fun k => ov.ownBlock = some k) wr w' := ((Fr.of_below (S := fun k => ov.ownBlock = some k) hb)).trans ((Fr.refl _ w1).grown hg (fun k e => .inr e))
  have f1s := f1.size
  have key : ∀ u t, InT wr u t → (∀ k, blT t k → T k = 0) → InT w' u t := fun u t hp ht => stayT _ wr w' u t hp f1 (fun k hk e => by have := h.ob k e; have := ht k hk; omega)
  refine ⟨h.hs.move f1 (fun k hk e => by have := h.ob k e; omega) (fun k hk _ => tl_lt T 7 hk), fun k hk => by rw [tl_lt T 7 (by omega)]; exact h.tk k hk, h.fr.comp f1 (fun k hk e => by have := h.ob k e; omega), (f1.block _ (by omega) (fun e => by have := h.ob _ e; omega)).trans h.b3, (f1.block _ (by omega) (fun e => by have := h.ob _ e; omega)).trans h.b4, by rw [tl_lt T 7 (by omega)]; exact h.t3, by rw [tl_lt T 7 (by omega)]; exact h.t4, Nat.le_trans hsz f1.size, h.nx.fr f1 (fun k hk e => by have := h.nb k hk; have := h.ob k e; omega), by rw [List.length_append, flt_append, flt_one]; exact hr, fun k hk => ?_, fun j s r' hs hr' => ?_, h.cn, h.c6, fun k hk => by rw [tl_lt T 7 (h.nx.lt k hk)]; exact h.nb k hk, fun y k hy hk => ?_, fun i j y z k hij hy hz hk => ?_⟩
  · rcases hat with q | q
    · rw [q] at hk; rw [tl_lt T 7 (h.ow.lt k hk)]; exact h.ob k hk
    · rw [q] at hk; cases hk; exact ⟨tl_ge T 7 hbs, by omega⟩
  · rcases mem_push hr' with ⟨q1, q2⟩ | ⟨q1, rfl⟩
    · exact key s r' (h.el j s r' hs q2) (fun k hk => (h.bt r' k (List.mem_of_getElem? q2) hk).1)
    · subst q1
      exact key s r' (hin s hs) (fun k hk => (hnb k hk).1)
  · have h3 : T k = 0 ∧ w.heap.size + 2 ≤ k ∧ k < wr.heap.size ∧ nw.ownBlock ≠ some k := by
      rcases List.mem_append.1 hy with q | q
      · exact h.bt y k q hk
      · rw [List.mem_singleton] at q
        subst q
        exact ⟨(hnb k hk).1, (hnb k hk).2.1, (hnb k hk).2.2.1, (hnb k hk).2.2.2.1⟩
    exact ⟨by rw [tl_lt T 7 h3.2.2.1]; exact h3.1, h3.2.1, Nat.lt_of_lt_of_le h3.2.2.1 f1s, h3.2.2.2⟩
  · rcases mem_push hy with ⟨q1, q2⟩ | ⟨q1, rfl⟩ <;> rcases mem_push hz with ⟨r1, r2⟩ | ⟨r1, rfl⟩
    · exact h.ap i j y z k hij q2 r2 hk
    · exact fun e => (hnb k e).2.2.2.2 y (List.mem_of_getElem? q2) hk
    · exact (hnb k hk).2.2.2.2 z (List.mem_of_getElem? r2)
    · omega
theorem HB.nxt (h : HB T0 w p cf cr cb rv0 vs0 bs b iv nv nw ns ov ts cn T rv vs wr) (hts : ts = []) {nw' : Value} {ns' : List Int} (hn : Ro wr 1 nw' ns'.length (flt enI ns')) (hk : ∀ k, nw'.ownBlock = some k → T k = 0 ∧ w.heap.size + 2 ≤ k) : HB T0 w p cf cr cb rv0 vs0 bs b iv nv nw' ns' ov ts cn T rv vs wr := by
  subst hts
  obtain ⟨a1, a2, a3, a4, a5, a6, a7, a8, a9, a10, a11, a12, a13, a14, a15, a16, a17⟩ := h
  exact ⟨a1, a2, a3, a4, a5, a6, a7, a8, hn, a10, a11, a12, a13, a14, hk, (fun t k h => by simp at h), a17⟩
def inW (l : List RIn) : Nat := (l.map (fun x => 1 + x.ex.length)).sum
theorem inW_push {l : List RIn} {i : Nat} {x : RIn} (h : l[i]? = some x) : inW (l.take (i + 1)) = inW (l.take i) + 1 + x.ex.length := by
  rw [take_push h]
  simp [inW]
  omega
theorem inW_le (l : List RIn) (i : Nat) : inW (l.take i) ≤ inW l := by
  have h : ∀ a c : List RIn, inW (a ++ c) = inW a + inW c := fun a c => by simp [inW]
  have := h (l.take i) (l.drop i)
  rw [List.take_append_drop] at this
  omega
/-- What a call of handBlock leaves. -/
def HBk (T0 : Nat → Nat) (w : World) (p : Nat) (cf cr : Int) (cb : Value) (rv0 : Nat → Value) (vs0 : Nat → List Value) (bs : List BkR) (b : Bk) (r : BkR) (w' : World) : Prop :=
  ∃ T rv vs ts, HS T w' p cf cr cb rv vs bs ∧ (∀ k, k < w.heap.size → T k = T0 k) ∧ Fr (fun k => 1 ≤ T0 k ∧ T0 k ≤ 5) w w' ∧ PB w.heap.size w' b (r, ts) ∧ (∀ k, blB (r, ts) k → T k = 0) ∧ (vs 2).length = (vs0 2).length + inW b.ins ∧ (vs 3).length = (vs0 3).length + b.ins.length ∧ (vs 4).length = (vs0 4).length + 1 ∧ (vs 5).length = (vs0 5).length + 1 ∧ rv 6 = rv0 6
/-- The end: the list is put among the lists of instructions, and the answer into its box. -/
theorem HB.done (h : HB T0 w p cf cr cb rv0 vs0 bs b iv nv nw b.nx ov (ts ++ mks mkT 16) cn T rv vs wr) (hl : ts.length = b.ins.length) {g o cp : Nat} (e : ov = .slice (some ⟨g, o, none⟩) (ts.length + 16) cp) {w1 w2 : World} {v' : Value} (hb : Below wr.heap.size wr w1) {m : Nat}
    (hr : Ro w2 1 v' m (flt enV (vs 5) ++ enV ov)) (hm : m = (vs 5).length + 1) (hg : w1.grownBy w2 (rv 5).ownBlock) (hat : v'.ownBlock = (rv 5).ownBlock ∨ v'.ownBlock = some w1.heap.size)
    (hc2 : cn 2 = inW b.ins) (hc3 : cn 3 = b.ins.length) (hc4 : cn 4 = 1) (hc5 : cn 5 = 0) (f4 : Fr (fun k => k = w.heap.size + 1) (w2.setCell ⟨p, 6, none⟩ v') w') :
    HBk T0 w p cf cr cb rv0 vs0 bs b ⟨b.pc, .slice (some ⟨g, o, none⟩) b.ins.length cp, nw⟩ w' := by
  have hsz := h.sz
  have h3 := h.t3
  have h4 := h.t4
  have hob := h.ob g (by rw [e]; rfl)
  have how := h.ow
  rw [List.length_append, mks_length] at how
  have hgl : g < wr.heap.size := how.lt g (by rw [e]; rfl)
  obtain ⟨R, hR⟩ : ∃ R : Nat → Nat, R = fun k => if w.heap.size + 2 ≤ k ∧ T k = 7 then 0 else T k := ⟨_, rfl⟩
  have hR1 : ∀ k, ¬ (w.heap.size + 2 ≤ k ∧ T k = 7) → R k = T k := fun k hk => by rw [hR]; exact if_neg hk
  have hR2 : ∀ k, (w.heap.size + 2 ≤ k ∧ T k = 7) → R k = 0 := fun k hk => by rw [hR]; exact if_pos hk
  have hs1 : HS R wr p cf cr cb rv vs bs := h.hs.move (Fr.refl (fun _ => False) wr) (fun _ _ e => e.elim) (fun k hk h6 => hR1 k (by omega))
  obtain ⟨q1, q2⟩ := hs1.push (t := 5) (by omega) (by omega) hb (u := ov) (by
    unfold QT
    rw [if_neg (by decide), if_neg (by decide), if_neg (by decide)]
    refine ⟨ts.map Prod.fst, g, o, cp, by rw [List.length_map]; exact e, hR2 g ⟨hob.2, hob.1⟩, ?_⟩
    rw [List.length_map, ← mkT_fst, ← List.map_append, ← flt_T]
    exact how) hr hm hg hat
  have hW := q2.size
  have fz : Fr (fun k => (R k = 5 ∨ R k = 1) ∨ k = w.heap.size + 1) wr w' := (q2.mono (fun k hk e => .inl e)).comp f4 (fun k hk e => .inr e)
  have hsF : HS (tl R wr.heap.size 5) w' p cf cr cb (upd rv 5 v') (upd vs 5 (vs 5 ++ [ov])) bs := q1.move f4 (fun k hk e => by
    have e' : k = w.heap.size + 1 := e
    subst e'
    rw [tl_lt _ _ (by omega), hR1 _ (by omega)]; omega) (fun _ _ _ => rfl)
  have hm2 : ∀ k, k < wr.heap.size → (T k = 0 ∧ w.heap.size ≤ k ∨ T k = 7 ∧ w.heap.size + 2 ≤ k) → ¬ ((R k = 5 ∨ R k = 1) ∨ k = w.heap.size + 1) ∧ (tl R wr.heap.size 5 k = 0 ∧ w.heap.size ≤ k) := fun k hk hh => by
    rw [tl_lt _ _ hk]
    rcases hh with hh | hh
    · rw [hR1 k (by omega)]
      refine ⟨fun q => ?_, hh⟩
      rcases q with q | q
      · omega
      · subst q; omega
    · rw [hR2 k (by omega)]
      exact ⟨by omega, rfl, by omega⟩
  have hup := how.upto (v := ov) (g := g) (off := o) (cap := cp) e (k := b.ins.length) (by omega)
  rw [flt_take zT, List.take_append_of_le_length (by omega), List.take_of_length_le (by omega)] at hup
  have hin : ∀ (i : Nat) (r : TI), ts[i]? = some r → (ts ++ mks mkT 16)[i]? = some r := fun i r hr => by rw [List.getElem?_append_left (List.getElem?_eq_some_iff.1 hr).1]; exact hr
  have hbt : ∀ (t : TI) (k : Nat), t ∈ ts → blT t k → T k = 0 ∧ w.heap.size + 2 ≤ k ∧ k < wr.heap.size ∧ nw.ownBlock ≠ some k := fun t k ht hk => h.bt t k (List.mem_append.2 (.inl ht)) hk
  have hgk : ∀ (n : Nat) (k : Nat), (Value.slice (some ⟨g, o, none⟩) n cp).ownBlock = some k → g = k := fun n k hk => by cases hk; rfl
  have ha : ∀ k, k < wr.heap.size → T k = 0 → w.heap.size + 2 ≤ k → ¬ ((R k = 5 ∨ R k = 1) ∨ k = w.heap.size + 1) := fun k h1 h2 h3 => (hm2 k h1 (.inl ⟨h2, by omega⟩)).1
  refine ⟨_, _, _, ts, hsF, fun k hk => ?_, h.fr.comp fz (fun k hk e => ?_), ⟨rfl, ⟨hl, hup.fr fz (fun k hk => ?_), fun k hk => ?_, fun i u x hu hx => ?_, fun i x k hx hk => ?_, fun i j x y k hij hx hy => h.ap i j x y k hij (hin i x hx) (hin j y hy)⟩, h.nx.fr fz (fun k hk => ?_), fun k hk => ?_⟩, fun k hk => ?_, ?_, ?_, ?_, ?_, ?_⟩
  · rw [tl_lt _ _ (by omega), hR1 k (by omega)]
    exact h.tk k hk
  · rcases e with e | e
    · rw [hR1 k (by omega)] at e
      have := h.tk k hk
      omega
    · omega
  · have hk' := hgk _ k hk
    subst hk'
    exact (hm2 g hgl (.inr hob)).1
  · have hk' := hgk _ k hk
    subst hk'
    have := hob.2
    show w.heap.size < g
    omega
  · exact stayT _ wr w' u x (h.el i u x hu (hin i x hx)) fz (fun k hk => by
      have h3 := hbt x k (List.mem_of_getElem? hx) hk
      exact ha k h3.2.2.1 h3.1 h3.2.1)
  · have h3 := hbt x k (List.mem_of_getElem? hx) hk
    refine ⟨?_, Nat.lt_of_lt_of_le h3.2.2.1 fz.size, fun e' => ?_⟩
    · have := h3.2.1
      show w.heap.size < k
      omega
    · have hk' := hgk _ k e'
      subst hk'
      omega
  · exact ha k (h.nx.lt k hk) (h.nb k hk).1 (h.nb k hk).2
  · refine ⟨by have := (h.nb k hk).2; omega, fun e' => ?_, fun y hy hb => (hbt y k hy hb).2.2.2 hk⟩
    have hk' := hgk _ k e'
    subst hk'
    have := (h.nb g hk).1
    omega
  · rcases hk with q | ⟨y, hy, q⟩ | q
    · have hk' := hgk _ k q
      subst hk'
      exact (hm2 g hgl (.inr hob)).2.1
    · have h3 := hbt y k hy q
      exact (hm2 k h3.2.2.1 (.inl ⟨h3.1, by omega⟩)).2.1
    · exact (hm2 k (h.nx.lt k q) (.inl ⟨(h.nb k q).1, by have := (h.nb k q).2; omega⟩)).2.1
  · rw [upd_ne _ _ (by omega), h.cn 2 (by omega) (by omega), hc2]
  · rw [upd_ne _ _ (by omega), h.cn 3 (by omega) (by omega), hc3]
  · rw [upd_ne _ _ (by omega), h.cn 4 (by omega) (by omega), hc4]
  · rw [upd_self, List.length_append, h.cn 5 (by omega) (by omega), hc5]; simp
  · rw [upd_ne _ _ (by omega)]; exact h.c6
end
end Go.Proofs.YtpbdmbmafjkinaaDoor
