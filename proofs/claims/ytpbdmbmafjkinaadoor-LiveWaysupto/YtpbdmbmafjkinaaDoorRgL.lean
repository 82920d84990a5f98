/-
  Shapes handed in: the state on the way.
-/
import Derived.Test.YtpbdmbmafjkinaaDoorRg13
import Derived.Test.YtpbdmbmafjkinaaDoorInD
namespace Go.Proofs.YtpbdmbmafjkinaaDoor
open Go.RowKit
set_option linter.unusedVariables false
set_option linter.unusedSimpArgs false
/-- A full list, with its marks, in certain blocks. -/
def MR {R : Type} (en : R → List Value) (sz : Nat) (mk : Nat → R) (D : Nat → Prop) (w : World) (v : Value) : Prop :=
  ∃ (l : List R) (b o c : Nat), v = .slice (some ⟨b, o, none⟩) (l.length + 16) c ∧ D b ∧ Ro w sz v (l.length + 16) (flt en (l ++ mks mk 16))
theorem MR.mv {R : Type} {en : R → List Value} {sz : Nat} {mk : Nat → R} {D D' S : Nat → Prop} {w w' : World} {v : Value} (h : MR en sz mk D w v) (f : Fr S w w') (hD : ∀ k, k < w.heap.size → D k → ¬ S k ∧ D' k) : MR en sz mk D' w' v := by
  obtain ⟨l, b, o, c, e, hb, hr⟩ := h
  have hlt := hr.lt b (by rw [e]; rfl)
  have hk := hD b hlt hb
  refine ⟨l, b, o, c, e, hk.2, hr.fr f (fun k q => ?_)⟩
  rw [e] at q
  cases q
  exact hk.1
def QT (t : Nat) : (Nat → Prop) → World → Value → Prop :=
  if t = 2 then MR enO 2 mkO else if t = 3 then MR enSh 3 mkSh else if t = 4 then MR enI 1 mkN else MR enIn 8 mkIn
theorem QT.mv {t : Nat} {D D' S : Nat → Prop} {w w' : World} {v : Value} (h : QT t D w v) (f : Fr S w w') (hD : ∀ k, k < w.heap.size → D k → ¬ S k ∧ D' k) : QT t D' w' v := by
  unfold QT at h ⊢
  split
  · rw [if_pos (by assumption)] at h; exact h.mv f hD
  · rw [if_neg (by assumption)] at h
    split
    · rw [if_pos (by assumption)] at h; exact h.mv f hD
    · rw [if_neg (by assumption)] at h
      split
      · rw [if_pos (by assumption)] at h; exact h.mv f hD
      · rw [if_neg (by assumption)] at h; exact h.mv f hD
theorem QT.one {t : Nat} {D : Nat → Prop} {w : World} {v : Value} (h : QT t D w v) : v.oneCell' = true := by
  unfold QT at h
  split at h
  · obtain ⟨_, _, _, _, e, _⟩ := h; rw [e]; rfl
  · split at h
    · obtain ⟨_, _, _, _, e, _⟩ := h; rw [e]; rfl
    · split at h
      · obtain ⟨_, _, _, _, e, _⟩ := h; rw [e]; rfl
      · obtain ⟨_, _, _, _, e, _⟩ := h; rw [e]; rfl
def upd {A : Type} (f : Nat → A) (t : Nat) (x : A) : Nat → A := fun s => if s = t then x else f s
theorem upd_self {A : Type} (f : Nat → A) (t : Nat) (x : A) : upd f t x t = x := by simp [upd]
theorem upd_ne {A : Type} (f : Nat → A) {t s : Nat} (x : A) (h : s ≠ t) : upd f t x s = f s := by simp [upd, h]
/-- The blocks from B on have this tag. -/
def tl (T : Nat → Nat) (B t : Nat) : Nat → Nat := fun k => if k < B then T k else t
theorem tl_lt (T : Nat → Nat) {B k : Nat} (t : Nat) (h : k < B) : tl T B t k = T k := by simp [tl, h]
theorem tl_ge (T : Nat → Nat) {B k : Nat} (t : Nat) (h : B ≤ k) : tl T B t k = t := by simp [tl, Nat.not_lt.2 h]
/-- What is handed in, while it is made: blocks have tags: 1 the box, 2 to 6 its lists, 0 what is done. -/
structure HS (T : Nat → Nat) (w : World) (p : Nat) (cf cr : Int) (cb : Value) (rv : Nat → Value) (vs : Nat → List Value) (bs : List BkR) : Prop where
  box : w.heap[p]? = some (.cells #[.int .i64 cf, .int .i64 cr, cb, rv 2, rv 3, rv 4, rv 5, rv 6] 34)
  tp : T p = 1
  row : ∀ t, 2 ≤ t → t ≤ 5 → Ro w 1 (rv t) (vs t).length (flt enV (vs t))
  brow : Ro w 3 (rv 6) bs.length (flt enBk bs)
  tag : ∀ t, 2 ≤ t → t ≤ 6 → ∀ k, (rv t).ownBlock = some k → T k = t
  el : ∀ t, 2 ≤ t → t ≤ 5 → ∀ v ∈ vs t, QT t (fun k => T k = 0) w v
section
variable {T T' : Nat → Nat} {w w' : World} {p : Nat} {cf cr : Int} {cb : Value} {rv : Nat → Value} {vs : Nat → List Value} {bs : List BkR}
theorem HS.lt (h : HS T w p cf cr cb rv vs bs) : p < w.heap.size := (blk_cells h.box).2.2
theorem HS.rlt (h : HS T w p cf cr cb rv vs bs) {t : Nat} (h2 : 2 ≤ t) (h6 : t ≤ 6) {k : Nat} (hk : (rv t).ownBlock = some k) : k < w.heap.size := by
  by_cases q : t = 6
  · subst q; exact h.brow.lt k hk
  · exact (h.row t h2 (by omega)).lt k hk
theorem HS.move {S : Nat → Prop} (h : HS T w p cf cr cb rv vs bs) (f : Fr S w w') (hS : ∀ k, k < w.heap.size → S k → 7 ≤ T k) (hT : ∀ k, k < w.heap.size → T k ≤ 6 → T' k = T k) : HS T' w' p cf cr cb rv vs bs := by
  have hp := h.lt
  have ns : ∀ k, k < w.heap.size → T k ≤ 6 → ¬ S k := fun k hk h6 e => by have := hS k hk e; omega
  refine ⟨(f.block p hp (ns p hp (by rw [h.tp]; omega))).trans h.box, by rw [hT p hp (by rw [h.tp]; omega)]; exact h.tp, fun t h2 h5 => ?_, ?_, fun t h2 h6 k hk => ?_, fun t h2 h5 v hv => ?_⟩
  · exact (h.row t h2 h5).fr f (fun k hk => ns k (h.rlt h2 (by omega) hk) (by rw [h.tag t h2 (by omega) k hk]; omega))
  · exact h.brow.fr f (fun k hk => ns k (h.rlt (by omega) (by omega) hk) (by rw [h.tag 6 (by omega) (by omega) k hk]; omega))
  · have := h.tag t h2 h6 k hk
    rw [hT k (h.rlt h2 h6 hk) (by omega)]
    exact this
  · exact (h.el t h2 h5 v hv).mv f (fun k hk e => ⟨ns k hk (by rw [e]; omega), by show T' k = 0; rw [hT k hk (by rw [e]; omega)]; exact e⟩)
theorem HS.below (h : HS T w p cf cr cb rv vs bs) (f : Below w.heap.size w w') (t : Nat) : HS (tl T w.heap.size t) w' p cf cr cb rv vs bs :=
  h.move (Fr.of_below (S := fun _ => False) f) (fun _ _ e => e.elim) (fun k hk _ => tl_lt T t hk)
theorem box_set (cf cr : Int) (cb v : Value) (rv : Nat → Value) {t : Nat} (h2 : 2 ≤ t) (h6 : t ≤ 6) : (#[.int .i64 cf, .int .i64 cr, cb, rv 2, rv 3, rv 4, rv 5, rv 6] : Array Value).setIfInBounds (t + 1) v = #[.int .i64 cf, .int .i64 cr, cb, upd rv t v 2, upd rv t v 3, upd rv t v 4, upd rv t v 5, upd rv t v 6] := by
  obtain rfl | rfl | rfl | rfl | rfl : t = 2 ∨ t = 3 ∨ t = 4 ∨ t = 5 ∨ t = 6 := by omega
  all_goals simp [upd]
/-- One list more among those of tag t. -/
theorem HS.push (h : HS T w p cf cr cb rv vs bs) {t : Nat} (h2 : 2 ≤ t) (h5 : t ≤ 5) {w1 w2 : World} {u v' : Value} (hb : Below w.heap.size w w1) (hu : QT t (fun k => T k = 0) w u) {m : Nat}
    (hr : Ro w2 1 v' m (flt enV (vs t) ++ enV u)) (hm : m = (vs t).length + 1) (hg : w1.grownBy w2 (rv t).ownBlock) (hat : v'.ownBlock = (rv t).ownBlock ∨ v'.ownBlock = some w1.heap.size) :
    HS (tl T w.heap.size t) (w2.setCell ⟨p, t + 1, none⟩ v') p cf cr cb (upd rv t v') (upd vs t (vs t ++ [u])) bs ∧ Fr (fun k => T k = t ∨ T k = 1) w (w2.setCell ⟨p, t + 1, none⟩ v') := by
  subst hm
  have hp := h.lt
  have hbs := hb.size
  have f1 : Fr (fun k => (rv t).ownBlock = some k) w w2 := ((Fr.of_below (S := fun k => (rv t).ownBlock = some k) hb)).trans ((Fr.refl _ w1).grown hg (fun k e => .inr e))
  have htg := h.tag t h2 (by omega)
  have hnp : ¬ (rv t).ownBlock = some p := fun e => by have := htg p e; have := h.tp; omega
  have e2 : w2.heap[p]? = w.heap[p]? := f1.block p hp hnp
  have hp2 : p < w2.heap.size := Nat.lt_of_lt_of_le hp f1.size
  have f2 : Fr (fun k => k = p) w2 (w2.setCell ⟨p, t + 1, none⟩ v') := Fr.setCell (S := fun k => k = p) (Fr.refl _ w2) ⟨p, t + 1, none⟩ (.inr rfl) v'
  have f3 : Fr (fun k => T k = t ∨ T k = 1) w (w2.setCell ⟨p, t + 1, none⟩ v') := by
    refine ⟨f2.os.trans f1.os, f2.tape.trans f1.tape, f2.output.trans f1.output, Nat.le_trans f1.size f2.size, fun k hk hn => ?_⟩
    rw [f2.block k (Nat.lt_of_lt_of_le hk f1.size) (fun e => hn (.inr (by rw [e]; exact h.tp))), f1.block k hk (fun e => hn (.inl (htg k e)))]
  have nv : ∀ k, v'.ownBlock = some k → (k < w.heap.size ∧ T k = t) ∨ w.heap.size ≤ k := fun k hk => by
    rcases hat with q | q
    · rw [q] at hk; exact .inl ⟨h.rlt h2 (by omega) hk, htg k hk⟩
    · rw [q] at hk; cases hk; exact .inr hbs
  have nvp : ∀ k, v'.ownBlock = some k → k ≠ p := fun k hk e => by
    subst e
    rcases nv k hk with ⟨_, q⟩ | q
    · have := h.tp; omega
    · omega
  refine ⟨⟨?_, by rw [tl_lt T t hp]; exact h.tp, fun s s2 s5 => ?_, ?_, fun s s2 s6 k hk => ?_, fun s s2 s5 v hv => ?_⟩, f3⟩
  · rw [setCell_block (g := p) (o := t + 1) (e2.trans h.box) v', box_set cf cr cb v' rv h2 (by omega)]
  · by_cases q : s = t
    · subst q
      rw [upd_self, upd_self, flt_append, flt_one, List.length_append]
      exact hr.fr f2 nvp
    · rw [upd_ne _ _ q, upd_ne _ _ q]
      refine (h.row s s2 s5).fr f3 (fun k hk => ?_)
      have := h.tag s s2 (by omega) k hk
      omega
  · rw [upd_ne _ _ (by omega)]
    refine h.brow.fr f3 (fun k hk => ?_)
    have := h.tag 6 (by omega) (by omega) k hk
    omega
  · by_cases q : s = t
    · subst q
      rw [upd_self] at hk
      rcases nv k hk with ⟨q1, q2⟩ | q1
      · rw [tl_lt T _ q1]; exact q2
      · exact tl_ge T _ q1
    · rw [upd_ne _ _ q] at hk
      rw [tl_lt T _ (h.rlt s2 s6 hk)]
      exact h.tag s s2 s6 k hk
  · have key : ∀ s v, QT s (fun k => T k = 0) w v → QT s (fun k => tl T w.heap.size t k = 0) (w2.setCell ⟨p, t + 1, none⟩ v') v := fun s v hq =>
      hq.mv f3 (fun k hk e => ⟨fun q => by omega, by show tl T _ t k = 0; rw [tl_lt T t hk]; exact e⟩)
    by_cases q : s = t
    · subst q
      rw [upd_self, List.mem_append] at hv
      rcases hv with hv | hv
      · exact key s v (h.el s s2 s5 v hv)
      · rw [List.mem_singleton] at hv; subst hv; exact key s v hu
    · rw [upd_ne _ _ q] at hv
      exact key s v (h.el s s2 s5 v hv)
/-- One block more. -/
theorem HS.pushB (h : HS T w p cf cr cb rv vs bs) {w1 w2 : World} {v' : Value} {u : BkR} (hb : Below w.heap.size w w1) {m : Nat}
    (hr : Ro w2 3 v' m (flt enBk bs ++ enBk u)) (hm : m = bs.length + 1) (hg : w1.grownBy w2 (rv 6).ownBlock) (hat : v'.ownBlock = (rv 6).ownBlock ∨ v'.ownBlock = some w1.heap.size) :
    HS (tl T w.heap.size 6) (w2.setCell ⟨p, 7, none⟩ v') p cf cr cb (upd rv 6 v') vs (bs ++ [u]) ∧ Fr (fun k => T k = 6 ∨ T k = 1) w (w2.setCell ⟨p, 7, none⟩ v') := by
  subst hm
  have hp := h.lt
  have hbs := hb.size
  have f1 : Fr (fun k => (rv 6).ownBlock = some k) w w2 := ((Fr.of_below (S := fun k => (rv 6).ownBlock = some k) hb)).trans ((Fr.refl _ w1).grown hg (fun k e => .inr e))
  have htg := h.tag 6 (by omega) (by omega)
  have hnp : ¬ (rv 6).ownBlock = some p := fun e => by have := htg p e; have := h.tp; omega
  have e2 : w2.heap[p]? = w.heap[p]? := f1.block p hp hnp
  have f2 : Fr (fun k => k = p) w2 (w2.setCell ⟨p, 7, none⟩ v') := Fr.setCell (S := fun k => k = p) (Fr.refl _ w2) ⟨p, 7, none⟩ (.inr rfl) v'
  have f3 : Fr (fun k => T k = 6 ∨ T k = 1) w (w2.setCell ⟨p, 7, none⟩ v') := by
    refine ⟨f2.os.trans f1.os, f2.tape.trans f1.tape, f2.output.trans f1.output, Nat.le_trans f1.size f2.size, fun k hk hn => ?_⟩
    rw [f2.block k (Nat.lt_of_lt_of_le hk f1.size) (fun e => hn (.inr (by rw [e]; exact h.tp))), f1.block k hk (fun e => hn (.inl (htg k e)))]
  have nv : ∀ k, v'.ownBlock = some k → (k < w.heap.size ∧ T k = 6) ∨ w.heap.size ≤ k := fun k hk => by
    rcases hat with q | q
    · rw [q] at hk; exact .inl ⟨h.rlt (by omega) (by omega) hk, htg k hk⟩
    · rw [q] at hk; cases hk; exact .inr hbs
  have nvp : ∀ k, v'.ownBlock = some k → k ≠ p := fun k hk e => by
    subst e
    rcases nv k hk with ⟨_, q⟩ | q
    · have := h.tp; omega
    · omega
  refine ⟨⟨?_, by rw [tl_lt T 6 hp]; exact h.tp, fun s s2 s5 => ?_, ?_, fun s s2 s6 k hk => ?_, fun s s2 s5 v hv => ?_⟩, f3⟩
  · rw [setCell_block (g := p) (o := 7) (e2.trans h.box) v', box_set cf cr cb v' rv (t := 6) (by omega) (by omega)]
  · rw [upd_ne _ _ (by omega)]
    refine (h.row s s2 s5).fr f3 (fun k hk => ?_)
    have := h.tag s s2 (by omega) k hk
    omega
  · rw [upd_self, flt_append, flt_one, List.length_append]
    exact hr.fr f2 nvp
  · by_cases q : s = 6
    · subst q
      rw [upd_self] at hk
      rcases nv k hk with ⟨q1, q2⟩ | q1
      · rw [tl_lt T _ q1]; exact q2
      · exact tl_ge T _ q1
    · rw [upd_ne _ _ q] at hk
      rw [tl_lt T _ (h.rlt s2 s6 hk)]
      exact h.tag s s2 s6 k hk
  · exact (h.el s s2 s5 v hv).mv f3 (fun k hk e => ⟨fun q => by omega, by show tl T _ 6 k = 0; rw [tl_lt T 6 hk]; exact e⟩)
end

set_option linter.unusedVariables false
set_option linter.unusedSimpArgs false
theorem appVO {w : World} {ops : Array Oper} {rest : List Oper} {o : Oper} {a : Act} {Q : Exit → Act → World → Prop}
    (hg : o.guard = none) (s x : Operand) (hop : o.op = Op.call { callee := Callee.builtin Builtin.append, args := #[s, x], argTypes := #[29, 29] })
    (v : Value) (l : List Value) (hs : a.eval s = v) (hr : Ro w 1 v l.length (flt enV l)) (ad : Addr) (c : Nat) (p : Value) (hx : a.eval x = .slice (some ad) 1 c) (hc : ∀ j u, (enV p)[j]? = some u → w.cell? (ad.add j) = some u) (h1 : p.oneCell' = true)
    (hn : l.length ≤ 1099511627776)
    (hK : ∀ v' w', Ro w' 1 v' (l.length + 1) (flt enV l ++ enV p) → w.grownBy w' v.ownBlock → (v'.ownBlock = v.ownBlock ∨ v'.ownBlock = some w.heap.size) → wpList Tryd.prog ops Q rest (a.put o.dst v') w') :
    wpList Tryd.prog ops Q (o :: rest) a w := by
  obtain ⟨i0, hi0, hz0, hz1, hz2⟩ := info_parts infR42
  exact wpList_app hg s x 29 hop 48 i0 _ 1 24 Tryd.underlying29 hi0 hz0 hz1 hz2 rfl (by decide) v _ _ hs hr ad 1 c (enV p) hx (by rw [zV]) hc (by intro u hu; simp only [enV, List.mem_cons, List.not_mem_nil, or_false] at hu; rcases hu with rfl; exact h1) (by omega) (by unfold maxLen; omega) (by omega) hK
theorem appVSh {w : World} {ops : Array Oper} {rest : List Oper} {o : Oper} {a : Act} {Q : Exit → Act → World → Prop}
    (hg : o.guard = none) (s x : Operand) (hop : o.op = Op.call { callee := Callee.builtin Builtin.append, args := #[s, x], argTypes := #[30, 30] })
    (v : Value) (l : List Value) (hs : a.eval s = v) (hr : Ro w 1 v l.length (flt enV l)) (ad : Addr) (c : Nat) (p : Value) (hx : a.eval x = .slice (some ad) 1 c) (hc : ∀ j u, (enV p)[j]? = some u → w.cell? (ad.add j) = some u) (h1 : p.oneCell' = true)
    (hn : l.length ≤ 1099511627776)
    (hK : ∀ v' w', Ro w' 1 v' (l.length + 1) (flt enV l ++ enV p) → w.grownBy w' v.ownBlock → (v'.ownBlock = v.ownBlock ∨ v'.ownBlock = some w.heap.size) → wpList Tryd.prog ops Q rest (a.put o.dst v') w') :
    wpList Tryd.prog ops Q (o :: rest) a w := by
  obtain ⟨i0, hi0, hz0, hz1, hz2⟩ := info_parts infR43
  exact wpList_app hg s x 30 hop 49 i0 _ 1 24 Tryd.underlying30 hi0 hz0 hz1 hz2 rfl (by decide) v _ _ hs hr ad 1 c (enV p) hx (by rw [zV]) hc (by intro u hu; simp only [enV, List.mem_cons, List.not_mem_nil, or_false] at hu; rcases hu with rfl; exact h1) (by omega) (by unfold maxLen; omega) (by omega) hK
theorem appVN {w : World} {ops : Array Oper} {rest : List Oper} {o : Oper} {a : Act} {Q : Exit → Act → World → Prop}
    (hg : o.guard = none) (s x : Operand) (hop : o.op = Op.call { callee := Callee.builtin Builtin.append, args := #[s, x], argTypes := #[31, 31] })
    (v : Value) (l : List Value) (hs : a.eval s = v) (hr : Ro w 1 v l.length (flt enV l)) (ad : Addr) (c : Nat) (p : Value) (hx : a.eval x = .slice (some ad) 1 c) (hc : ∀ j u, (enV p)[j]? = some u → w.cell? (ad.add j) = some u) (h1 : p.oneCell' = true)
    (hn : l.length ≤ 1099511627776)
    (hK : ∀ v' w', Ro w' 1 v' (l.length + 1) (flt enV l ++ enV p) → w.grownBy w' v.ownBlock → (v'.ownBlock = v.ownBlock ∨ v'.ownBlock = some w.heap.size) → wpList Tryd.prog ops Q rest (a.put o.dst v') w') :
    wpList Tryd.prog ops Q (o :: rest) a w := by
  obtain ⟨i0, hi0, hz0, hz1, hz2⟩ := info_parts infR23
  exact wpList_app hg s x 31 hop 25 i0 _ 1 24 Tryd.underlying31 hi0 hz0 hz1 hz2 rfl (by decide) v _ _ hs hr ad 1 c (enV p) hx (by rw [zV]) hc (by intro u hu; simp only [enV, List.mem_cons, List.not_mem_nil, or_false] at hu; rcases hu with rfl; exact h1) (by omega) (by unfold maxLen; omega) (by omega) hK
theorem appVIn {w : World} {ops : Array Oper} {rest : List Oper} {o : Oper} {a : Act} {Q : Exit → Act → World → Prop}
    (hg : o.guard = none) (s x : Operand) (hop : o.op = Op.call { callee := Callee.builtin Builtin.append, args := #[s, x], argTypes := #[32, 32] })
    (v : Value) (l : List Value) (hs : a.eval s = v) (hr : Ro w 1 v l.length (flt enV l)) (ad : Addr) (c : Nat) (p : Value) (hx : a.eval x = .slice (some ad) 1 c) (hc : ∀ j u, (enV p)[j]? = some u → w.cell? (ad.add j) = some u) (h1 : p.oneCell' = true)
    (hn : l.length ≤ 1099511627776)
    (hK : ∀ v' w', Ro w' 1 v' (l.length + 1) (flt enV l ++ enV p) → w.grownBy w' v.ownBlock → (v'.ownBlock = v.ownBlock ∨ v'.ownBlock = some w.heap.size) → wpList Tryd.prog ops Q rest (a.put o.dst v') w') :
    wpList Tryd.prog ops Q (o :: rest) a w := by
  obtain ⟨i0, hi0, hz0, hz1, hz2⟩ := info_parts infR22
  exact wpList_app hg s x 32 hop 45 i0 _ 1 24 Tryd.underlying32 hi0 hz0 hz1 hz2 rfl (by decide) v _ _ hs hr ad 1 c (enV p) hx (by rw [zV]) hc (by intro u hu; simp only [enV, List.mem_cons, List.not_mem_nil, or_false] at hu; rcases hu with rfl; exact h1) (by omega) (by unfold maxLen; omega) (by omega) hK

theorem Fr.comp {S S' : Nat → Prop} {a b c : World} (h : Fr S a b) (k : Fr S' b c) (hs : ∀ i, i < a.heap.size → S' i → S i) : Fr S a c :=
  ⟨k.os.trans h.os, k.tape.trans h.tape, k.output.trans h.output, Nat.le_trans h.size k.size,
    fun i hi hn => (k.block i (Nat.lt_of_lt_of_le hi h.size) (fun e => hn (hs i hi e))).trans (h.block i hi hn)⟩
/-- A shape as it lies in its row, its slots in a row of one's own. -/
def ShE (w : World) (s : Sh) (r : ShR) : Prop := r.fn = s.fn ∧ r.pc = s.pc ∧ Ro w 2 r.v s.sl.length (flt enO s.sl)
theorem ShE.fr {S : Nat → Prop} {w w' : World} {s : Sh} {r : ShR} (h : ShE w s r) (f : Fr S w w') (hn : ∀ k, r.v.ownBlock = some k → ¬ S k) : ShE w' s r := ⟨h.1, h.2.1, h.2.2.fr f hn⟩
/-- A list of shapes of one's own, all apart. -/
structure ShT (w : World) (l : List Sh) (v : Value) (rs : List ShR) : Prop where
  len : rs.length = l.length
  row : Ro w 3 v l.length (flt enSh rs)
  s : ∀ (j : Nat) (s : Sh) (r : ShR), l[j]? = some s → rs[j]? = some r → ShE w s r
  ne : ∀ (r : ShR) (k : Nat), r ∈ rs → r.v.ownBlock = some k → v.ownBlock ≠ some k
  ss : ∀ (i j : Nat) (r q : ShR) (k : Nat), i ≠ j → rs[i]? = some r → rs[j]? = some q → r.v.ownBlock = some k → q.v.ownBlock ≠ some k
def blSh (v : Value) (rs : List ShR) (k : Nat) : Prop := v.ownBlock = some k ∨ ∃ r ∈ rs, r.v.ownBlock = some k
theorem ShT.fr {S : Nat → Prop} {w w' : World} {l : List Sh} {v : Value} {rs : List ShR} (h : ShT w l v rs) (f : Fr S w w') (hn : ∀ k, blSh v rs k → ¬ S k) : ShT w' l v rs :=
  ⟨h.len, h.row.fr f (fun k hk => hn k (.inl hk)), fun j s r hs hr => (h.s j s r hs hr).fr f (fun k hk => hn k (.inr ⟨r, List.mem_of_getElem? hr, hk⟩)), h.ne, h.ss⟩
theorem ShT.lt {w : World} {l : List Sh} {v : Value} {rs : List ShR} (h : ShT w l v rs) {k : Nat} (hk : blSh v rs k) : k < w.heap.size := by
  rcases hk with q | ⟨r, hr, q⟩
  · exact h.row.lt k q
  · obtain ⟨i, hi, rfl⟩ := List.getElem_of_mem hr
    exact (h.s i _ _ (List.getElem?_eq_getElem (by rw [← h.len]; exact hi)) (List.getElem?_eq_getElem hi)).2.2.lt k q
theorem mem_push {A : Type} {l : List A} {i : Nat} {x y : A} (h : (l ++ [x])[i]? = some y) : (i < l.length ∧ l[i]? = some y) ∨ (i = l.length ∧ y = x) := by
  by_cases q : i < l.length
  · rw [List.getElem?_append_left q] at h; exact .inl ⟨q, h⟩
  · have hi : i = l.length := by have := (List.getElem?_eq_some_iff.1 h).1; simp at this; omega
    subst hi
    rw [List.getElem?_append_right (Nat.le_refl _), Nat.sub_self] at h
    cases h
    exact .inr ⟨rfl, rfl⟩
structure HL (T0 : Nat → Nat) (w : World) (p : Nat) (cf cr : Int) (cb : Value) (rv0 : Nat → Value) (vs0 : Nat → List Value) (bs : List BkR) (l : List Sh) (c : Nat) (ov : Value) (rs : List ShR) (T : Nat → Nat) (rv : Nat → Value) (vs : Nat → List Value) (wr : World) : Prop where
  hs : HS T wr p cf cr cb rv vs bs
  tk : ∀ k, k < w.heap.size → T k = T0 k
  fr : Fr (fun k => 1 ≤ T0 k ∧ T0 k ≤ 3) w wr
  ow : Ro wr 3 ov rs.length (flt enSh rs)
  ob : ∀ k, ov.ownBlock = some k → T k = 7 ∧ w.heap.size ≤ k
  el : ∀ (j : Nat) (s : Sh) (r : ShR), l[j]? = some s → rs[j]? = some r → ShE wr s r
  c2 : (vs 2).length = (vs0 2).length + c
  c3 : ∀ t, 3 ≤ t → vs t = vs0 t ∧ rv t = rv0 t
  sb : ∀ (r : ShR) (k : Nat), r ∈ rs → r.v.ownBlock = some k → T k = 0 ∧ w.heap.size ≤ k ∧ k < wr.heap.size
  ap : ∀ (i j : Nat) (r q : ShR) (k : Nat), i ≠ j → rs[i]? = some r → rs[j]? = some q → r.v.ownBlock = some k → q.v.ownBlock ≠ some k
section
variable {T0 T : Nat → Nat} {w wr w' : World} {p : Nat} {cf cr : Int} {cb ov : Value} {rv0 rv : Nat → Value} {vs0 vs : Nat → List Value} {bs : List BkR} {l : List Sh} {c : Nat} {rs : List ShR}
theorem HL.start (h : HS T0 w p cf cr cb rv0 vs0 bs) (l : List Sh) : HL T0 w p cf cr cb rv0 vs0 bs l 0 (.slice none 0 0) [] T0 rv0 vs0 w :=
  ⟨h, fun _ _ => rfl, Fr.refl _ _, by simpa [flt] using Ro.nil w 3, (fun k e => by cases e), (fun j s r _ h => by simp at h), rfl, (fun _ _ => ⟨rfl, rfl⟩), (fun r k h => by simp at h), (fun i j r q k _ h => by simp at h)⟩
theorem HL.below (h : HL T0 w p cf cr cb rv0 vs0 bs l c ov rs T rv vs wr) (f : Below wr.heap.size wr w') (t : Nat) : HL T0 w p cf cr cb rv0 vs0 bs l c ov rs (tl T wr.heap.size t) rv vs w' := by
  have f1 : Fr (fun _ => False) wr w' := Fr.of_below f
  have hsz := h.fr.size
  refine ⟨h.hs.below f t, fun k hk => by rw [tl_lt T t (by omega)]; exact h.tk k hk, h.fr.comp f1 (fun _ _ e => e.elim), h.ow.fr f1 (fun _ _ e => e), fun k hk => ?_, fun j s r hs hr => ?_, h.c2, h.c3, fun r k hr hk => ?_, h.ap⟩
  · rw [tl_lt T t (h.ow.lt k hk)]; exact h.ob k hk
  · exact (h.el j s r hs hr).fr f1 (fun k hk e => e)
  · have := h.sb r k hr hk
    have := f.size
    rw [tl_lt T t (by omega)]
    omega
theorem HL.other (h : HL T0 w p cf cr cb rv0 vs0 bs l c ov rs T rv vs wr) {x : Nat} (f : Fr (fun k => k = x) wr w') (hx : w.heap.size ≤ x) (ht : T x = 8) : HL T0 w p cf cr cb rv0 vs0 bs l c ov rs T rv vs w' := by
  refine ⟨h.hs.move f (fun k hk e => by subst e; omega) (fun _ _ _ => rfl), h.tk, h.fr.comp f (fun k hk e => by omega), h.ow.fr f (fun k hk e => ?_), h.ob, fun j s r hs hr => ?_, h.c2, h.c3, fun r k hr hk => ?_, h.ap⟩
  · have := h.ob k hk; subst e; omega
  · exact (h.el j s r hs hr).fr f (fun k hk e => by
      have e' : k = x := e
      subst e'
      have := h.sb r k (List.mem_of_getElem? hr) hk
      omega)
  · have := h.sb r k hr hk
    have := f.size
    omega
theorem HL.pushO (h : HL T0 w p cf cr cb rv0 vs0 bs l c ov rs T rv vs wr) {w1 w2 : World} {u v' : Value} (hb : Below wr.heap.size wr w1) (hu : QT 2 (fun k => T k = 0) wr u) {m : Nat}
    (hr : Ro w2 1 v' m (flt enV (vs 2) ++ enV u)) (hm : m = (vs 2).length + 1) (hg : w1.grownBy w2 (rv 2).ownBlock) (hat : v'.ownBlock = (rv 2).ownBlock ∨ v'.ownBlock = some w1.heap.size) :
    HL T0 w p cf cr cb rv0 vs0 bs l (c + 1) ov rs (tl T wr.heap.size 2) (upd rv 2 v') (upd vs 2 (vs 2 ++ [u])) (w2.setCell ⟨p, 3, none⟩ v') ∧ Fr (fun k => T k = 2 ∨ T k = 1) wr (w2.setCell ⟨p, 3, none⟩ v') := by
  obtain ⟨q1, q2⟩ := h.hs.push (t := 2) (by omega) (by omega) hb hu hr hm hg hat
  have hsz := h.fr.size
  refine ⟨⟨q1, fun k hk => by rw [tl_lt T 2 (by omega)]; exact h.tk k hk, h.fr.comp q2 (fun k hk e => by have := h.tk k hk; omega), h.ow.fr q2 (fun k hk e => by have := h.ob k hk; omega), fun k hk => ?_, fun j s r hs hr => ?_, ?_, fun t ht => ?_, fun r k hr hk => ?_, h.ap⟩, q2⟩
  · rw [tl_lt T 2 (h.ow.lt k hk)]; exact h.ob k hk
  · exact (h.el j s r hs hr).fr q2 (fun k hk e => by
      have e' : T k = 2 ∨ T k = 1 := e
      have := h.sb r k (List.mem_of_getElem? hr) hk
      omega)
  · rw [upd_self, List.length_append, h.c2]; rfl
  · rw [upd_ne _ _ (by omega), upd_ne _ _ (by omega)]; exact h.c3 t ht
  · have h3 := h.sb r k hr hk
    exact ⟨by rw [tl_lt T 2 h3.2.2]; exact h3.1, h3.2.1, Nat.lt_of_lt_of_le h3.2.2 q2.size⟩
theorem HL.out (h : HL T0 w p cf cr cb rv0 vs0 bs l c ov rs T rv vs wr) {w1 : World} {r : ShR} {v' : Value} (hb : Below wr.heap.size wr w1) (hsh : ∀ s, l[rs.length]? = some s → ShE wr s r) (hnb : ∀ k, r.v.ownBlock = some k → T k = 0 ∧ w.heap.size ≤ k ∧ k < wr.heap.size ∧ ∀ q ∈ rs, q.v.ownBlock ≠ some k) {m : Nat}
    (hr : Ro w' 3 v' m (flt enSh rs ++ enSh r)) (hm : m = rs.length + 1) (hg : w1.grownBy w' ov.ownBlock) (hat : v'.ownBlock = ov.ownBlock ∨ v'.ownBlock = some w1.heap.size) :
    HL T0 w p cf cr cb rv0 vs0 bs l c v' (rs ++ [r]) (tl T wr.heap.size 7) rv vs w' := by
  subst hm
  have hsz := h.fr.size
  have hbs := hb.size
  have f1 : Fr (fun k => ov.ownBlock = some k) wr w' := ((Fr.of_below (S := fun k => ov.ownBlock = some k) hb)).trans ((Fr.refl _ w1).grown hg (fun k e => .inr e))
  have f1s := f1.size
  have key : ∀ s r, ShE wr s r → (∀ k, r.v.ownBlock = some k → T k = 0) → ShE w' s r := fun s r hp ht => hp.fr f1 (fun k hk e => by have := h.ob k e; have := ht k hk; omega)
  refine ⟨h.hs.move f1 (fun k hk e => by have := h.ob k e; omega) (fun k hk _ => tl_lt T 7 hk), fun k hk => by rw [tl_lt T 7 (by omega)]; exact h.tk k hk, h.fr.comp f1 (fun k hk e => by have := h.ob k e; omega), by rw [List.length_append, flt_append, flt_one]; exact hr, fun k hk => ?_, fun j s r' hs hr' => ?_, h.c2, h.c3, fun y k hy hk => ?_, fun i j y z k hij hy hz hk => ?_⟩
  · rcases hat with q | q
    · rw [q] at hk; rw [tl_lt T 7 (h.ow.lt k hk)]; exact h.ob k hk
    · rw [q] at hk; cases hk; exact ⟨tl_ge T 7 hbs, by omega⟩
  · by_cases q : j < rs.length
    · rw [List.getElem?_append_left q] at hr'
      exact key s r' (h.el j s r' hs hr') (fun k hk => (h.sb r' k (List.mem_of_getElem? hr') hk).1)
    · have hj : j = rs.length := by have := (List.getElem?_eq_some_iff.1 hr').1; simp at this; omega
      subst hj
      rw [List.getElem?_append_right (Nat.le_refl _), Nat.sub_self] at hr'
      cases hr'
      exact key s r (hsh s hs) (fun k hk => (hnb k hk).1)
  · have h3 : T k = 0 ∧ w.heap.size ≤ k ∧ k < wr.heap.size := by
      rcases List.mem_append.1 hy with q | q
      · exact h.sb y k q hk
      · rw [List.mem_singleton] at q
        subst q
        exact ⟨(hnb k hk).1, (hnb k hk).2.1, (hnb k hk).2.2.1⟩
    rw [tl_lt T 7 h3.2.2]
    omega
  · rcases mem_push hy with ⟨q1, q2⟩ | ⟨q1, rfl⟩ <;> rcases mem_push hz with ⟨r1, r2⟩ | ⟨r1, rfl⟩
    · exact h.ap i j y z k hij q2 r2 hk
    · exact fun e => (hnb k e).2.2.2 y (List.mem_of_getElem? q2) hk
    · exact (hnb k hk).2.2.2 z (List.mem_of_getElem? r2)
    · omega
/-- What a call of handShapes leaves. -/
def HSh (T0 : Nat → Nat) (w : World) (p : Nat) (cf cr : Int) (cb : Value) (rv0 : Nat → Value) (vs0 : Nat → List Value) (bs : List BkR) (l : List Sh) (v : Value) (w' : World) : Prop :=
  ∃ T rv vs rs, HS T w' p cf cr cb rv vs bs ∧ (∀ k, k < w.heap.size → T k = T0 k) ∧ Fr (fun k => 1 ≤ T0 k ∧ T0 k ≤ 3) w w' ∧ ShT w' l v rs ∧ (∀ k, blSh v rs k → T k = 0 ∧ w.heap.size ≤ k) ∧ (vs 2).length = (vs0 2).length + l.length ∧ (vs 3).length = (vs0 3).length + 1 ∧ ∀ t, 4 ≤ t → vs t = vs0 t ∧ rv t = rv0 t
/-- The end: the list is put among the lists of shapes. -/
theorem HL.done (h : HL T0 w p cf cr cb rv0 vs0 bs l l.length ov (rs ++ mks mkSh 16) T rv vs wr) (hl : rs.length = l.length) {b o cp : Nat} (e : ov = .slice (some ⟨b, o, none⟩) (rs.length + 16) cp) {w1 w2 : World} {v' : Value} (hb : Below wr.heap.size wr w1) {m : Nat}
    (hr : Ro w2 1 v' m (flt enV (vs 3) ++ enV ov)) (hm : m = (vs 3).length + 1) (hg : w1.grownBy w2 (rv 3).ownBlock) (hat : v'.ownBlock = (rv 3).ownBlock ∨ v'.ownBlock = some w1.heap.size) :
    HSh T0 w p cf cr cb rv0 vs0 bs l (.slice (some ⟨b, o, none⟩) l.length cp) (w2.setCell ⟨p, 4, none⟩ v') := by
  have hsz := h.fr.size
  have hob := h.ob b (by rw [e]; rfl)
  have how := h.ow
  rw [List.length_append, mks_length] at how
  have hs1 : HS (fun k => if w.heap.size ≤ k ∧ T k = 7 then 0 else T k) wr p cf cr cb rv vs bs := h.hs.move (Fr.refl (fun _ => False) wr) (fun _ _ e => e.elim) (fun k hk h6 => by
    show (if w.heap.size ≤ k ∧ T k = 7 then 0 else T k) = T k
    rw [if_neg (by omega)])
  have hbl : b < wr.heap.size := how.lt b (by rw [e]; rfl)
  obtain ⟨q1, q2⟩ := hs1.push (t := 3) (by omega) (by omega) hb (u := ov) (by
    unfold QT
    rw [if_neg (by decide), if_pos rfl]
    exact ⟨rs, b, o, cp, e, by show (if w.heap.size ≤ b ∧ T b = 7 then 0 else T b) = 0; rw [if_pos ⟨hob.2, hob.1⟩], how⟩) hr hm hg hat
  have hm2 : ∀ k, k < wr.heap.size → (T k = 0 ∨ T k = 7) ∧ w.heap.size ≤ k → ¬ ((if w.heap.size ≤ k ∧ T k = 7 then 0 else T k) = 3 ∨ (if w.heap.size ≤ k ∧ T k = 7 then 0 else T k) = 1) ∧ (tl (fun k => if w.heap.size ≤ k ∧ T k = 7 then 0 else T k) wr.heap.size 3 k = 0 ∧ w.heap.size ≤ k) := fun k hk hh => by
    rw [tl_lt _ _ hk]
    by_cases q : T k = 7
    · simp [q, hh.2]
    · rw [if_neg (by omega)]
      omega
  have hup := how.upto (v := ov) (g := b) (off := o) (cap := cp) e (k := l.length) (by omega)
  rw [flt_take zSh, List.take_append_of_le_length (by omega), List.take_of_length_le (by omega)] at hup
  have hin : ∀ (i : Nat) (r : ShR), rs[i]? = some r → (rs ++ mks mkSh 16)[i]? = some r := fun i r hr => by rw [List.getElem?_append_left (List.getElem?_eq_some_iff.1 hr).1]; exact hr
  have hsb : ∀ (r : ShR) (k : Nat), r ∈ rs → r.v.ownBlock = some k → T k = 0 ∧ w.heap.size ≤ k ∧ k < wr.heap.size := fun r k hr hk => h.sb r k (List.mem_append.2 (.inl hr)) hk
  refine ⟨_, _, _, rs, q1, fun k hk => ?_, h.fr.comp q2 (fun k hk e => ?_), ?_, ?_, ?_, ?_, fun t ht => ?_⟩
  · rw [tl_lt _ _ (by omega)]
    show (if w.heap.size ≤ k ∧ T k = 7 then 0 else T k) = _
    rw [if_neg (by omega)]
    exact h.tk k hk
  · have e' : (if w.heap.size ≤ k ∧ T k = 7 then 0 else T k) = 3 ∨ (if w.heap.size ≤ k ∧ T k = 7 then 0 else T k) = 1 := e
    rw [if_neg (by omega)] at e'
    have := h.tk k hk
    omega
  · refine ⟨hl, hup.fr q2 (fun k hk => ?_), fun j s r hs hr => (h.el j s r hs (hin j r hr)).fr q2 (fun k hk => ?_), fun r k hr hk e' => ?_, fun i j r q k hij hr hq => h.ap i j r q k hij (hin i r hr) (hin j q hq)⟩
    · cases hk; exact (hm2 b hbl ⟨.inr hob.1, hob.2⟩).1
    · have h3 := hsb r k (List.mem_of_getElem? hr) hk
      exact (hm2 k h3.2.2 ⟨.inl h3.1, h3.2.1⟩).1
    · have h3 := hsb r k hr hk
      have hbk : b = k := by cases e'; rfl
      subst hbk
      have h7 := hob.1
      rw [h3.1] at h7
      cases h7
  · intro k hk
    rcases hk with q | ⟨r, hr, q⟩
    · cases q; exact (hm2 b hbl ⟨.inr hob.1, hob.2⟩).2
    · have h3 := hsb r k hr q
      exact (hm2 k h3.2.2 ⟨.inl h3.1, h3.2.1⟩).2
  · rw [upd_ne _ _ (by omega)]; exact h.c2
  · rw [upd_self, List.length_append, (h.c3 3 (by omega)).1]; rfl
  · rw [upd_ne _ _ (by omega), upd_ne _ _ (by omega)]; exact h.c3 t (by omega)
end
end Go.Proofs.YtpbdmbmafjkinaaDoor
