/-
  Register code that is handed in, with marks.
-/
import Derived.Test.YtpbdpejhjdoleaaRg13
namespace Go.Proofs.Ytpbdpejhjdoleaa
open Go.RowKit
set_option linter.unusedVariables false
set_option linter.unusedSimpArgs false
/-- A full list, with its marks, in certain blocks. -/
def MR {R : Type} (en : R → List Value) (sz : Nat) (mk : Nat → R) (D : Nat → Prop) (w : World) (v : Value) : Prop :=
  ∃ (l : List R) (b o c : Nat), v = .slice (some ⟨b, o, none⟩) (l.length + 16) c ∧ D b ∧ Ro w sz v (l.length + 16) (flt en (l ++ mks mk 16))
theorem MR.mv {R : Type} {en : R → List Value} {sz : Nat} {mk : Nat → R} {D D' S : Nat → Prop} {w w' : World} {v : Value} (h : MR en sz mk D w v) (f : Fr S w w') (hD : ∀ k, k < w.heap.size → D k → ¬ S k ∧ D' k) : MR en sz mk D' w' v := by
  obtain ⟨l, b, o, c, e, hb, hr⟩ := h
  have hlt := hr.lt b (by rw [e]; rfl)
  have hk := hD b hlt hb
  refine ⟨l, b, o, c, e, hk.2, hr.fr f (fun k q => ?_)⟩
  rw [e] at q
  cases q
  exact hk.1
def QT (t : Nat) : (Nat → Prop) → World → Value → Prop :=
  if t = 2 then MR enO 2 mkO else if t = 3 then MR enSh 3 mkSh else if t = 4 then MR enI 1 mkN else MR enIn 8 mkIn
theorem QT.mv {t : Nat} {D D' S : Nat → Prop} {w w' : World} {v : Value} (h : QT t D w v) (f : Fr S w w') (hD : ∀ k, k < w.heap.size → D k → ¬ S k ∧ D' k) : QT t D' w' v := by
  unfold QT at h ⊢
  split
  · rw [if_pos (by assumption)] at h; exact h.mv f hD
  · rw [if_neg (by assumption)] at h
    split
    · rw [if_pos (by assumption)] at h; exact h.mv f hD
    · rw [if_neg (by assumption)] at h
      split
      · rw [if_pos (by assumption)] at h; exact h.mv f hD
      · rw [if_neg (by assumption)] at h; exact h.mv f hD
theorem QT.one {t : Nat} {D : Nat → Prop} {w : World} {v : Value} (h : QT t D w v) : v.oneCell' = true := by
  unfold QT at h
  split at h
  · obtain ⟨_, _, _, _, e, _⟩ := h; rw [e]; rfl
  · split at h
    · obtain ⟨_, _, _, _, e, _⟩ := h; rw [e]; rfl
    · split at h
      · obtain ⟨_, _, _, _, e, _⟩ := h; rw [e]; rfl
      · obtain ⟨_, _, _, _, e, _⟩ := h; rw [e]; rfl
def upd {A : Type} (f : Nat → A) (t : Nat) (x : A) : Nat → A := fun s => if s = t then x else f s
theorem upd_self {A : Type} (f : Nat → A) (t : Nat) (x : A) : upd f t x t = x := by simp [upd]
theorem upd_ne {A : Type} (f : Nat → A) {t s : Nat} (x : A) (h : s ≠ t) : upd f t x s = f s := by simp [upd, h]
/-- The blocks from B on have this tag. -/
def tl (T : Nat → Nat) (B t : Nat) : Nat → Nat := fun k => if k < B then T k else t
theorem tl_lt (T : Nat → Nat) {B k : Nat} (t : Nat) (h : k < B) : tl T B t k = T k := by simp [tl, h]
theorem tl_ge (T : Nat → Nat) {B k : Nat} (t : Nat) (h : B ≤ k) : tl T B t k = t := by simp [tl, Nat.not_lt.2 h]
/-- What is handed in, while it is made: blocks have tags: 1 the box, 2 to 6 its lists, 0 what is done. -/
structure HS (T : Nat → Nat) (w : World) (p : Nat) (cf cr : Int) (cb : Value) (rv : Nat → Value) (vs : Nat → List Value) (bs : List BkR) : Prop where
  box : w.heap[p]? = some (.cells #[.int .i64 cf, .int .i64 cr, cb, rv 2, rv 3, rv 4, rv 5, rv 6] 34)
  tp : T p = 1
  row : ∀ t, 2 ≤ t → t ≤ 5 → Ro w 1 (rv t) (vs t).length (flt enV (vs t))
  brow : Ro w 3 (rv 6) bs.length (flt enBk bs)
  tag : ∀ t, 2 ≤ t → t ≤ 6 → ∀ k, (rv t).ownBlock = some k → T k = t
  el : ∀ t, 2 ≤ t → t ≤ 5 → ∀ v ∈ vs t, QT t (fun k => T k = 0) w v
section
variable {T T' : Nat → Nat} {w w' : World} {p : Nat} {cf cr : Int} {cb : Value} {rv : Nat → Value} {vs : Nat → List Value} {bs : List BkR}
theorem HS.lt (h : HS T w p cf cr cb rv vs bs) : p < w.heap.size := (blk_cells h.box).2.2
theorem HS.rlt (h : HS T w p cf cr cb rv vs bs) {t : Nat} (h2 : 2 ≤ t) (h6 : t ≤ 6) {k : Nat} (hk : (rv t).ownBlock = some k) : k < w.heap.size := by
  by_cases q : t = 6
  · subst q; exact h.brow.lt k hk
  · exact (h.row t h2 (by omega)).lt k hk
theorem HS.move {S : Nat → Prop} (h : HS T w p cf cr cb rv vs bs) (f : Fr S w w') (hS : ∀ k, k < w.heap.size → S k → 7 ≤ T k) (hT : ∀ k, k < w.heap.size → T k ≤ 6 → T' k = T k) : HS T' w' p cf cr cb rv vs bs := by
  have hp := h.lt
  have ns : ∀ k, k < w.heap.size → T k ≤ 6 → ¬ S k := fun k hk h6 e => by have := hS k hk e; omega
  refine ⟨(f.block p hp (ns p hp (by rw [h.tp]; omega))).trans h.box, by rw [hT p hp (by rw [h.tp]; omega)]; exact h.tp, fun t h2 h5 => ?_, ?_, fun t h2 h6 k hk => ?_, fun t h2 h5 v hv => ?_⟩
  · exact (h.row t h2 h5).fr f (fun k hk => ns k (h.rlt h2 (by omega) hk) (by rw [h.tag t h2 (by omega) k hk]; omega))
  · exact h.brow.fr f (fun k hk => ns k (h.rlt (by omega) (by omega) hk) (by rw [h.tag 6 (by omega) (by omega) k hk]; omega))
  · have := h.tag t h2 h6 k hk
    rw [hT k (h.rlt h2 h6 hk) (by omega)]
    exact this
  · exact (h.el t h2 h5 v hv).mv f (fun k hk e => ⟨ns k hk (by rw [e]; omega), by show T' k = 0; rw [hT k hk (by rw [e]; omega)]; exact e⟩)
theorem HS.below (h : HS T w p cf cr cb rv vs bs) (f : Below w.heap.size w w') (t : Nat) : HS (tl T w.heap.size t) w' p cf cr cb rv vs bs :=
  h.move (Fr.of_below (S := fun _ => False) f) (fun _ _ e => e.elim) (fun k hk _ => tl_lt T t hk)
theorem box_set (cf cr : Int) (cb v : Value) (rv : Nat → Value) {t : Nat} (h2 : 2 ≤ t) (h6 : t ≤ 6) : (#[.int .i64 cf, .int .i64 cr, cb, rv 2, rv 3, rv 4, rv 5, rv 6] : Array Value).setIfInBounds (t + 1) v = #[.int .i64 cf, .int .i64 cr, cb, upd rv t v 2, upd rv t v 3, upd rv t v 4, upd rv t v 5, upd rv t v 6] := by
  obtain rfl | rfl | rfl | rfl | rfl : t = 2 ∨ t = 3 ∨ t = 4 ∨ t = 5 ∨ t = 6 := by omega
  all_goals simp [upd]
/-- One list more among those of tag t. -/
theorem HS.push (h : HS T w p cf cr cb rv vs bs) {t : Nat} (h2 : 2 ≤ t) (h5 : t ≤ 5) {w1 w2 : World} {u v' : Value} (hb : Below w.heap.size w w1) (hu : QT t (fun k => T k = 0) w u) {m : Nat}
    (hr : Ro w2 1 v' m (flt enV (vs t) ++ enV u)) (hm : m = (vs t).length + 1) (hg : w1.grownBy w2 (rv t).ownBlock) (hat : v'.ownBlock = (rv t).ownBlock ∨ v'.ownBlock = some w1.heap.size) :
    HS (tl T w.heap.size t) (w2.setCell ⟨p, t + 1, none⟩ v') p cf cr cb (upd rv t v') (upd vs t (vs t ++ [u])) bs ∧ Fr (fun k => T k = t ∨ T k = 1) w (w2.setCell ⟨p, t + 1, none⟩ v') := by
  subst hm
  have hp := h.lt
  have hbs := hb.size
  have f1 : Fr (fun k => (rv t).ownBlock = some k) w w2 := ((Fr.of_below (S := fun k => (rv t).ownBlock = some k) hb)).trans ((Fr.refl _ w1).grown hg (fun k e => .inr e))
  have htg := h.tag t h2 (by omega)
  have hnp : ¬ (rv t).ownBlock = some p := fun e => by have := htg p e; have := h.tp; omega
  have e2 : w2.heap[p]? = w.heap[p]? := f1.block p hp hnp
  have hp2 : p < w2.heap.size := Nat.lt_of_lt_of_le hp f1.size
  have f2 : Fr (fun k => k = p) w2 (w2.setCell ⟨p, t + 1, none⟩ v') := Fr.setCell (S := fun k => k = p) (Fr.refl _ w2) ⟨p, t + 1, none⟩ (.inr rfl) v'
  have f3 : Fr (fun k => T k = t ∨ T k = 1) w (w2.setCell ⟨p, t + 1, none⟩ v') := by
    refine ⟨f2.os.trans f1.os, f2.tape.trans f1.tape, f2.output.trans f1.output, Nat.le_trans f1.size f2.size, fun k hk hn => ?_⟩
    rw [f2.block k (Nat.lt_of_lt_of_le hk f1.size) (fun e => hn (.inr (by rw [e]; exact h.tp))), f1.block k hk (fun e => hn (.inl (htg k e)))]
  have nv : ∀ k, v'.ownBlock = some k → (k < w.heap.size ∧ T k = t) ∨ w.heap.size ≤ k := fun k hk => by
    rcases hat with q | q
    · rw [q] at hk; exact .inl ⟨h.rlt h2 (by omega) hk, htg k hk⟩
    · rw [q] at hk; cases hk; exact .inr hbs
  have nvp : ∀ k, v'.ownBlock = some k → k ≠ p := fun k hk e => by
    subst e
    rcases nv k hk with ⟨_, q⟩ | q
    · have := h.tp; omega
    · omega
  refine ⟨⟨?_, by rw [tl_lt T t hp]; exact h.tp, fun s s2 s5 => ?_, ?_, fun s s2 s6 k hk => ?_, fun s s2 s5 v hv => ?_⟩, f3⟩
  · rw [setCell_block (g := p) (o := t + 1) (e2.trans h.box) v', box_set cf cr cb v' rv h2 (by omega)]
  · by_cases q : s = t
    · subst q
      rw [upd_self, upd_self, flt_append, flt_one, List.length_append]
      exact hr.fr f2 nvp
    · rw [upd_ne _ _ q, upd_ne _ _ q]
      refine (h.row s s2 s5).fr f3 (fun k hk => ?_)
      have := h.tag s s2 (by omega) k hk
      omega
  · rw [upd_ne _ _ (by omega)]
    refine h.brow.fr f3 (fun k hk => ?_)
    have := h.tag 6 (by omega) (by omega) k hk
    omega
  · by_cases q : s = t
    · subst q
      rw [upd_self] at hk
      rcases nv k hk with ⟨q1, q2⟩ | q1
      · rw [tl_lt T _ q1]; exact q2
      · exact tl_ge T _ q1
    · rw [upd_ne _ _ q] at hk
      rw [tl_lt T _ (h.rlt s2 s6 hk)]
      exact h.tag s s2 s6 k hk
  · have key : ∀ s v, QT s (fun k => T k = 0) w v → QT s (fun k => tl T w.heap.size t k = 0) (w2.setCell ⟨p, t + 1, none⟩ v') v := fun s v hq =>
      hq.mv f3 (fun k hk e => ⟨fun q => by omega, by show tl T _ t k = 0; rw [tl_lt T t hk]; exact e⟩)
    by_cases q : s = t
    · subst q
      rw [upd_self, List.mem_append] at hv
      rcases hv with hv | hv
      · exact key s v (h.el s s2 s5 v hv)
      · rw [List.mem_singleton] at hv; subst hv; exact key s v hu
    · rw [upd_ne _ _ q] at hv
      exact key s v (h.el s s2 s5 v hv)
/-- One block more. -/
theorem HS.pushB (h : HS T w p cf cr cb rv vs bs) {w1 w2 : World} {v' : Value} {u : BkR} (hb : Below w.heap.size w w1) {m : Nat}
    (hr : Ro w2 3 v' m (flt enBk bs ++ enBk u)) (hm : m = bs.length + 1) (hg : w1.grownBy w2 (rv 6).ownBlock) (hat : v'.ownBlock = (rv 6).ownBlock ∨ v'.ownBlock = some w1.heap.size) :
    HS (tl T w.heap.size 6) (w2.setCell ⟨p, 7, none⟩ v') p cf cr cb (upd rv 6 v') vs (bs ++ [u]) ∧ Fr (fun k => T k = 6 ∨ T k = 1) w (w2.setCell ⟨p, 7, none⟩ v') := by
  subst hm
  have hp := h.lt
  have hbs := hb.size
  have f1 : Fr (fun k => (rv 6).ownBlock = some k) w w2 := ((Fr.of_below (S := fun k => (rv 6).ownBlock = some k) hb)).trans ((Fr.refl _ w1).grown hg (fun k e => .inr e))
  have htg := h.tag 6 (by omega) (by omega)
  have hnp : ¬ (rv 6).ownBlock = some p := fun e => by have := htg p e; have := h.tp; omega
  have e2 : w2.heap[p]? = w.heap[p]? := f1.block p hp hnp
  have f2 : Fr (fun k => k = p) w2 (w2.setCell ⟨p, 7, none⟩ v') := Fr.setCell (S := fun k => k = p) (Fr.refl _ w2) ⟨p, 7, none⟩ (.inr rfl) v'
  have f3 : Fr (fun k => T k = 6 ∨ T k = 1) w (w2.setCell ⟨p, 7, none⟩ v') := by
    refine ⟨f2.os.trans f1.os, f2.tape.trans f1.tape, f2.output.trans f1.output, Nat.le_trans f1.size f2.size, fun k hk hn => ?_⟩
    rw [f2.block k (Nat.lt_of_lt_of_le hk f1.size) (fun e => hn (.inr (by rw [e]; exact h.tp))), f1.block k hk (fun e => hn (.inl (htg k e)))]
  have nv : ∀ k, v'.ownBlock = some k → (k < w.heap.size ∧ T k = 6) ∨ w.heap.size ≤ k := fun k hk => by
    rcases hat with q | q
    · rw [q] at hk; exact .inl ⟨h.rlt (by omega) (by omega) hk, htg k hk⟩
    · rw [q] at hk; cases hk; exact .inr hbs
  have nvp : ∀ k, v'.ownBlock = some k → k ≠ p := fun k hk e => by
    subst e
    rcases nv k hk with ⟨_, q⟩ | q
    · have := h.tp; omega
    · omega
  refine ⟨⟨?_, by rw [tl_lt T 6 hp]; exact h.tp, fun s s2 s5 => ?_, ?_, fun s s2 s6 k hk => ?_, fun s s2 s5 v hv => ?_⟩, f3⟩
  · rw [setCell_block (g := p) (o := 7) (e2.trans h.box) v', box_set cf cr cb v' rv (t := 6) (by omega) (by omega)]
  · rw [upd_ne _ _ (by omega)]
    refine (h.row s s2 s5).fr f3 (fun k hk => ?_)
    have := h.tag s s2 (by omega) k hk
    omega
  · rw [upd_self, flt_append, flt_one, List.length_append]
    exact hr.fr f2 nvp
  · by_cases q : s = 6
    · subst q
      rw [upd_self] at hk
      rcases nv k hk with ⟨q1, q2⟩ | q1
      · rw [tl_lt T _ q1]; exact q2
      · exact tl_ge T _ q1
    · rw [upd_ne _ _ q] at hk
      rw [tl_lt T _ (h.rlt s2 s6 hk)]
      exact h.tag s s2 s6 k hk
  · exact (h.el s s2 s5 v hv).mv f3 (fun k hk e => ⟨fun q => by omega, by show tl T _ 6 k = 0; rw [tl_lt T 6 hk]; exact e⟩)
end
end Go.Proofs.Ytpbdpejhjdoleaa
