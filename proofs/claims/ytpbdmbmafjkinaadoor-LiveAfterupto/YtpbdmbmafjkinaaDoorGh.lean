/-
  What apartGrown keeps on its way.
-/
import Derived.Test.YtpbdmbmafjkinaaDoorLo
import Derived.Test.YtpbdmbmafjkinaaDoorApO
namespace Go.Proofs.YtpbdmbmafjkinaaDoor
open Go.RowKit
set_option linter.unusedVariables false
set_option linter.unusedSimpArgs false
section
variable {T : Type} {en : T → List Value} {sz : Nat}
theorem rep_take (z : T) (xs : List T) (m : Nat) : (xs ++ List.replicate m z).take xs.length = xs := by simp
theorem rep_succ (z : T) (xs : List T) (m : Nat) : xs ++ List.replicate (m + 1) z = xs ++ List.replicate m z ++ [z] := by rw [List.append_assoc, ← List.replicate_succ']
/-- A row that grows: m marks lie behind it. -/
structure GR (en : T → List Value) (sz : Nat) (z : T) (Wg : World) (v : Value) (xs : List T) (m : Nat) (hv : Value) (w : World) : Prop where
  hr : Ro w sz hv (xs.length + m) (flt en (xs ++ List.replicate m z))
  vr : Ro w sz v xs.length (flt en xs)
  fr : Fr (fun q => v.ownBlock = some q) Wg w
  rel : Rl Wg v xs.length m hv
variable {Wg w : World} {v hv : Value} {xs : List T} {m : Nat} {z : T}
theorem GR.start (h : Ro Wg sz v xs.length (flt en xs)) : GR en sz z Wg v xs 0 v Wg := ⟨by simpa using h, h, Fr.refl _ _, .inl ⟨rfl, rfl⟩⟩
theorem GR.step (hz : ∀ x, (en x).length = sz) {w' : World} {v' : Value} {X : Obj} (h : GR en sz z Wg v xs m hv w) (hvl : ∀ q, v.ownBlock = some q → q < Wg.heap.size)
    (hr : Ro w' sz v' (xs.length + m + 1) (flt en (xs ++ List.replicate m z) ++ en z)) (hg : (w.alloc X).grownBy w' hv.ownBlock)
    (hat : (∃ g off cap, hv = .slice (some ⟨g, off, none⟩) (xs.length + m) cap ∧ v' = .slice (some ⟨g, off, none⟩) (xs.length + m + 1) cap) ∨ v'.ownBlock = some (w.alloc X).heap.size) (hold : Ro w' sz hv (xs.length + m) (flt en (xs ++ List.replicate m z))) : GR en sz z Wg v xs (m + 1) v' w' := by
  have f : Fr (fun b => hv.ownBlock = some b) w w' := ((Fr.refl _ w).alloc X).grown hg (fun b e => .inr e)
  have hsz := h.fr.size
  have hX : (w.alloc X).heap.size = w.heap.size + 1 := by simp
  refine ⟨by rw [rep_succ, flt_append, flt_one]; exact hr, ?_, h.fr.trans2 f (fun b hb e => ?_), ?_⟩
  · rcases h.rel with ⟨e0, e1⟩ | ⟨g, off, cap, e1, e2⟩ | ⟨b, e1, hb⟩
    · subst e0
      rw [← e1]
      simpa using hold
    · rw [e2] at hold
      have := hold.upto rfl (k := xs.length) (by omega)
      rw [flt_take hz, rep_take] at this
      rw [e1]
      exact this
    · exact Ro.fr h.vr f (fun b' hb' e => by
        rw [e1] at e
        cases e
        have := hvl _ hb'
        omega)
  · rcases h.rel.own e with r | r
    · exact r
    · omega
  · rcases hat with ⟨g, off, cap, e1, e2⟩ | e2
    · rcases h.rel with ⟨e0, e3⟩ | ⟨g', off', cap', e3, e4⟩ | ⟨b, e3, hb⟩
      · right; left
        subst e0
        exact ⟨g, off, cap, by rw [← e3, e1]; rfl, e2⟩
      · right; left
        rw [e4] at e1
        cases e1
        exact ⟨_, _, _, e3, e2⟩
      · right; right
        rw [e1] at e3
        exact ⟨b, by rw [e2]; exact e3, hb⟩
    · right; right
      exact ⟨_, e2, by omega⟩
/-- The marks alone. -/
theorem GR.past (hz : ∀ x, (en x).length = sz) (h : GR en sz z Wg v xs m hv w) {g o c : Nat} (e : hv = .slice (some ⟨g, o, none⟩) (xs.length + m) c) : Ro w sz (.slice (some ⟨g, o + xs.length * sz, none⟩) m (c - xs.length)) m (flt en (List.replicate m z)) := by
  have q := h.hr
  have := q.past e (k := xs.length) (by omega)
  rw [flt_drop hz, List.drop_left, Nat.add_sub_cancel_left] at this
  exact this
theorem GR.own (h : GR en sz z Wg v xs m hv w) {q : Nat} (e : hv.ownBlock = some q) : v.ownBlock = some q ∨ Wg.heap.size ≤ q := h.rel.own e
/-- What was gathered of a kind: slices of marks, each in a block of tag 4. -/
structure GQ (en : T → List Value) (sz : Nat) (mk : Nat → T) (cnt : Nat) (G : Nat → Nat) (tg : Nat) (gv : Value) (vals : List Value) (w : World) : Prop where
  row : Ro w 1 gv vals.length (flt enV vals)
  rb : ∀ q, gv.ownBlock = some q → G q = tg
  el : ∀ (j : Nat) (u : Value), vals[j]? = some u → ∃ g o c, u = .slice (some ⟨g, o, none⟩) cnt c ∧ G g = 4 ∧ Ro w sz u cnt (flt en (List.replicate cnt (mk j)))
variable {mk : Nat → T} {cnt tg : Nat} {G G' : Nat → Nat} {gv : Value} {vals : List Value}
theorem GQ.nil (w : World) (G : Nat → Nat) : GQ en sz mk cnt G tg (.slice none 0 0) [] w := ⟨by simpa [flt] using Ro.nil w 1, (fun q e => by cases e), (fun j u h => by simp at h)⟩
theorem GQ.mv {S : Nat → Prop} {w' : World} (h : GQ en sz mk cnt G tg gv vals w) (f : Fr S w w') (hS : ∀ q, q < w.heap.size → S q → G q ≠ tg ∧ G q ≠ 4) (hG : ∀ q, q < w.heap.size → (G q = tg ∨ G q = 4) → G' q = G q) : GQ en sz mk cnt G' tg gv vals w' := by
  refine ⟨h.row.fr f (fun q hq e => (hS q (h.row.lt q hq) e).1 (h.rb q hq)), fun q hq => by rw [hG q (h.row.lt q hq) (.inl (h.rb q hq))]; exact h.rb q hq, fun j u hu => ?_⟩
  obtain ⟨g, o, c, e, h4, hr⟩ := h.el j u hu
  have hl := hr.lt g (by rw [e]; rfl)
  exact ⟨g, o, c, e, by rw [hG g hl (.inr h4)]; exact h4, hr.fr f (fun q hq e2 => (hS q (hr.lt q hq) e2).2 (by rw [e] at hq; cases hq; exact h4))⟩
theorem GQ.push (h : GQ en sz mk cnt G tg gv vals w) (htg : tg ≠ 4) {sl : Value} {g o c : Nat} (hsl : sl = .slice (some ⟨g, o, none⟩) cnt c) (h4 : G g = 4) (hro : Ro w sz sl cnt (flt en (List.replicate cnt (mk vals.length))))
    {w1 w2 : World} {gv' : Value} {n : Nat} (hb : Below w.heap.size w w1) (hr : Ro w2 1 gv' n (flt enV vals ++ enV sl)) (hn : n = vals.length + 1) (hg : w1.grownBy w2 gv.ownBlock) (hat : gv'.ownBlock = gv.ownBlock ∨ gv'.ownBlock = some w1.heap.size) :
    GQ en sz mk cnt (tl G w.heap.size tg) tg gv' (vals ++ [sl]) w2 ∧ Fr (fun q => gv.ownBlock = some q) w w2 := by
  subst hn
  have hbs := hb.size
  have f : Fr (fun q => gv.ownBlock = some q) w w2 := (Fr.of_below (S := fun q => gv.ownBlock = some q) hb).trans ((Fr.refl _ w1).grown hg (fun k e => .inr e))
  refine ⟨⟨by rw [List.length_append, flt_append, flt_one]; exact hr, fun q hq => ?_, fun j u hu => ?_⟩, f⟩
  · rcases hat with r | r
    · rw [r] at hq; rw [tl_lt _ _ (h.row.lt q hq)]; exact h.rb q hq
    · rw [r] at hq; cases hq; exact tl_ge _ _ hbs
  · have key : ∀ u g o c j, u = Value.slice (some ⟨g, o, none⟩) cnt c → G g = 4 → Ro w sz u cnt (flt en (List.replicate cnt (mk j))) → ∃ g o c, u = .slice (some ⟨g, o, none⟩) cnt c ∧ tl G w.heap.size tg g = 4 ∧ Ro w2 sz u cnt (flt en (List.replicate cnt (mk j))) := fun u g o c j e h4 hr => by
      have hl := hr.lt g (by rw [e]; rfl)
      refine ⟨g, o, c, e, by rw [tl_lt _ _ hl]; exact h4, hr.fr f (fun q hq e2 => ?_)⟩
      rw [e] at hq
      cases hq
      have := h.rb g e2
      omega
    rcases mem_push hu with ⟨q1, q2⟩ | ⟨q1, rfl⟩
    · obtain ⟨g, o, c, e, h4, hr⟩ := h.el j u q2
      exact key u g o c j e h4 hr
    · subst q1
      exact key _ g o c _ hsl h4 hro
theorem LO.grow {P : World → T → Prop} {bl : T → Nat → Prop} {B0 : Nat} {w' : World} (hP : Stays1 P bl) (h : LO en sz P bl w v xs) (a : AO bl B0 v xs) (hB : B0 ≤ w.heap.size) {S : Nat → Prop} (f : Fr S w w') (hS : ∀ q, q < w.heap.size → S q → v.ownBlock = some q ∨ B0 ≤ q) (hr : Ro w' sz v xs.length (flt en xs)) : LO en sz P bl w' v xs :=
  ⟨hr, fun i x hx => hP S w w' x (h.el i x hx) f (fun k hk e => by
    have h1 := a.eb i x k hx hk
    rcases hS k (by omega) e with q | q
    · exact h1.2 q
    · omega), h.ao.mono f.size⟩
/-- A thing's own blocks turn, and what is newer. -/
theorem LO.turn {P : World → T → Prop} {bl : T → Nat → Prop} {B0 : Nat} {w' : World} (hP : Stays1 P bl) (h : LO en sz P bl w v xs) (a : AO bl B0 v xs) (hv : ∀ q, v.ownBlock = some q → q < B0) (hB : B0 ≤ w.heap.size) {i : Nat} {x : T} (hx : xs[i]? = some x) {S : Nat → Prop} (f : Fr S w w') (hS : ∀ q, q < w.heap.size → S q → bl x q ∨ B0 ≤ q) (hp : P w' x) : LO en sz P bl w' v xs := by
  refine ⟨h.row.fr f (fun q hq e => ?_), fun j y hy => ?_, h.ao.mono f.size⟩
  · have h1 := hv q hq
    rcases hS q (by omega) e with r | r
    · exact (a.eb i x q hx r).2 hq
    · omega
  · by_cases q : j = i
    · subst q
      rw [hx] at hy
      cases hy
      exact hp
    · refine hP S w w' y (h.el j y hy) f (fun k hk e => ?_)
      have h1 := a.eb j y k hy hk
      rcases hS k (by omega) e with r | r
      · exact a.ap i j x y k (fun e2 => q e2.symm) hx hy r hk
      · omega
end
def mark (j : Nat) : Int := IntKind.i64.wrap (-1 - (j : Int))
def mkGB (M : Nat → Int) (j : Nat) : BkR := ⟨M j, .slice none 0 0, .slice none 0 0⟩
def mkGI (M : Nat → Int) (j : Nat) : InR := ⟨0, 0, 0, .slice none 0 0, 0, 0, M j, .slice none 0 0⟩
def mkGE (M : Nat → Int) (j : Nat) : ShR := ⟨M j, 0, .slice none 0 0⟩
/-- All that was gathered. -/
structure GA (M : Nat → Int) (G : Nat → Nat) (gB gI gE : Value) (vB vI vE : List Value) (w : World) : Prop where
  B : GQ enBk 3 (mkGB M) 16 G 1 gB vB w
  I : GQ enIn 8 (mkGI M) 16 G 2 gI vI w
  E : GQ enSh 3 (mkGE M) 4 G 3 gE vE w
section
variable {M : Nat → Int} {G G' : Nat → Nat} {gB gI gE : Value} {vB vI vE : List Value} {w w' : World}
theorem GA.mv {S : Nat → Prop} (h : GA M G gB gI gE vB vI vE w) (f : Fr S w w') (hS : ∀ q, q < w.heap.size → S q → G q = 0) (hG : ∀ q, q < w.heap.size → G q ≠ 0 → G' q = G q) : GA M G' gB gI gE vB vI vE w' :=
  ⟨h.B.mv f (fun q hq e => by have := hS q hq e; omega) (fun q hq e => hG q hq (by omega)), h.I.mv f (fun q hq e => by have := hS q hq e; omega) (fun q hq e => hG q hq (by omega)), h.E.mv f (fun q hq e => by have := hS q hq e; omega) (fun q hq e => hG q hq (by omega))⟩
end
/-- The tags behind a row that has grown and was gathered. -/
def tgg (G : Nat → Nat) (n0 g n1 tg : Nat) : Nat → Nat := tl (upd (tl G n0 0) g 4) n1 tg
theorem tgg_ne (G : Nat → Nat) {n0 g n1 tg q : Nat} (h : q < n0) (hq : q ≠ g) (h1 : n0 ≤ n1) : tgg G n0 g n1 tg q = G q := by unfold tgg; rw [tl_lt _ _ (by omega), upd_ne _ _ hq, tl_lt _ _ h]
section
variable {T : Type} {en : T → List Value} {sz : Nat} {M : Nat → Int} {G : Nat → Nat} {gB gI gE : Value} {vB vI vE : List Value} {Wg w w1 w2 : World} {v hv : Value} {xs : List T} {z : T} {m g o c n : Nat} {gv' : Value}
/-- Ahead of the gathering: what lies there stands while a row grows; its marks get the tag. -/
theorem GA.grown (h : GA M G gB gI gE vB vI vE Wg) (hr : GR en sz z Wg v xs m hv w) (e : hv = .slice (some ⟨g, o, none⟩) (xs.length + m) c) (hv0 : ∀ q, v.ownBlock = some q → G q = 0) : GA M (upd (tl G Wg.heap.size 0) g 4) gB gI gE vB vI vE w := by
  have hgo := hr.own (q := g) (by rw [e]; rfl)
  have hg0 : tl G Wg.heap.size 0 g = 0 := by
    by_cases q : g < Wg.heap.size
    · rw [tl_lt _ _ q]
      rcases hgo with r | r
      · exact hv0 g r
      · omega
    · exact tl_ge _ _ (by omega)
  refine h.mv hr.fr (fun q _ e2 => hv0 q e2) (fun q hq hq0 => ?_)
  have : q ≠ g := fun e2 => by subst e2; rw [tl_lt _ _ hq] at hg0; exact hq0 hg0
  rw [upd_ne _ _ this, tl_lt _ _ hq]
theorem GA.pushB (h : GA M G gB gI gE vB vI vE w) (h4 : G g = 4) (hro : Ro w 3 (.slice (some ⟨g, o, none⟩) 16 c) 16 (flt enBk (List.replicate 16 (mkGB M vB.length))))
    (hb : Below w.heap.size w w1) (hr : Ro w2 1 gv' n (flt enV vB ++ enV (.slice (some ⟨g, o, none⟩) 16 c))) (hn : n = vB.length + 1) (hg : w1.grownBy w2 gB.ownBlock) (hat : gv'.ownBlock = gB.ownBlock ∨ gv'.ownBlock = some w1.heap.size) :
    GA M (tl G w.heap.size 1) gv' gI gE (vB ++ [.slice (some ⟨g, o, none⟩) 16 c]) vI vE w2 ∧ Fr (fun q => gB.ownBlock = some q) w w2 := by
  obtain ⟨q1, q2⟩ := h.B.push (by omega) rfl h4 hro hb hr hn hg hat
  exact ⟨⟨q1, h.I.mv q2 (fun q _ e => by have := h.B.rb q e; omega) (fun q hq _ => tl_lt _ _ hq), h.E.mv q2 (fun q _ e => by have := h.B.rb q e; omega) (fun q hq _ => tl_lt _ _ hq)⟩, q2⟩
theorem GA.pushI (h : GA M G gB gI gE vB vI vE w) (h4 : G g = 4) (hro : Ro w 8 (.slice (some ⟨g, o, none⟩) 16 c) 16 (flt enIn (List.replicate 16 (mkGI M vI.length))))
    (hb : Below w.heap.size w w1) (hr : Ro w2 1 gv' n (flt enV vI ++ enV (.slice (some ⟨g, o, none⟩) 16 c))) (hn : n = vI.length + 1) (hg : w1.grownBy w2 gI.ownBlock) (hat : gv'.ownBlock = gI.ownBlock ∨ gv'.ownBlock = some w1.heap.size) :
    GA M (tl G w.heap.size 2) gB gv' gE vB (vI ++ [.slice (some ⟨g, o, none⟩) 16 c]) vE w2 ∧ Fr (fun q => gI.ownBlock = some q) w w2 := by
  obtain ⟨q1, q2⟩ := h.I.push (by omega) rfl h4 hro hb hr hn hg hat
  exact ⟨⟨h.B.mv q2 (fun q _ e => by have := h.I.rb q e; omega) (fun q hq _ => tl_lt _ _ hq), q1, h.E.mv q2 (fun q _ e => by have := h.I.rb q e; omega) (fun q hq _ => tl_lt _ _ hq)⟩, q2⟩
theorem GA.pushE (h : GA M G gB gI gE vB vI vE w) (h4 : G g = 4) (hro : Ro w 3 (.slice (some ⟨g, o, none⟩) 4 c) 4 (flt enSh (List.replicate 4 (mkGE M vE.length))))
    (hb : Below w.heap.size w w1) (hr : Ro w2 1 gv' n (flt enV vE ++ enV (.slice (some ⟨g, o, none⟩) 4 c))) (hn : n = vE.length + 1) (hg : w1.grownBy w2 gE.ownBlock) (hat : gv'.ownBlock = gE.ownBlock ∨ gv'.ownBlock = some w1.heap.size) :
    GA M (tl G w.heap.size 3) gB gI gv' vB vI (vE ++ [.slice (some ⟨g, o, none⟩) 4 c]) w2 ∧ Fr (fun q => gE.ownBlock = some q) w w2 := by
  obtain ⟨q1, q2⟩ := h.E.push (by omega) rfl h4 hro hb hr hn hg hat
  exact ⟨⟨h.B.mv q2 (fun q _ e => by have := h.E.rb q e; omega) (fun q hq _ => tl_lt _ _ hq), h.I.mv q2 (fun q _ e => by have := h.E.rb q e; omega) (fun q hq _ => tl_lt _ _ hq), q1⟩, q2⟩
end
/-- append of one onto a row that grows, in the walk. -/
theorem wpList_appG {T : Type} {en : T → List Value} {sz bytes : Nat} {te t : TypeId} {w : World} {ops : Array Oper} {rest : List Oper} {o : Oper} {a : Act} {Q : Exit → Act → World → Prop} {zv : Value}
    (hund : Tryd.prog.underlying t = some (.slice te)) (hinf : (Tryd.prog.info? te).map (fun i => (i.zero, i.size, i.bytes)) = some (some zv, sz, bytes)) (hzs : zv.cells.size = sz) (hsz : 0 < sz) (hby : bytes ≤ 96) (hz : ∀ x, (en x).length = sz)
    (hg : o.guard = none) (s x : Operand) (hop : o.op = Op.call { callee := Callee.builtin Builtin.append, args := #[s, x], argTypes := #[t, t] })
    (v : Value) (n : Nat) (xs : List Value) (hs : a.eval s = v) (hr : Ro w sz v n xs) (ad : Addr) (c : Nat) (p : T) (hx : a.eval x = .slice (some ad) 1 c) (hc : ∀ j u, (en p)[j]? = some u → w.cell? (ad.add j) = some u) (h1 : ∀ u ∈ en p, u.oneCell' = true)
    (hN : n ≤ 1099511627776)
    (hK : ∀ v' w', Ro w' sz v' (n + 1) (xs ++ en p) → w.grownBy w' v.ownBlock → ((∃ g off cap, v = .slice (some ⟨g, off, none⟩) n cap ∧ v' = .slice (some ⟨g, off, none⟩) (n + 1) cap) ∨ v'.ownBlock = some w.heap.size) → Ro w' sz v n xs → wpList Tryd.prog ops Q rest (a.put o.dst v') w') :
    wpList Tryd.prog ops Q (o :: rest) a w := by
  obtain ⟨i0, hi0, hz0, hz1, hz2⟩ := info_parts hinf
  refine wpList_appO0 hg s x t hop te i0 _ sz bytes hund hi0 hz0 hz1 hz2 hzs hsz v n xs hs hr ad 1 c (en p) hx (by rw [hz]; omega) hc h1 (by omega) (by unfold maxLen; omega) ?_ hK
  have : (n + 1) * bytes ≤ (1099511627776 + 1) * 96 := Nat.mul_le_mul (by omega) hby
  omega
theorem infR84 : (Tryd.prog.info? 22).map (fun i => (i.zero, i.size, i.bytes)) = some (some (.slice none 0 0), 1, 24) := by kernel_rfl
/-- How many there are. -/
theorem fl_push {A C : Type} (f : A → List C) {l : List A} {i : Nat} {x : A} (h : l[i]? = some x) : ((l.take (i + 1)).flatMap f).length = ((l.take i).flatMap f).length + (f x).length := by
  rw [take_push h]; simp
theorem fl_le {A C : Type} (f : A → List C) (l : List A) (i : Nat) : ((l.take i).flatMap f).length ≤ (l.flatMap f).length := by
  have h : l.flatMap f = (l.take i).flatMap f ++ (l.drop i).flatMap f := by rw [← List.flatMap_append, List.take_append_drop]
  rw [h, List.length_append]
  omega

set_option linter.unusedVariables false
set_option linter.unusedSimpArgs false
theorem flt_TB (X : List TB) : flt enTB X = flt enBk (X.map Prod.fst) := by
  induction X with
  | nil => rfl
  | cons p r ih => simp only [flt, List.flatMap_cons, List.map_cons] at ih ⊢; rw [ih]; rfl
def T04 (B0 : Nat) (G : Nat → Nat) : Prop := ∀ q, q < B0 → G q = 0 ∨ G q = 4
structure CS (M : Nat → Int) (w : World) (v : Value) (cs : List TC) (k : Nat) (gB gI gE : Value) (vB vI vE : List Value) (G : Nat → Nat) (wr : World) : Prop where
  lo : LOC wr v cs
  fr : Fr (fun q => ∃ c ∈ cs, blG c q) w wr
  z : ∀ (j : Nat) (c : TC) (q : Nat), k ≤ j → cs[j]? = some c → blG c q → G q = 0
  t4 : T04 w.heap.size G
  ga : GA M G gB gI gE vB vI vE wr
  nb : vB.length = k
  ni : vI.length = ((cs.take k).flatMap Prod.snd).length
  ne : vE.length = (((cs.take k).flatMap Prod.snd).flatMap Prod.snd).length
structure BSg (M : Nat → Int) (B0 : Nat) (Wk : World) (Gk : Nat → Nat) (c : TC) (b ni0 ne0 : Nat) (gB gI gE : Value) (vB vI vE : List Value) (G : Nat → Nat) (wr : World) : Prop where
  lo : LO enTB 3 BEo blF wr c.1.v c.2
  fr : Fr (fun q => blG c q ∨ B0 ≤ q) Wk wr
  tg : ∀ q, q < B0 → ¬ blG c q → G q = Gk q
  z : ∀ (j : Nat) (x : TB) (q : Nat), b ≤ j → c.2[j]? = some x → blF x q → G q = 0
  t4 : T04 B0 G
  ga : GA M G gB gI gE vB vI vE wr
  ni : vI.length = ni0 + b
  ne : vE.length = ne0 + ((c.2.take b).flatMap Prod.snd).length
structure IS (M : Nat → Int) (B0 : Nat) (Wb : World) (Gb : Nat → Nat) (x : TB) (i ne1 : Nat) (gB gI gE : Value) (vB vI vE : List Value) (G : Nat → Nat) (wr : World) : Prop where
  lo : LO enT 8 IEo blE wr x.1.iv x.2
  fr : Fr (fun q => blF x q ∨ B0 ≤ q) Wb wr
  tg : ∀ q, q < B0 → ¬ blF x q → G q = Gb q
  z : ∀ (j : Nat) (t : TI) (q : Nat), i ≤ j → x.2[j]? = some t → blE t q → G q = 0
  t4 : T04 B0 G
  ga : GA M G gB gI gE vB vI vE wr
  ne : vE.length = ne1 + i
section
variable {M : Nat → Int} {G Gk Gb : Nat → Nat} {gB gI gE gv' hv v : Value} {vB vI vE : List Value} {w Wk Wb w1 w1a w2 wr : World} {cs : List TC} {c : TC} {x : TB} {t : TI} {k b i ni0 ne0 ne1 B0 g o cc n : Nat}
theorem tgg_4 (h : T04 B0 G) {n0 n1 tg : Nat} (hB : B0 ≤ n0) (h1 : n0 ≤ n1) : T04 B0 (tgg G n0 g n1 tg) := fun q hq => by
  by_cases e : q = g
  · subst e
    right
    unfold tgg
    rw [tl_lt _ _ (by omega), upd_self]
  · rw [tgg_ne G (by omega) e h1]; exact h q hq
theorem upd_4 (h : T04 B0 G) {n0 : Nat} (hB : B0 ≤ n0) : T04 B0 (upd (tl G n0 0) g 4) := fun q hq => by
  by_cases e : q = g
  · subst e; right; exact upd_self _ _ _
  · rw [upd_ne _ _ e, tl_lt _ _ (by omega)]; exact h q hq
theorem CS.start (h : LOC w v cs) : CS M w v cs 0 (.slice none 0 0) (.slice none 0 0) (.slice none 0 0) [] [] [] (fun _ => 0) w :=
  ⟨h, Fr.refl _ _, fun _ _ _ _ _ _ => rfl, fun _ _ => .inl rfl, ⟨GQ.nil _ _, GQ.nil _ _, GQ.nil _ _⟩, rfl, rfl, rfl⟩
/-- The list of blocks was grown and gathered. -/
theorem BSg.start (h : CS M w v cs k gB gI gE vB vI vE G Wk) (hc : cs[k]? = some c) (aC : AO blG w.heap.size v cs) (aB : AO blF w.heap.size c.1.v c.2) (gr : GR enBk 3 (mkGB M k) Wk c.1.v (c.2.map Prod.fst) 16 hv w1) (e : hv = .slice (some ⟨g, o, none⟩) ((c.2.map Prod.fst).length + 16) cc)
    (hb : Below w1.heap.size w1 w1a) (hr : Ro w2 1 gv' n (flt enV vB ++ enV (.slice (some ⟨g, o + (c.2.map Prod.fst).length * 3, none⟩) 16 (cc - (c.2.map Prod.fst).length)))) (hn : n = k + 1) (hg : w1a.grownBy w2 gB.ownBlock) (hat : gv'.ownBlock = gB.ownBlock ∨ gv'.ownBlock = some w1a.heap.size) :
    ∃ vB', vB'.length = k + 1 ∧ BSg M w.heap.size Wk G c 0 vI.length vE.length gv' gI gE vB' vI vE (tgg G Wk.heap.size g w1.heap.size 1) w2 := by
  have hB0 := h.fr.size
  have h01 := gr.fr.size
  have vb : ∀ q, c.1.v.ownBlock = some q → q < w.heap.size ∧ G q = 0 := fun q hq => ⟨(aC.eb k c q hc (.inl hq)).1, h.z k c q (Nat.le_refl _) hc (.inl hq)⟩
  have hgo : c.1.v.ownBlock = some g ∨ Wk.heap.size ≤ g := gr.own (by rw [e]; rfl)
  have ga1 := h.ga.grown gr e (fun q hq => (vb q hq).2)
  have h41 : upd (tl G Wk.heap.size 0) g 4 g = 4 := upd_self _ _ _
  obtain ⟨ga2, f2⟩ := ga1.pushB h41 (by rw [h.nb]; exact gr.past zBk e) hb hr (by rw [h.nb]; exact hn) hg hat
  have t1 := upd_4 (g := g) h.t4 hB0
  have gB0 : ∀ q, gB.ownBlock = some q → w.heap.size ≤ q := fun q hq => by
    have h1 := ga1.B.rb q hq
    by_cases hl : q < w.heap.size
    · rcases t1 q hl with r | r <;> omega
    · omega
  have hf : Fr (fun q => blG c q ∨ w.heap.size ≤ q) Wk w2 := (gr.fr.mono (fun q _ e => .inl (.inl e))).trans (f2.mono (fun q _ e => .inr (gB0 q e)))
  have hne : ∀ q, q < w.heap.size → ¬ c.1.v.ownBlock = some q → tgg G Wk.heap.size g w1.heap.size 1 q = G q := fun q hq hn => tgg_ne G (by omega) (fun e2 => by subst e2; rcases hgo with r | r; exact hn r; omega) h01
  have hCE : CEo Wk c := h.lo.el k c hc
  have hvr := gr.vr
  rw [← flt_TB, List.length_map] at hvr
  refine ⟨_, by rw [List.length_append, h.nb]; rfl, ⟨LO.grow stayBE hCE aB hB0 ((gr.fr.mono (T := fun q => c.1.v.ownBlock = some q ∨ w.heap.size ≤ q) (fun q _ e => .inl e)).comp f2 (fun q _ e => .inr (gB0 q e))) (fun q _ e => e) (hvr.fr f2 (fun q hq e2 => by have := gB0 q e2; have := (vb q hq).1; omega)), hf, fun q hq hn => hne q hq (fun e2 => hn (.inl e2)), fun j y q _ hy hq => ?_, tgg_4 h.t4 hB0 h01, ga2, rfl, by simp⟩⟩
  have h1 := aB.eb j y q hy hq
  rw [hne q h1.1 h1.2]
  exact h.z k c q (Nat.le_refl _) hc (.inr ⟨y, List.mem_of_getElem? hy, hq⟩)
/-- The list of instructions was grown and gathered. -/
theorem IS.start (h : BSg M B0 Wk Gk c b ni0 ne0 gB gI gE vB vI vE G Wb) (hWb : B0 ≤ Wb.heap.size) (hx : c.2[b]? = some x) (aB : AO blF B0 c.1.v c.2) (aI : AO blE B0 x.1.iv x.2) (gr : GR enIn 8 (mkGI M vI.length) Wb x.1.iv (x.2.map Prod.fst) 16 hv w1) (e : hv = .slice (some ⟨g, o, none⟩) ((x.2.map Prod.fst).length + 16) cc)
    (hb : Below w1.heap.size w1 w1a) (hr : Ro w2 1 gv' n (flt enV vI ++ enV (.slice (some ⟨g, o + (x.2.map Prod.fst).length * 8, none⟩) 16 (cc - (x.2.map Prod.fst).length)))) (hn : n = vI.length + 1) (hg : w1a.grownBy w2 gI.ownBlock) (hat : gv'.ownBlock = gI.ownBlock ∨ gv'.ownBlock = some w1a.heap.size) :
    ∃ vI', vI'.length = vI.length + 1 ∧ IS M B0 Wb G x 0 vE.length gB gv' gE vB vI' vE (tgg G Wb.heap.size g w1.heap.size 2) w2 := by
  have h01 := gr.fr.size
  have vb : ∀ q, x.1.iv.ownBlock = some q → q < B0 ∧ G q = 0 := fun q hq => ⟨(aB.eb b x q hx (.inl hq)).1, h.z b x q (Nat.le_refl _) hx (.inl hq)⟩
  have hgo : x.1.iv.ownBlock = some g ∨ Wb.heap.size ≤ g := gr.own (by rw [e]; rfl)
  have ga1 := h.ga.grown gr e (fun q hq => (vb q hq).2)
  obtain ⟨ga2, f2⟩ := ga1.pushI (upd_self _ _ _) (gr.past zIn e) hb hr hn hg hat
  have t1 := upd_4 (g := g) h.t4 hWb
  have gB0 : ∀ q, gI.ownBlock = some q → B0 ≤ q := fun q hq => by
    have h1 := ga1.I.rb q hq
    by_cases hl : q < B0
    · rcases t1 q hl with r | r <;> omega
    · omega
  have hf : Fr (fun q => blF x q ∨ B0 ≤ q) Wb w2 := (gr.fr.mono (fun q _ e => .inl (.inl e))).trans (f2.mono (fun q _ e => .inr (gB0 q e)))
  have hne : ∀ q, q < B0 → ¬ x.1.iv.ownBlock = some q → tgg G Wb.heap.size g w1.heap.size 2 q = G q := fun q hq hn => tgg_ne G (by omega) (fun e2 => by subst e2; rcases hgo with r | r; exact hn r; omega) h01
  have hBE : BEo Wb x := h.lo.el b x hx
  have hvr := gr.vr
  rw [← flt_T, List.length_map] at hvr
  refine ⟨_, by rw [List.length_append]; rfl, ⟨LO.grow stayIE hBE aI hWb ((gr.fr.mono (T := fun q => x.1.iv.ownBlock = some q ∨ B0 ≤ q) (fun q _ e => .inl e)).comp f2 (fun q _ e => .inr (gB0 q e))) (fun q _ e => e) (hvr.fr f2 (fun q hq e2 => by have := gB0 q e2; have := (vb q hq).1; omega)), hf, fun q hq hn => hne q hq (fun e2 => hn (.inl e2)), fun j y q _ hy hq => ?_, tgg_4 h.t4 hWb h01, ga2, rfl⟩⟩
  have h1 := aI.eb j y q hy hq
  rw [hne q h1.1 h1.2]
  exact h.z b x q (Nat.le_refl _) hx (.inr ⟨y, List.mem_of_getElem? hy, hq⟩)
/-- A list of shapes was grown and gathered. -/
theorem IS.step (h : IS M B0 Wb Gb x i ne1 gB gI gE vB vI vE G wr) (hWb : B0 ≤ wr.heap.size) (ht : x.2[i]? = some t) (aI : AO blE B0 x.1.iv x.2) (hiv : ∀ q, x.1.iv.ownBlock = some q → q < B0) (gr : GR enSh 3 (mkGE M vE.length) wr t.1.ev t.2 4 hv w1) (e : hv = .slice (some ⟨g, o, none⟩) (t.2.length + 4) cc)
    (hb : Below w1.heap.size w1 w1a) (hr : Ro w2 1 gv' n (flt enV vE ++ enV (.slice (some ⟨g, o + t.2.length * 3, none⟩) 4 (cc - t.2.length)))) (hn : n = vE.length + 1) (hg : w1a.grownBy w2 gE.ownBlock) (hat : gv'.ownBlock = gE.ownBlock ∨ gv'.ownBlock = some w1a.heap.size) :
    ∃ vE', IS M B0 Wb Gb x (i + 1) ne1 gB gI gv' vB vI vE' (tgg G wr.heap.size g w1.heap.size 3) w2 := by
  have h01 := gr.fr.size
  have vb : ∀ q, t.1.ev.ownBlock = some q → q < B0 ∧ G q = 0 := fun q hq => ⟨(aI.eb i t q ht hq).1, h.z i t q (Nat.le_refl _) ht hq⟩
  have hgo : t.1.ev.ownBlock = some g ∨ wr.heap.size ≤ g := gr.own (by rw [e]; rfl)
  have ga1 := h.ga.grown gr e (fun q hq => (vb q hq).2)
  obtain ⟨ga2, f2⟩ := ga1.pushE (upd_self _ _ _) (gr.past zSh e) hb hr hn hg hat
  have t1 := upd_4 (g := g) h.t4 hWb
  have gB0 : ∀ q, gE.ownBlock = some q → B0 ≤ q := fun q hq => by
    have h1 := ga1.E.rb q hq
    by_cases hl : q < B0
    · rcases t1 q hl with r | r <;> omega
    · omega
  have hf : Fr (fun q => blE t q ∨ B0 ≤ q) wr w2 := (gr.fr.mono (fun q _ e => .inl e)).trans (f2.mono (fun q _ e => .inr (gB0 q e)))
  have hne : ∀ q, q < B0 → ¬ t.1.ev.ownBlock = some q → tgg G wr.heap.size g w1.heap.size 3 q = G q := fun q hq hn => tgg_ne G (by omega) (fun e2 => by subst e2; rcases hgo with r | r; exact hn r; omega) h01
  have hIE : IEo wr t := h.lo.el i t ht
  have hIE2 : IEo w2 t := ⟨gr.vr.fr f2 (fun q hq e2 => by have := gB0 q e2; have := (vb q hq).1; omega), fun j r hj => hIE.el j r hj, ⟨fun _ _ _ _ h => h.elim, fun _ _ _ _ _ _ _ _ h => h.elim⟩⟩
  refine ⟨_, ⟨LO.turn stayIE h.lo aI hiv hWb ht hf (fun q _ e => e) hIE2, h.fr.trans (hf.mono (fun q _ e => e.elim (fun e => .inl (.inr ⟨t, List.mem_of_getElem? ht, e⟩)) .inr)), fun q hq hn => ?_, fun j y q hj hy hq => ?_, tgg_4 h.t4 hWb h01, ga2, ?_⟩⟩
  · rw [hne q hq (fun e2 => hn (.inr ⟨t, List.mem_of_getElem? ht, e2⟩))]; exact h.tg q hq hn
  · have h1 := aI.eb j y q hy hq
    rw [hne q h1.1 (fun e2 => aI.ap j i y t q (by omega) hy ht hq e2)]
    exact h.z j y q (by omega) hy hq
  · rw [List.length_append, h.ne]; rfl
/-- A block is done. -/
theorem BSg.next {gI2 gE2 : Value} {vI2 vE2 : List Value} (h : BSg M B0 Wk Gk c b ni0 ne0 gB gI gE vB vI vE Gb Wb) (hWb : B0 ≤ Wb.heap.size) (hx : c.2[b]? = some x) (aB : AO blF B0 c.1.v c.2) (hbv : ∀ q, c.1.v.ownBlock = some q → q < B0) (hi : IS M B0 Wb Gb x x.2.length vE.length gB gI2 gE2 vB vI2 vE2 G wr) (hnI : vI2.length = vI.length + 1) :
    BSg M B0 Wk Gk c (b + 1) ni0 ne0 gB gI2 gE2 vB vI2 vE2 G wr := by
  refine ⟨LO.turn stayBE h.lo aB hbv hWb hx hi.fr (fun q _ e => e) hi.lo, h.fr.trans (hi.fr.mono (fun q _ e => e.elim (fun e => .inl (.inr ⟨x, List.mem_of_getElem? hx, e⟩)) .inr)), fun q hq hn => ?_, fun j y q hj hy hq => ?_, hi.t4, hi.ga, by rw [hnI, h.ni]; omega, ?_⟩
  · rw [hi.tg q hq (fun e2 => hn (.inr ⟨x, List.mem_of_getElem? hx, e2⟩))]; exact h.tg q hq hn
  · have h1 := aB.eb j y q hy hq
    rw [hi.tg q h1.1 (fun e2 => aB.ap j b y x q (by omega) hy hx hq e2)]
    exact h.z j y q (by omega) hy hq
  · rw [hi.ne, h.ne, fl_push Prod.snd hx]; omega
/-- A code is done. -/
theorem CS.next {gB2 gI2 gE2 : Value} {vB2 vI2 vE2 : List Value} (h : CS M w v cs k gB gI gE vB vI vE Gk Wk) (hc : cs[k]? = some c) (aC : AO blG w.heap.size v cs) (hv0 : ∀ q, v.ownBlock = some q → q < w.heap.size) (hb : BSg M w.heap.size Wk Gk c c.2.length vI.length vE.length gB2 gI2 gE2 vB2 vI2 vE2 G wr) (hnB : vB2.length = k + 1) :
    CS M w v cs (k + 1) gB2 gI2 gE2 vB2 vI2 vE2 G wr := by
  have hB0 := h.fr.size
  refine ⟨LO.turn stayCE h.lo aC hv0 hB0 hc hb.fr (fun q _ e => e) hb.lo, h.fr.trans2 hb.fr (fun q hq e => e.elim (fun e => ⟨c, List.mem_of_getElem? hc, e⟩) (fun e => by omega)), fun j y q hj hy hq => ?_, hb.t4, hb.ga, hnB, ?_, ?_⟩
  · have h1 := aC.eb j y q hy hq
    rw [hb.tg q h1.1 (fun e2 => aC.ap j k y c q (by omega) hy hc hq e2)]
    exact h.z j y q (by omega) hy hq
  · rw [hb.ni, h.ni, fl_push Prod.snd hc]
  · rw [hb.ne, h.ne, take_push hc]
    simp
end
theorem slB (g o N c : Nat) (h : N + 16 ≤ c) (W : World) : (Instr.sliceAt 22 (.slice (some ⟨g, o, none⟩) (N + 16) c) (some (.int .i64 (N : Int))) none none).run Tryd.prog W = .ok (.slice (some ⟨g, o + N * 3, none⟩) 16 (c - N)) W := by
  have h0 : (0 : Int) ≤ (N : Int) := by omega
  have h1 : (N : Int) ≤ ((N + 16 : Nat) : Int) := by omega
  have h2 : ¬ c = N := by omega
  have h3 : N + 16 - N = 16 := by omega
  go_simp
  intro hh
  omega
theorem slI (g o N c : Nat) (h : N + 16 ≤ c) (W : World) : (Instr.sliceAt 45 (.slice (some ⟨g, o, none⟩) (N + 16) c) (some (.int .i64 (N : Int))) none none).run Tryd.prog W = .ok (.slice (some ⟨g, o + N * 8, none⟩) 16 (c - N)) W := by
  have h0 : (0 : Int) ≤ (N : Int) := by omega
  have h1 : (N : Int) ≤ ((N + 16 : Nat) : Int) := by omega
  have h2 : ¬ c = N := by omega
  have h3 : N + 16 - N = 16 := by omega
  go_simp
  intro hh
  omega
theorem slE (g o N c : Nat) (h : N + 4 ≤ c) (W : World) : (Instr.sliceAt 49 (.slice (some ⟨g, o, none⟩) (N + 4) c) (some (.int .i64 (N : Int))) none none).run Tryd.prog W = .ok (.slice (some ⟨g, o + N * 3, none⟩) 4 (c - N)) W := by
  have h0 : (0 : Int) ≤ (N : Int) := by omega
  have h1 : (N : Int) ≤ ((N + 4 : Nat) : Int) := by omega
  have h2 : ¬ c = N := by omega
  have h3 : N + 4 - N = 4 := by omega
  go_simp
  intro hh
  omega
end Go.Proofs.YtpbdmbmafjkinaaDoor
