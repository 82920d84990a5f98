/-
  An instruction is put into a code of one's own.
-/
import Derived.Test.YtpbdmbmafjkinaaDoorLo
import Derived.Test.YtpbdmbmafjkinaaDoorApO
import Derived.Test.YtpbdmbmafjkinaaDoorApI
import Derived.Test.YtpbdmbmafjkinaaDoorRgC
import Derived.Test.YtpbdmbmafjkinaaDoorSm3
import Derived.Test.YtpbdmbmafjkinaaDoorRf
namespace Go.Proofs.YtpbdmbmafjkinaaDoor
open Go.RowKit
set_option linter.unusedVariables false
set_option linter.unusedSimpArgs false
section
variable {T : Type} {en : T → List Value} {sz : Nat}
theorem rep_take (z : T) (xs : List T) (m : Nat) : (xs ++ List.replicate m z).take xs.length = xs := by simp
theorem rep_succ (z : T) (xs : List T) (m : Nat) : xs ++ List.replicate (m + 1) z = xs ++ List.replicate m z ++ [z] := by rw [List.append_assoc, ← List.replicate_succ']
/-- A row that grows: m marks lie behind it. -/
structure GR (en : T → List Value) (sz : Nat) (z : T) (Wg : World) (v : Value) (xs : List T) (m : Nat) (hv : Value) (w : World) : Prop where
  hr : Ro w sz hv (xs.length + m) (flt en (xs ++ List.replicate m z))
  vr : Ro w sz v xs.length (flt en xs)
  fr : Fr (fun q => v.ownBlock = some q) Wg w
  rel : Rl Wg v xs.length m hv
variable {Wg w : World} {v hv : Value} {xs : List T} {m : Nat} {z : T}
theorem GR.start (h : Ro Wg sz v xs.length (flt en xs)) : GR en sz z Wg v xs 0 v Wg := ⟨by simpa using h, h, Fr.refl _ _, .inl ⟨rfl, rfl⟩⟩
theorem GR.step (hz : ∀ x, (en x).length = sz) {w' : World} {v' : Value} {X : Obj} (h : GR en sz z Wg v xs m hv w) (hvl : ∀ q, v.ownBlock = some q → q < Wg.heap.size)
    (hr : Ro w' sz v' (xs.length + m + 1) (flt en (xs ++ List.replicate m z) ++ en z)) (hg : (w.alloc X).grownBy w' hv.ownBlock)
    (hat : (∃ g off cap, hv = .slice (some ⟨g, off, none⟩) (xs.length + m) cap ∧ v' = .slice (some ⟨g, off, none⟩) (xs.length + m + 1) cap) ∨ v'.ownBlock = some (w.alloc X).heap.size) (hold : Ro w' sz hv (xs.length + m) (flt en (xs ++ List.replicate m z))) : GR en sz z Wg v xs (m + 1) v' w' := by
  have f : Fr (fun b => hv.ownBlock = some b) w w' := ((Fr.refl _ w).alloc X).grown hg (fun b e => .inr e)
  have hsz := h.fr.size
  have hX : (w.alloc X).heap.size = w.heap.size + 1 := by simp
  refine ⟨by rw [rep_succ, flt_append, flt_one]; exact hr, ?_, h.fr.trans2 f (fun b hb e => ?_), ?_⟩
  · rcases h.rel with ⟨e0, e1⟩ | ⟨g, off, cap, e1, e2⟩ | ⟨b, e1, hb⟩
    · subst e0
      rw [← e1]
      simpa using hold
    · rw [e2] at hold
      have := hold.upto rfl (k := xs.length) (by omega)
      rw [flt_take hz, rep_take] at this
      rw [e1]
      exact this
    · exact Ro.fr h.vr f (fun b' hb' e => by
        rw [e1] at e
        cases e
        have := hvl _ hb'
        omega)
  · rcases h.rel.own e with r | r
    · exact r
    · omega
  · rcases hat with ⟨g, off, cap, e1, e2⟩ | e2
    · rcases h.rel with ⟨e0, e3⟩ | ⟨g', off', cap', e3, e4⟩ | ⟨b, e3, hb⟩
      · right; left
        subst e0
        exact ⟨g, off, cap, by rw [← e3, e1]; rfl, e2⟩
      · right; left
        rw [e4] at e1
        cases e1
        exact ⟨_, _, _, e3, e2⟩
      · right; right
        rw [e1] at e3
        exact ⟨b, by rw [e2]; exact e3, hb⟩
    · right; right
      exact ⟨_, e2, by omega⟩
/-- The marks alone. -/
theorem GR.past (hz : ∀ x, (en x).length = sz) (h : GR en sz z Wg v xs m hv w) {g o c : Nat} (e : hv = .slice (some ⟨g, o, none⟩) (xs.length + m) c) : Ro w sz (.slice (some ⟨g, o + xs.length * sz, none⟩) m (c - xs.length)) m (flt en (List.replicate m z)) := by
  have q := h.hr
  have := q.past e (k := xs.length) (by omega)
  rw [flt_drop hz, List.drop_left, Nat.add_sub_cancel_left] at this
  exact this
theorem GR.own (h : GR en sz z Wg v xs m hv w) {q : Nat} (e : hv.ownBlock = some q) : v.ownBlock = some q ∨ Wg.heap.size ≤ q := h.rel.own e
/-- What was gathered of a kind: slices of marks, each in a block of tag 4. -/
structure GQ (en : T → List Value) (sz : Nat) (mk : Nat → T) (cnt : Nat) (G : Nat → Nat) (tg : Nat) (gv : Value) (vals : List Value) (w : World) : Prop where
  row : Ro w 1 gv vals.length (flt enV vals)
  rb : ∀ q, gv.ownBlock = some q → G q = tg
  el : ∀ (j : Nat) (u : Value), vals[j]? = some u → ∃ g o c, u = .slice (some ⟨g, o, none⟩) cnt c ∧ G g = 4 ∧ Ro w sz u cnt (flt en (List.replicate cnt (mk j)))
variable {mk : Nat → T} {cnt tg : Nat} {G G' : Nat → Nat} {gv : Value} {vals : List Value}
theorem GQ.nil (w : World) (G : Nat → Nat) : GQ en sz mk cnt G tg (.slice none 0 0) [] w := ⟨by simpa [flt] using Ro.nil w 1, (fun q e => by cases e), (fun j u h => by simp at h)⟩
theorem GQ.mv {S : Nat → Prop} {w' : World} (h : GQ en sz mk cnt G tg gv vals w) (f : Fr S w w') (hS : ∀ q, q < w.heap.size → S q → G q ≠ tg ∧ G q ≠ 4) (hG : ∀ q, q < w.heap.size → (G q = tg ∨ G q = 4) → G' q = G q) : GQ en sz mk cnt G' tg gv vals w' := by
  refine ⟨h.row.fr f (fun q hq e => (hS q (h.row.lt q hq) e).1 (h.rb q hq)), fun q hq => by rw [hG q (h.row.lt q hq) (.inl (h.rb q hq))]; exact h.rb q hq, fun j u hu => ?_⟩
  obtain ⟨g, o, c, e, h4, hr⟩ := h.el j u hu
  have hl := hr.lt g (by rw [e]; rfl)
  exact ⟨g, o, c, e, by rw [hG g hl (.inr h4)]; exact h4, hr.fr f (fun q hq e2 => (hS q (hr.lt q hq) e2).2 (by rw [e] at hq; cases hq; exact h4))⟩
theorem GQ.push (h : GQ en sz mk cnt G tg gv vals w) (htg : tg ≠ 4) {sl : Value} {g o c : Nat} (hsl : sl = .slice (some ⟨g, o, none⟩) cnt c) (h4 : G g = 4) (hro : Ro w sz sl cnt (flt en (List.replicate cnt (mk vals.length))))
    {w1 w2 : World} {gv' : Value} {n : Nat} (hb : Below w.heap.size w w1) (hr : Ro w2 1 gv' n (flt enV vals ++ enV sl)) (hn : n = vals.length + 1) (hg : w1.grownBy w2 gv.ownBlock) (hat : gv'.ownBlock = gv.ownBlock ∨ gv'.ownBlock = some w1.heap.size) :
    GQ en sz mk cnt (tl G w.heap.size tg) tg gv' (vals ++ [sl]) w2 ∧ Fr (fun q => gv.ownBlock = some q) w w2 := by
  subst hn
  have hbs := hb.size
  have f : Fr (fun q => gv.ownBlock = some q) w w2 := (Fr.of_below (S := fun q => gv.ownBlock = some q) hb).trans ((Fr.refl _ w1).grown hg (fun k e => .inr e))
  refine ⟨⟨by rw [List.length_append, flt_append, flt_one]; exact hr, fun q hq => ?_, fun j u hu => ?_⟩, f⟩
  · rcases hat with r | r
    · rw [r] at hq; rw [tl_lt _ _ (h.row.lt q hq)]; exact h.rb q hq
    · rw [r] at hq; cases hq; exact tl_ge _ _ hbs
  · have key : ∀ u g o c j, u = Value.slice (some ⟨g, o, none⟩) cnt c → G g = 4 → Ro w sz u cnt (flt en (List.replicate cnt (mk j))) → ∃ g o c, u = .slice (some ⟨g, o, none⟩) cnt c ∧ tl G w.heap.size tg g = 4 ∧ Ro w2 sz u cnt (flt en (List.replicate cnt (mk j))) := fun u g o c j e h4 hr => by
      have hl := hr.lt g (by rw [e]; rfl)
      refine ⟨g, o, c, e, by rw [tl_lt _ _ hl]; exact h4, hr.fr f (fun q hq e2 => ?_)⟩
      rw [e] at hq
      cases hq
      have := h.rb g e2
      omega
    rcases mem_push hu with ⟨q1, q2⟩ | ⟨q1, rfl⟩
    · obtain ⟨g, o, c, e, h4, hr⟩ := h.el j u q2
      exact key u g o c j e h4 hr
    · subst q1
      exact key _ g o c _ hsl h4 hro
theorem LO.grow {P : World → T → Prop} {bl : T → Nat → Prop} {B0 : Nat} {w' : World} (hP : Stays1 P bl) (h : LO en sz P bl w v xs) (a : AO bl B0 v xs) (hB : B0 ≤ w.heap.size) {S : Nat → Prop} (f : Fr S w w') (hS : ∀ q, q < w.heap.size → S q → v.ownBlock = some q ∨ B0 ≤ q) (hr : Ro w' sz v xs.length (flt en xs)) : LO en sz P bl w' v xs :=
  ⟨hr, fun i x hx => hP S w w' x (h.el i x hx) f (fun k hk e => by
    have h1 := a.eb i x k hx hk
    rcases hS k (by omega) e with q | q
    · exact h1.2 q
    · omega), h.ao.mono f.size⟩
/-- A thing's own blocks turn, and what is newer. -/
theorem LO.turn {P : World → T → Prop} {bl : T → Nat → Prop} {B0 : Nat} {w' : World} (hP : Stays1 P bl) (h : LO en sz P bl w v xs) (a : AO bl B0 v xs) (hv : ∀ q, v.ownBlock = some q → q < B0) (hB : B0 ≤ w.heap.size) {i : Nat} {x : T} (hx : xs[i]? = some x) {S : Nat → Prop} (f : Fr S w w') (hS : ∀ q, q < w.heap.size → S q → bl x q ∨ B0 ≤ q) (hp : P w' x) : LO en sz P bl w' v xs := by
  refine ⟨h.row.fr f (fun q hq e => ?_), fun j y hy => ?_, h.ao.mono f.size⟩
  · have h1 := hv q hq
    rcases hS q (by omega) e with r | r
    · exact (a.eb i x q hx r).2 hq
    · omega
  · by_cases q : j = i
    · subst q
      rw [hx] at hy
      cases hy
      exact hp
    · refine hP S w w' y (h.el j y hy) f (fun k hk e => ?_)
      have h1 := a.eb j y k hy hk
      rcases hS k (by omega) e with r | r
      · exact a.ap i j x y k (fun e2 => q e2.symm) hx hy r hk
      · omega
end
def mark (j : Nat) : Int := IntKind.i64.wrap (-1 - (j : Int))
def mkGB (M : Nat → Int) (j : Nat) : BkR := ⟨M j, .slice none 0 0, .slice none 0 0⟩
def mkGI (M : Nat → Int) (j : Nat) : InR := ⟨0, 0, 0, .slice none 0 0, 0, 0, M j, .slice none 0 0⟩
def mkGE (M : Nat → Int) (j : Nat) : ShR := ⟨M j, 0, .slice none 0 0⟩
/-- All that was gathered. -/
structure GA (M : Nat → Int) (G : Nat → Nat) (gB gI gE : Value) (vB vI vE : List Value) (w : World) : Prop where
  B : GQ enBk 3 (mkGB M) 16 G 1 gB vB w
  I : GQ enIn 8 (mkGI M) 16 G 2 gI vI w
  E : GQ enSh 3 (mkGE M) 4 G 3 gE vE w
section
variable {M : Nat → Int} {G G' : Nat → Nat} {gB gI gE : Value} {vB vI vE : List Value} {w w' : World}
theorem GA.mv {S : Nat → Prop} (h : GA M G gB gI gE vB vI vE w) (f : Fr S w w') (hS : ∀ q, q < w.heap.size → S q → G q = 0) (hG : ∀ q, q < w.heap.size → G q ≠ 0 → G' q = G q) : GA M G' gB gI gE vB vI vE w' :=
  ⟨h.B.mv f (fun q hq e => by have := hS q hq e; omega) (fun q hq e => hG q hq (by omega)), h.I.mv f (fun q hq e => by have := hS q hq e; omega) (fun q hq e => hG q hq (by omega)), h.E.mv f (fun q hq e => by have := hS q hq e; omega) (fun q hq e => hG q hq (by omega))⟩
end
/-- The tags behind a row that has grown and was gathered. -/
def tgg (G : Nat → Nat) (n0 g n1 tg : Nat) : Nat → Nat := tl (upd (tl G n0 0) g 4) n1 tg
theorem tgg_ne (G : Nat → Nat) {n0 g n1 tg q : Nat} (h : q < n0) (hq : q ≠ g) (h1 : n0 ≤ n1) : tgg G n0 g n1 tg q = G q := by unfold tgg; rw [tl_lt _ _ (by omega), upd_ne _ _ hq, tl_lt _ _ h]
section
variable {T : Type} {en : T → List Value} {sz : Nat} {M : Nat → Int} {G : Nat → Nat} {gB gI gE : Value} {vB vI vE : List Value} {Wg w w1 w2 : World} {v hv : Value} {xs : List T} {z : T} {m g o c n : Nat} {gv' : Value}
/-- Ahead of the gathering: what lies there stands while a row grows; its marks get the tag. -/
theorem GA.grown (h : GA M G gB gI gE vB vI vE Wg) (hr : GR en sz z Wg v xs m hv w) (e : hv = .slice (some ⟨g, o, none⟩) (xs.length + m) c) (hv0 : ∀ q, v.ownBlock = some q → G q = 0) : GA M (upd (tl G Wg.heap.size 0) g 4) gB gI gE vB vI vE w := by
  have hgo := hr.own (q := g) (by rw [e]; rfl)
  have hg0 : tl G Wg.heap.size 0 g = 0 := by
    by_cases q : g < Wg.heap.size
    · rw [tl_lt _ _ q]
      rcases hgo with r | r
      · exact hv0 g r
      · omega
    · exact tl_ge _ _ (by omega)
  refine h.mv hr.fr (fun q _ e2 => hv0 q e2) (fun q hq hq0 => ?_)
  have : q ≠ g := fun e2 => by subst e2; rw [tl_lt _ _ hq] at hg0; exact hq0 hg0
  rw [upd_ne _ _ this, tl_lt _ _ hq]
theorem GA.pushB (h : GA M G gB gI gE vB vI vE w) (h4 : G g = 4) (hro : Ro w 3 (.slice (some ⟨g, o, none⟩) 16 c) 16 (flt enBk (List.replicate 16 (mkGB M vB.length))))
    (hb : Below w.heap.size w w1) (hr : Ro w2 1 gv' n (flt enV vB ++ enV (.slice (some ⟨g, o, none⟩) 16 c))) (hn : n = vB.length + 1) (hg : w1.grownBy w2 gB.ownBlock) (hat : gv'.ownBlock = gB.ownBlock ∨ gv'.ownBlock = some w1.heap.size) :
    GA M (tl G w.heap.size 1) gv' gI gE (vB ++ [.slice (some ⟨g, o, none⟩) 16 c]) vI vE w2 ∧ Fr (fun q => gB.ownBlock = some q) w w2 := by
  obtain ⟨q1, q2⟩ := h.B.push (by omega) rfl h4 hro hb hr hn hg hat
  exact ⟨⟨q1, h.I.mv q2 (fun q _ e => by have := h.B.rb q e; omega) (fun q hq _ => tl_lt _ _ hq), h.E.mv q2 (fun q _ e => by have := h.B.rb q e; omega) (fun q hq _ => tl_lt _ _ hq)⟩, q2⟩
theorem GA.pushI (h : GA M G gB gI gE vB vI vE w) (h4 : G g = 4) (hro : Ro w 8 (.slice (some ⟨g, o, none⟩) 16 c) 16 (flt enIn (List.replicate 16 (mkGI M vI.length))))
    (hb : Below w.heap.size w w1) (hr : Ro w2 1 gv' n (flt enV vI ++ enV (.slice (some ⟨g, o, none⟩) 16 c))) (hn : n = vI.length + 1) (hg : w1.grownBy w2 gI.ownBlock) (hat : gv'.ownBlock = gI.ownBlock ∨ gv'.ownBlock = some w1.heap.size) :
    GA M (tl G w.heap.size 2) gB gv' gE vB (vI ++ [.slice (some ⟨g, o, none⟩) 16 c]) vE w2 ∧ Fr (fun q => gI.ownBlock = some q) w w2 := by
  obtain ⟨q1, q2⟩ := h.I.push (by omega) rfl h4 hro hb hr hn hg hat
  exact ⟨⟨h.B.mv q2 (fun q _ e => by have := h.I.rb q e; omega) (fun q hq _ => tl_lt _ _ hq), q1, h.E.mv q2 (fun q _ e => by have := h.I.rb q e; omega) (fun q hq _ => tl_lt _ _ hq)⟩, q2⟩
theorem GA.pushE (h : GA M G gB gI gE vB vI vE w) (h4 : G g = 4) (hro : Ro w 3 (.slice (some ⟨g, o, none⟩) 4 c) 4 (flt enSh (List.replicate 4 (mkGE M vE.length))))
    (hb : Below w.heap.size w w1) (hr : Ro w2 1 gv' n (flt enV vE ++ enV (.slice (some ⟨g, o, none⟩) 4 c))) (hn : n = vE.length + 1) (hg : w1.grownBy w2 gE.ownBlock) (hat : gv'.ownBlock = gE.ownBlock ∨ gv'.ownBlock = some w1.heap.size) :
    GA M (tl G w.heap.size 3) gB gI gv' vB vI (vE ++ [.slice (some ⟨g, o, none⟩) 4 c]) w2 ∧ Fr (fun q => gE.ownBlock = some q) w w2 := by
  obtain ⟨q1, q2⟩ := h.E.push (by omega) rfl h4 hro hb hr hn hg hat
  exact ⟨⟨h.B.mv q2 (fun q _ e => by have := h.E.rb q e; omega) (fun q hq _ => tl_lt _ _ hq), h.I.mv q2 (fun q _ e => by have := h.E.rb q e; omega) (fun q hq _ => tl_lt _ _ hq), q1⟩, q2⟩
end
/-- append of one onto a row that grows, in the walk. -/
theorem wpList_appG {T : Type} {en : T → List Value} {sz bytes : Nat} {te t : TypeId} {w : World} {ops : Array Oper} {rest : List Oper} {o : Oper} {a : Act} {Q : Exit → Act → World → Prop} {zv : Value}
    (hund : Tryd.prog.underlying t = some (.slice te)) (hinf : (Tryd.prog.info? te).map (fun i => (i.zero, i.size, i.bytes)) = some (some zv, sz, bytes)) (hzs : zv.cells.size = sz) (hsz : 0 < sz) (hby : bytes ≤ 96) (hz : ∀ x, (en x).length = sz)
    (hg : o.guard = none) (s x : Operand) (hop : o.op = Op.call { callee := Callee.builtin Builtin.append, args := #[s, x], argTypes := #[t, t] })
    (v : Value) (n : Nat) (xs : List Value) (hs : a.eval s = v) (hr : Ro w sz v n xs) (ad : Addr) (c : Nat) (p : T) (hx : a.eval x = .slice (some ad) 1 c) (hc : ∀ j u, (en p)[j]? = some u → w.cell? (ad.add j) = some u) (h1 : ∀ u ∈ en p, u.oneCell' = true)
    (hN : n ≤ 1099511627776)
    (hK : ∀ v' w', Ro w' sz v' (n + 1) (xs ++ en p) → w.grownBy w' v.ownBlock → ((∃ g off cap, v = .slice (some ⟨g, off, none⟩) n cap ∧ v' = .slice (some ⟨g, off, none⟩) (n + 1) cap) ∨ v'.ownBlock = some w.heap.size) → Ro w' sz v n xs → wpList Tryd.prog ops Q rest (a.put o.dst v') w') :
    wpList Tryd.prog ops Q (o :: rest) a w := by
  obtain ⟨i0, hi0, hz0, hz1, hz2⟩ := info_parts hinf
  refine wpList_appO0 hg s x t hop te i0 _ sz bytes hund hi0 hz0 hz1 hz2 hzs hsz v n xs hs hr ad 1 c (en p) hx (by rw [hz]; omega) hc h1 (by omega) (by unfold maxLen; omega) ?_ hK
  have : (n + 1) * bytes ≤ (1099511627776 + 1) * 96 := Nat.mul_le_mul (by omega) hby
  omega
theorem infR84 : (Tryd.prog.info? 22).map (fun i => (i.zero, i.size, i.bytes)) = some (some (.slice none 0 0), 1, 24) := by kernel_rfl
/-- How many there are. -/
theorem fl_push {A C : Type} (f : A → List C) {l : List A} {i : Nat} {x : A} (h : l[i]? = some x) : ((l.take (i + 1)).flatMap f).length = ((l.take i).flatMap f).length + (f x).length := by
  rw [take_push h]; simp
theorem fl_le {A C : Type} (f : A → List C) (l : List A) (i : Nat) : ((l.take i).flatMap f).length ≤ (l.flatMap f).length := by
  have h : l.flatMap f = (l.take i).flatMap f ++ (l.drop i).flatMap f := by rw [← List.flatMap_append, List.take_append_drop]
  rw [h, List.length_append]
  omega

set_option linter.unusedVariables false
set_option linter.unusedSimpArgs false
theorem flt_TB (X : List TB) : flt enTB X = flt enBk (X.map Prod.fst) := by
  induction X with
  | nil => rfl
  | cons p r ih => simp only [flt, List.flatMap_cons, List.map_cons] at ih ⊢; rw [ih]; rfl
def T04 (B0 : Nat) (G : Nat → Nat) : Prop := ∀ q, q < B0 → G q = 0 ∨ G q = 4
structure CS (M : Nat → Int) (w : World) (v : Value) (cs : List TC) (k : Nat) (gB gI gE : Value) (vB vI vE : List Value) (G : Nat → Nat) (wr : World) : Prop where
  lo : LOC wr v cs
  fr : Fr (fun q => ∃ c ∈ cs, blG c q) w wr
  z : ∀ (j : Nat) (c : TC) (q : Nat), k ≤ j → cs[j]? = some c → blG c q → G q = 0
  t4 : T04 w.heap.size G
  ga : GA M G gB gI gE vB vI vE wr
  nb : vB.length = k
  ni : vI.length = ((cs.take k).flatMap Prod.snd).length
  ne : vE.length = (((cs.take k).flatMap Prod.snd).flatMap Prod.snd).length
structure BSg (M : Nat → Int) (B0 : Nat) (Wk : World) (Gk : Nat → Nat) (c : TC) (b ni0 ne0 : Nat) (gB gI gE : Value) (vB vI vE : List Value) (G : Nat → Nat) (wr : World) : Prop where
  lo : LO enTB 3 BEo blF wr c.1.v c.2
  fr : Fr (fun q => blG c q ∨ B0 ≤ q) Wk wr
  tg : ∀ q, q < B0 → ¬ blG c q → G q = Gk q
  z : ∀ (j : Nat) (x : TB) (q : Nat), b ≤ j → c.2[j]? = some x → blF x q → G q = 0
  t4 : T04 B0 G
  ga : GA M G gB gI gE vB vI vE wr
  ni : vI.length = ni0 + b
  ne : vE.length = ne0 + ((c.2.take b).flatMap Prod.snd).length
structure IS (M : Nat → Int) (B0 : Nat) (Wb : World) (Gb : Nat → Nat) (x : TB) (i ne1 : Nat) (gB gI gE : Value) (vB vI vE : List Value) (G : Nat → Nat) (wr : World) : Prop where
  lo : LO enT 8 IEo blE wr x.1.iv x.2
  fr : Fr (fun q => blF x q ∨ B0 ≤ q) Wb wr
  tg : ∀ q, q < B0 → ¬ blF x q → G q = Gb q
  z : ∀ (j : Nat) (t : TI) (q : Nat), i ≤ j → x.2[j]? = some t → blE t q → G q = 0
  t4 : T04 B0 G
  ga : GA M G gB gI gE vB vI vE wr
  ne : vE.length = ne1 + i
section
variable {M : Nat → Int} {G Gk Gb : Nat → Nat} {gB gI gE gv' hv v : Value} {vB vI vE : List Value} {w Wk Wb w1 w1a w2 wr : World} {cs : List TC} {c : TC} {x : TB} {t : TI} {k b i ni0 ne0 ne1 B0 g o cc n : Nat}
theorem tgg_4 (h : T04 B0 G) {n0 n1 tg : Nat} (hB : B0 ≤ n0) (h1 : n0 ≤ n1) : T04 B0 (tgg G n0 g n1 tg) := fun q hq => by
  by_cases e : q = g
  · subst e
    right
    unfold tgg
    rw [tl_lt _ _ (by omega), upd_self]
  · rw [tgg_ne G (by omega) e h1]; exact h q hq
theorem upd_4 (h : T04 B0 G) {n0 : Nat} (hB : B0 ≤ n0) : T04 B0 (upd (tl G n0 0) g 4) := fun q hq => by
  by_cases e : q = g
  · subst e; right; exact upd_self _ _ _
  · rw [upd_ne _ _ e, tl_lt _ _ (by omega)]; exact h q hq
theorem CS.start (h : LOC w v cs) : CS M w v cs 0 (.slice none 0 0) (.slice none 0 0) (.slice none 0 0) [] [] [] (fun _ => 0) w :=
  ⟨h, Fr.refl _ _, fun _ _ _ _ _ _ => rfl, fun _ _ => .inl rfl, ⟨GQ.nil _ _, GQ.nil _ _, GQ.nil _ _⟩, rfl, rfl, rfl⟩
/-- The list of blocks was grown and gathered. -/
theorem BSg.start (h : CS M w v cs k gB gI gE vB vI vE G Wk) (hc : cs[k]? = some c) (aC : AO blG w.heap.size v cs) (aB : AO blF w.heap.size c.1.v c.2) (gr : GR enBk 3 (mkGB M k) Wk c.1.v (c.2.map Prod.fst) 16 hv w1) (e : hv = .slice (some ⟨g, o, none⟩) ((c.2.map Prod.fst).length + 16) cc)
    (hb : Below w1.heap.size w1 w1a) (hr : Ro w2 1 gv' n (flt enV vB ++ enV (.slice (some ⟨g, o + (c.2.map Prod.fst).length * 3, none⟩) 16 (cc - (c.2.map Prod.fst).length)))) (hn : n = k + 1) (hg : w1a.grownBy w2 gB.ownBlock) (hat : gv'.ownBlock = gB.ownBlock ∨ gv'.ownBlock = some w1a.heap.size) :
    ∃ vB', vB'.length = k + 1 ∧ BSg M w.heap.size Wk G c 0 vI.length vE.length gv' gI gE vB' vI vE (tgg G Wk.heap.size g w1.heap.size 1) w2 := by
  have hB0 := h.fr.size
  have h01 := gr.fr.size
  have vb : ∀ q, c.1.v.ownBlock = some q → q < w.heap.size ∧ G q = 0 := fun q hq => ⟨(aC.eb k c q hc (.inl hq)).1, h.z k c q (Nat.le_refl _) hc (.inl hq)⟩
  have hgo : c.1.v.ownBlock = some g ∨ Wk.heap.size ≤ g := gr.own (by rw [e]; rfl)
  have ga1 := h.ga.grown gr e (fun q hq => (vb q hq).2)
  have h41 : upd (tl G Wk.heap.size 0) g 4 g = 4 := upd_self _ _ _
  obtain ⟨ga2, f2⟩ := ga1.pushB h41 (by rw [h.nb]; exact gr.past zBk e) hb hr (by rw [h.nb]; exact hn) hg hat
  have t1 := upd_4 (g := g) h.t4 hB0
  have gB0 : ∀ q, gB.ownBlock = some q → w.heap.size ≤ q := fun q hq => by
    have h1 := ga1.B.rb q hq
    by_cases hl : q < w.heap.size
    · rcases t1 q hl with r | r <;> omega
    · omega
  have hf : Fr (fun q => blG c q ∨ w.heap.size ≤ q) Wk w2 := (gr.fr.mono (fun q _ e => .inl (.inl e))).trans (f2.mono (fun q _ e => .inr (gB0 q e)))
  have hne : ∀ q, q < w.heap.size → ¬ c.1.v.ownBlock = some q → tgg G Wk.heap.size g w1.heap.size 1 q = G q := fun q hq hn => tgg_ne G (by omega) (fun e2 => by subst e2; rcases hgo with r | r; exact hn r; omega) h01
  have hCE : CEo Wk c := h.lo.el k c hc
  have hvr := gr.vr
  rw [← flt_TB, List.length_map] at hvr
  refine ⟨_, by rw [List.length_append, h.nb]; rfl, ⟨LO.grow stayBE hCE aB hB0 ((gr.fr.mono (T := fun q => c.1.v.ownBlock = some q ∨ w.heap.size ≤ q) (fun q _ e => .inl e)).comp f2 (fun q _ e => .inr (gB0 q e))) (fun q _ e => e) (hvr.fr f2 (fun q hq e2 => by have := gB0 q e2; have := (vb q hq).1; omega)), hf, fun q hq hn => hne q hq (fun e2 => hn (.inl e2)), fun j y q _ hy hq => ?_, tgg_4 h.t4 hB0 h01, ga2, rfl, by simp⟩⟩
  have h1 := aB.eb j y q hy hq
  rw [hne q h1.1 h1.2]
  exact h.z k c q (Nat.le_refl _) hc (.inr ⟨y, List.mem_of_getElem? hy, hq⟩)
/-- The list of instructions was grown and gathered. -/
theorem IS.start (h : BSg M B0 Wk Gk c b ni0 ne0 gB gI gE vB vI vE G Wb) (hWb : B0 ≤ Wb.heap.size) (hx : c.2[b]? = some x) (aB : AO blF B0 c.1.v c.2) (aI : AO blE B0 x.1.iv x.2) (gr : GR enIn 8 (mkGI M vI.length) Wb x.1.iv (x.2.map Prod.fst) 16 hv w1) (e : hv = .slice (some ⟨g, o, none⟩) ((x.2.map Prod.fst).length + 16) cc)
    (hb : Below w1.heap.size w1 w1a) (hr : Ro w2 1 gv' n (flt enV vI ++ enV (.slice (some ⟨g, o + (x.2.map Prod.fst).length * 8, none⟩) 16 (cc - (x.2.map Prod.fst).length)))) (hn : n = vI.length + 1) (hg : w1a.grownBy w2 gI.ownBlock) (hat : gv'.ownBlock = gI.ownBlock ∨ gv'.ownBlock = some w1a.heap.size) :
    ∃ vI', vI'.length = vI.length + 1 ∧ IS M B0 Wb G x 0 vE.length gB gv' gE vB vI' vE (tgg G Wb.heap.size g w1.heap.size 2) w2 := by
  have h01 := gr.fr.size
  have vb : ∀ q, x.1.iv.ownBlock = some q → q < B0 ∧ G q = 0 := fun q hq => ⟨(aB.eb b x q hx (.inl hq)).1, h.z b x q (Nat.le_refl _) hx (.inl hq)⟩
  have hgo : x.1.iv.ownBlock = some g ∨ Wb.heap.size ≤ g := gr.own (by rw [e]; rfl)
  have ga1 := h.ga.grown gr e (fun q hq => (vb q hq).2)
  obtain ⟨ga2, f2⟩ := ga1.pushI (upd_self _ _ _) (gr.past zIn e) hb hr hn hg hat
  have t1 := upd_4 (g := g) h.t4 hWb
  have gB0 : ∀ q, gI.ownBlock = some q → B0 ≤ q := fun q hq => by
    have h1 := ga1.I.rb q hq
    by_cases hl : q < B0
    · rcases t1 q hl with r | r <;> omega
    · omega
  have hf : Fr (fun q => blF x q ∨ B0 ≤ q) Wb w2 := (gr.fr.mono (fun q _ e => .inl (.inl e))).trans (f2.mono (fun q _ e => .inr (gB0 q e)))
  have hne : ∀ q, q < B0 → ¬ x.1.iv.ownBlock = some q → tgg G Wb.heap.size g w1.heap.size 2 q = G q := fun q hq hn => tgg_ne G (by omega) (fun e2 => by subst e2; rcases hgo with r | r; exact hn r; omega) h01
  have hBE : BEo Wb x := h.lo.el b x hx
  have hvr := gr.vr
  rw [← flt_T, List.length_map] at hvr
  refine ⟨_, by rw [List.length_append]; rfl, ⟨LO.grow stayIE hBE aI hWb ((gr.fr.mono (T := fun q => x.1.iv.ownBlock = some q ∨ B0 ≤ q) (fun q _ e => .inl e)).comp f2 (fun q _ e => .inr (gB0 q e))) (fun q _ e => e) (hvr.fr f2 (fun q hq e2 => by have := gB0 q e2; have := (vb q hq).1; omega)), hf, fun q hq hn => hne q hq (fun e2 => hn (.inl e2)), fun j y q _ hy hq => ?_, tgg_4 h.t4 hWb h01, ga2, rfl⟩⟩
  have h1 := aI.eb j y q hy hq
  rw [hne q h1.1 h1.2]
  exact h.z b x q (Nat.le_refl _) hx (.inr ⟨y, List.mem_of_getElem? hy, hq⟩)
/-- A list of shapes was grown and gathered. -/
theorem IS.step (h : IS M B0 Wb Gb x i ne1 gB gI gE vB vI vE G wr) (hWb : B0 ≤ wr.heap.size) (ht : x.2[i]? = some t) (aI : AO blE B0 x.1.iv x.2) (hiv : ∀ q, x.1.iv.ownBlock = some q → q < B0) (gr : GR enSh 3 (mkGE M vE.length) wr t.1.ev t.2 4 hv w1) (e : hv = .slice (some ⟨g, o, none⟩) (t.2.length + 4) cc)
    (hb : Below w1.heap.size w1 w1a) (hr : Ro w2 1 gv' n (flt enV vE ++ enV (.slice (some ⟨g, o + t.2.length * 3, none⟩) 4 (cc - t.2.length)))) (hn : n = vE.length + 1) (hg : w1a.grownBy w2 gE.ownBlock) (hat : gv'.ownBlock = gE.ownBlock ∨ gv'.ownBlock = some w1a.heap.size) :
    ∃ vE', IS M B0 Wb Gb x (i + 1) ne1 gB gI gv' vB vI vE' (tgg G wr.heap.size g w1.heap.size 3) w2 := by
  have h01 := gr.fr.size
  have vb : ∀ q, t.1.ev.ownBlock = some q → q < B0 ∧ G q = 0 := fun q hq => ⟨(aI.eb i t q ht hq).1, h.z i t q (Nat.le_refl _) ht hq⟩
  have hgo : t.1.ev.ownBlock = some g ∨ wr.heap.size ≤ g := gr.own (by rw [e]; rfl)
  have ga1 := h.ga.grown gr e (fun q hq => (vb q hq).2)
  obtain ⟨ga2, f2⟩ := ga1.pushE (upd_self _ _ _) (gr.past zSh e) hb hr hn hg hat
  have t1 := upd_4 (g := g) h.t4 hWb
  have gB0 : ∀ q, gE.ownBlock = some q → B0 ≤ q := fun q hq => by
    have h1 := ga1.E.rb q hq
    by_cases hl : q < B0
    · rcases t1 q hl with r | r <;> omega
    · omega
  have hf : Fr (fun q => blE t q ∨ B0 ≤ q) wr w2 := (gr.fr.mono (fun q _ e => .inl e)).trans (f2.mono (fun q _ e => .inr (gB0 q e)))
  have hne : ∀ q, q < B0 → ¬ t.1.ev.ownBlock = some q → tgg G wr.heap.size g w1.heap.size 3 q = G q := fun q hq hn => tgg_ne G (by omega) (fun e2 => by subst e2; rcases hgo with r | r; exact hn r; omega) h01
  have hIE : IEo wr t := h.lo.el i t ht
  have hIE2 : IEo w2 t := ⟨gr.vr.fr f2 (fun q hq e2 => by have := gB0 q e2; have := (vb q hq).1; omega), fun j r hj => hIE.el j r hj, ⟨fun _ _ _ _ h => h.elim, fun _ _ _ _ _ _ _ _ h => h.elim⟩⟩
  refine ⟨_, ⟨LO.turn stayIE h.lo aI hiv hWb ht hf (fun q _ e => e) hIE2, h.fr.trans (hf.mono (fun q _ e => e.elim (fun e => .inl (.inr ⟨t, List.mem_of_getElem? ht, e⟩)) .inr)), fun q hq hn => ?_, fun j y q hj hy hq => ?_, tgg_4 h.t4 hWb h01, ga2, ?_⟩⟩
  · rw [hne q hq (fun e2 => hn (.inr ⟨t, List.mem_of_getElem? ht, e2⟩))]; exact h.tg q hq hn
  · have h1 := aI.eb j y q hy hq
    rw [hne q h1.1 (fun e2 => aI.ap j i y t q (by omega) hy ht hq e2)]
    exact h.z j y q (by omega) hy hq
  · rw [List.length_append, h.ne]; rfl
/-- A block is done. -/
theorem BSg.next {gI2 gE2 : Value} {vI2 vE2 : List Value} (h : BSg M B0 Wk Gk c b ni0 ne0 gB gI gE vB vI vE Gb Wb) (hWb : B0 ≤ Wb.heap.size) (hx : c.2[b]? = some x) (aB : AO blF B0 c.1.v c.2) (hbv : ∀ q, c.1.v.ownBlock = some q → q < B0) (hi : IS M B0 Wb Gb x x.2.length vE.length gB gI2 gE2 vB vI2 vE2 G wr) (hnI : vI2.length = vI.length + 1) :
    BSg M B0 Wk Gk c (b + 1) ni0 ne0 gB gI2 gE2 vB vI2 vE2 G wr := by
  refine ⟨LO.turn stayBE h.lo aB hbv hWb hx hi.fr (fun q _ e => e) hi.lo, h.fr.trans (hi.fr.mono (fun q _ e => e.elim (fun e => .inl (.inr ⟨x, List.mem_of_getElem? hx, e⟩)) .inr)), fun q hq hn => ?_, fun j y q hj hy hq => ?_, hi.t4, hi.ga, by rw [hnI, h.ni]; omega, ?_⟩
  · rw [hi.tg q hq (fun e2 => hn (.inr ⟨x, List.mem_of_getElem? hx, e2⟩))]; exact h.tg q hq hn
  · have h1 := aB.eb j y q hy hq
    rw [hi.tg q h1.1 (fun e2 => aB.ap j b y x q (by omega) hy hx hq e2)]
    exact h.z j y q (by omega) hy hq
  · rw [hi.ne, h.ne, fl_push Prod.snd hx]; omega
/-- A code is done. -/
theorem CS.next {gB2 gI2 gE2 : Value} {vB2 vI2 vE2 : List Value} (h : CS M w v cs k gB gI gE vB vI vE Gk Wk) (hc : cs[k]? = some c) (aC : AO blG w.heap.size v cs) (hv0 : ∀ q, v.ownBlock = some q → q < w.heap.size) (hb : BSg M w.heap.size Wk Gk c c.2.length vI.length vE.length gB2 gI2 gE2 vB2 vI2 vE2 G wr) (hnB : vB2.length = k + 1) :
    CS M w v cs (k + 1) gB2 gI2 gE2 vB2 vI2 vE2 G wr := by
  have hB0 := h.fr.size
  refine ⟨LO.turn stayCE h.lo aC hv0 hB0 hc hb.fr (fun q _ e => e) hb.lo, h.fr.trans2 hb.fr (fun q hq e => e.elim (fun e => ⟨c, List.mem_of_getElem? hc, e⟩) (fun e => by omega)), fun j y q hj hy hq => ?_, hb.t4, hb.ga, hnB, ?_, ?_⟩
  · have h1 := aC.eb j y q hy hq
    rw [hb.tg q h1.1 (fun e2 => aC.ap j k y c q (by omega) hy hc hq e2)]
    exact h.z j y q (by omega) hy hq
  · rw [hb.ni, h.ni, fl_push Prod.snd hc]
  · rw [hb.ne, h.ne, take_push hc]
    simp
end
theorem slB (g o N c : Nat) (h : N + 16 ≤ c) (W : World) : (Instr.sliceAt 22 (.slice (some ⟨g, o, none⟩) (N + 16) c) (some (.int .i64 (N : Int))) none none).run Tryd.prog W = .ok (.slice (some ⟨g, o + N * 3, none⟩) 16 (c - N)) W := by
  have h0 : (0 : Int) ≤ (N : Int) := by omega
  have h1 : (N : Int) ≤ ((N + 16 : Nat) : Int) := by omega
  have h2 : ¬ c = N := by omega
  have h3 : N + 16 - N = 16 := by omega
  go_simp
  intro hh
  omega
theorem slI (g o N c : Nat) (h : N + 16 ≤ c) (W : World) : (Instr.sliceAt 45 (.slice (some ⟨g, o, none⟩) (N + 16) c) (some (.int .i64 (N : Int))) none none).run Tryd.prog W = .ok (.slice (some ⟨g, o + N * 8, none⟩) 16 (c - N)) W := by
  have h0 : (0 : Int) ≤ (N : Int) := by omega
  have h1 : (N : Int) ≤ ((N + 16 : Nat) : Int) := by omega
  have h2 : ¬ c = N := by omega
  have h3 : N + 16 - N = 16 := by omega
  go_simp
  intro hh
  omega
theorem slE (g o N c : Nat) (h : N + 4 ≤ c) (W : World) : (Instr.sliceAt 49 (.slice (some ⟨g, o, none⟩) (N + 4) c) (some (.int .i64 (N : Int))) none none).run Tryd.prog W = .ok (.slice (some ⟨g, o + N * 3, none⟩) 4 (c - N)) W := by
  have h0 : (0 : Int) ≤ (N : Int) := by omega
  have h1 : (N : Int) ≤ ((N + 4 : Nat) : Int) := by omega
  have h2 : ¬ c = N := by omega
  have h3 : N + 4 - N = 4 := by omega
  go_simp
  intro hh
  omega

set_option linter.unusedVariables false
set_option linter.unusedSimpArgs false
def blCd (c : TC) (q : Nat) : Prop := c.1.v.ownBlock = some q ∨ ∃ x ∈ c.2, blB x q
/-- A code of one's own. -/
def CdP (w : World) (u : List Bk) (c : TC) : Prop := ∃ Z, OW enTB 3 (PB 0) blB Z w c.1.v u c.2
theorem stayCd : Stays CdP blCd := fun S w w' u c h f hS => by
  obtain ⟨Z, ho⟩ := h
  exact ⟨Z, ho.fr (stayB 0) f (fun k _ hk => hS k hk)⟩
def vI (t : TI) : List Value := t.1.av :: t.2.map ShR.v
def vT (ts : List TI) : List Value := ts.flatMap vI
def vX (X : List TB) : List Value := X.flatMap (fun x => vT x.2)
def vC (cs : List TC) : List Value := cs.flatMap (fun c => vX c.2)
def nX (X : List TB) : List Value := X.map (fun x => x.1.nv)
def nC (cs : List TC) : List Value := cs.flatMap (fun c => nX c.2)
/-- Two lists do not lie in one block. -/
def Ap2 (a b : Value) : Prop := ∀ q, a.ownBlock = some q → b.ownBlock ≠ some q
theorem pw_of {T : Type} {R : T → T → Prop} {l : List T} (h : ∀ (i j : Nat) (x y : T), i ≠ j → l[i]? = some x → l[j]? = some y → R x y) : l.Pairwise R := by
  rw [List.pairwise_iff_getElem]
  intro i j hi hj hij
  exact h i j _ _ (by omega) (List.getElem?_eq_getElem hi) (List.getElem?_eq_getElem hj)
theorem pw_at {T : Type} {R : T → T → Prop} {l : List T} (h : l.Pairwise R) (hs : ∀ x y, R x y → R y x) {i j : Nat} {x y : T} (hij : i ≠ j) (hx : l[i]? = some x) (hy : l[j]? = some y) : R x y := by
  rw [List.pairwise_iff_getElem] at h
  obtain ⟨hi, rfl⟩ := List.getElem?_eq_some_iff.1 hx
  obtain ⟨hj, rfl⟩ := List.getElem?_eq_some_iff.1 hy
  by_cases q : i < j
  · exact h i j hi hj q
  · exact hs _ _ (h j i hj hi (by omega))
theorem Ap2.symm {a b : Value} (h : Ap2 a b) : Ap2 b a := fun q hb ha => h q ha hb
theorem vI_bl {t : TI} {a : Value} (h : a ∈ vI t) {q : Nat} (hq : a.ownBlock = some q) : blT t q := by
  rcases List.mem_cons.1 h with rfl | h
  · exact .inl hq
  · obtain ⟨r, hr, rfl⟩ := List.mem_map.1 h
    exact .inr (.inr ⟨r, hr, hq⟩)
theorem vI_pw {w : World} {u : RIn} {t : TI} (h : InT w u t) : (vI t).Pairwise Ap2 := by
  refine List.pairwise_cons.2 ⟨fun b hb q ha hb2 => ?_, pw_of (fun i j x y hij hx hy q hq => ?_)⟩
  · obtain ⟨r, hr, rfl⟩ := List.mem_map.1 hb
    exact (h.asp r q hr hb2).1 ha
  · rw [List.getElem?_map] at hx hy
    cases hi : t.2[i]? with
    | none => rw [hi] at hx; cases hx
    | some r =>
      cases hj : t.2[j]? with
      | none => rw [hj] at hy; cases hy
      | some p =>
        rw [hi] at hx; rw [hj] at hy
        cases hx; cases hy
        exact h.ss i j r p q hij hi hj hq
theorem vT_bl {ts : List TI} {a : Value} (h : a ∈ vT ts) {q : Nat} (hq : a.ownBlock = some q) : ∃ t ∈ ts, blT t q := by
  obtain ⟨t, ht, h⟩ := List.mem_flatMap.1 h
  exact ⟨t, ht, vI_bl h hq⟩
theorem vT_pw {w : World} {v : Value} {us : List RIn} {ts : List TI} {Z : Nat → Prop} (h : OW enT 8 InT blT Z w v us ts) : (vT ts).Pairwise Ap2 := by
  refine List.pairwise_flatMap.2 ⟨fun t ht => ?_, pw_of (fun i j x y hij hx hy a ha b hb q qa qb => h.ap i j x y q hij hx hy (vI_bl ha qa) (vI_bl hb qb))⟩
  obtain ⟨i, hi, rfl⟩ := List.getElem_of_mem ht
  exact vI_pw (h.el i _ _ (List.getElem?_eq_getElem (by rw [← h.len]; exact hi)) (List.getElem?_eq_getElem hi))
theorem vX_bl {X : List TB} {a : Value} (h : a ∈ vX X) {q : Nat} (hq : a.ownBlock = some q) : ∃ x ∈ X, blB x q := by
  obtain ⟨x, hx, h⟩ := List.mem_flatMap.1 h
  exact ⟨x, hx, .inr (.inl (vT_bl h hq))⟩
theorem vX_pw {w : World} {v : Value} {us : List Bk} {X : List TB} {Z : Nat → Prop} (h : OW enTB 3 (PB 0) blB Z w v us X) : (vX X).Pairwise Ap2 := by
  refine List.pairwise_flatMap.2 ⟨fun x hx => ?_, pw_of (fun i j x y hij hx hy a ha b hb q qa qb => h.ap i j x y q hij hx hy (.inr (.inl (vT_bl ha qa))) (.inr (.inl (vT_bl hb qb))))⟩
  obtain ⟨i, hi, rfl⟩ := List.getElem_of_mem hx
  exact vT_pw (h.el i _ _ (List.getElem?_eq_getElem (by rw [← h.len]; exact hi)) (List.getElem?_eq_getElem hi)).ow
theorem nX_pw {w : World} {v : Value} {us : List Bk} {X : List TB} {Z : Nat → Prop} (h : OW enTB 3 (PB 0) blB Z w v us X) : (nX X).Pairwise Ap2 := by
  refine List.pairwise_map.2 (pw_of (fun i j x y hij hx hy q qa qb => h.ap i j x y q hij hx hy (.inr (.inr qa)) (.inr (.inr qb))))
theorem nX_bl {X : List TB} {a : Value} (h : a ∈ nX X) {q : Nat} (hq : a.ownBlock = some q) : ∃ x ∈ X, blB x q := by
  obtain ⟨x, hx, rfl⟩ := List.mem_map.1 h
  exact ⟨x, hx, .inr (.inr hq)⟩
section
variable {w w' : World} {v : Value} {us : List (List Bk)} {cs : List TC} {Z : Nat → Prop}
abbrev OWC (Z : Nat → Prop) (w : World) (v : Value) (us : List (List Bk)) (cs : List TC) : Prop := OW enTC 3 CdP blCd Z w v us cs
theorem vC_pw (h : OWC Z w v us cs) : (vC cs).Pairwise Ap2 := by
  refine List.pairwise_flatMap.2 ⟨fun c hc => ?_, pw_of (fun i j x y hij hx hy a ha b hb q qa qb => h.ap i j x y q hij hx hy (.inr (vX_bl ha qa)) (.inr (vX_bl hb qb)))⟩
  obtain ⟨i, hi, rfl⟩ := List.getElem_of_mem hc
  obtain ⟨Z', ho⟩ := h.el i _ _ (List.getElem?_eq_getElem (by rw [← h.len]; exact hi)) (List.getElem?_eq_getElem hi)
  exact vX_pw ho
theorem nC_pw (h : OWC Z w v us cs) : (nC cs).Pairwise Ap2 := by
  refine List.pairwise_flatMap.2 ⟨fun c hc => ?_, pw_of (fun i j x y hij hx hy a ha b hb q qa qb => h.ap i j x y q hij hx hy (.inr (nX_bl ha qa)) (.inr (nX_bl hb qb)))⟩
  obtain ⟨i, hi, rfl⟩ := List.getElem_of_mem hc
  obtain ⟨Z', ho⟩ := h.el i _ _ (List.getElem?_eq_getElem (by rw [← h.len]; exact hi)) (List.getElem?_eq_getElem hi)
  exact nX_pw ho
theorem vC_in (h : OWC Z w v us cs) {a : Value} (ha : a ∈ vC cs) {q : Nat} (hq : a.ownBlock = some q) : q < w.heap.size ∧ v.ownBlock ≠ some q ∧ ∃ c ∈ cs, ∃ x ∈ c.2, ∃ t ∈ x.2, a ∈ vI t := by
  obtain ⟨c, hc, ha2⟩ := List.mem_flatMap.1 ha
  obtain ⟨i, hi, rfl⟩ := List.getElem_of_mem hc
  have h1 := h.eb i _ q (List.getElem?_eq_getElem hi) (.inr (vX_bl ha2 hq))
  obtain ⟨x, hx, ha3⟩ := List.mem_flatMap.1 ha2
  obtain ⟨t, ht, ha4⟩ := List.mem_flatMap.1 ha3
  exact ⟨h1.2.1, h1.2.2, _, hc, x, hx, t, ht, ha4⟩
theorem nC_in (h : OWC Z w v us cs) {a : Value} (ha : a ∈ nC cs) {q : Nat} (hq : a.ownBlock = some q) : q < w.heap.size ∧ v.ownBlock ≠ some q ∧ ∃ c ∈ cs, ∃ x ∈ c.2, a = x.1.nv := by
  obtain ⟨c, hc, ha2⟩ := List.mem_flatMap.1 ha
  obtain ⟨i, hi, rfl⟩ := List.getElem_of_mem hc
  have h1 := h.eb i _ q (List.getElem?_eq_getElem hi) (.inr (nX_bl ha2 hq))
  obtain ⟨x, hx, rfl⟩ := List.mem_map.1 ha2
  exact ⟨h1.2.1, h1.2.2, _, hc, x, hx, rfl⟩
/-- The lists can be read. -/
def OkU (us : List (List Bk)) : Prop := ∀ u ∈ us, ∀ b ∈ u, b.nx.length ≤ 1048576 ∧ ∀ x ∈ b.ins, x.args.length ≤ 1048576 ∧ ∀ s ∈ x.ex, s.sl.length ≤ 1048576
theorem vI_ro {u : RIn} {t : TI} (h : InT w u t) (hk : u.args.length ≤ 1048576 ∧ ∀ s ∈ u.ex, s.sl.length ≤ 1048576) {a : Value} (ha : a ∈ vI t) : ∃ l : List Op, l.length ≤ 1048576 ∧ Ro w 2 a l.length (flt enO l) := by
  rcases List.mem_cons.1 ha with rfl | ha
  · exact ⟨_, hk.1, h.a⟩
  · obtain ⟨r, hr, rfl⟩ := List.mem_map.1 ha
    obtain ⟨j, hj, rfl⟩ := List.getElem_of_mem hr
    have hs : u.ex[j]? = some (u.ex[j]'(by rw [← h.len]; exact hj)) := List.getElem?_eq_getElem _
    exact ⟨_, hk.2 _ (List.mem_of_getElem? hs), (h.s j _ _ hs (List.getElem?_eq_getElem hj)).2.2⟩
theorem vC_ro (h : OWC Z w v us cs) (hk : OkU us) {a : Value} (ha : a ∈ vC cs) : ∃ l : List Op, l.length ≤ 1048576 ∧ Ro w 2 a l.length (flt enO l) := by
  obtain ⟨c, hc, ha2⟩ := List.mem_flatMap.1 ha
  obtain ⟨i, hi, rfl⟩ := List.getElem_of_mem hc
  have hu : us[i]? = some (us[i]'(by rw [← h.len]; exact hi)) := List.getElem?_eq_getElem _
  obtain ⟨Z', ho⟩ := h.el i _ _ hu (List.getElem?_eq_getElem hi)
  obtain ⟨x, hx, ha3⟩ := List.mem_flatMap.1 ha2
  obtain ⟨b, hb, rfl⟩ := List.getElem_of_mem hx
  have hb2 : (us[i]'(by rw [← h.len]; exact hi))[b]? = some _ := List.getElem?_eq_getElem (by rw [← ho.len]; exact hb)
  have hP := ho.el b _ _ hb2 (List.getElem?_eq_getElem hb)
  obtain ⟨t, ht, ha4⟩ := List.mem_flatMap.1 ha3
  obtain ⟨n, hn, rfl⟩ := List.getElem_of_mem ht
  have hn2 : (Bk.ins _)[n]? = some _ := List.getElem?_eq_getElem (l := Bk.ins _) (by rw [← hP.ow.len]; exact hn)
  exact vI_ro (hP.ow.el n _ _ hn2 (List.getElem?_eq_getElem hn)) ((hk _ (List.mem_of_getElem? hu) _ (List.mem_of_getElem? hb2)).2 _ (List.mem_of_getElem? hn2)) ha4
theorem nC_ro (h : OWC Z w v us cs) (hk : OkU us) {a : Value} (ha : a ∈ nC cs) : ∃ l : List Int, l.length ≤ 1048576 ∧ Ro w 1 a l.length (flt enI l) := by
  obtain ⟨c, hc, ha2⟩ := List.mem_flatMap.1 ha
  obtain ⟨i, hi, rfl⟩ := List.getElem_of_mem hc
  have hu : us[i]? = some (us[i]'(by rw [← h.len]; exact hi)) := List.getElem?_eq_getElem _
  obtain ⟨Z', ho⟩ := h.el i _ _ hu (List.getElem?_eq_getElem hi)
  obtain ⟨x, hx, rfl⟩ := List.mem_map.1 ha2
  obtain ⟨b, hb, rfl⟩ := List.getElem_of_mem hx
  have hb2 : (us[i]'(by rw [← h.len]; exact hi))[b]? = some _ := List.getElem?_eq_getElem (by rw [← ho.len]; exact hb)
  have hP := ho.el b _ _ hb2 (List.getElem?_eq_getElem hb)
  exact ⟨_, (hk _ (List.mem_of_getElem? hu) _ (List.mem_of_getElem? hb2)).1, hP.nx⟩
/-- Without operands and numbers: what apartLists asks. -/
theorem InT.ie {u : RIn} {t : TI} (h : InT w u t) : IEo w t :=
  ⟨by rw [h.len]; exact h.e, fun j r hr => by
    have hs : u.ex[j]? = some _ := List.getElem?_eq_getElem (by rw [← h.len]; exact (List.getElem?_eq_some_iff.1 hr).1)
    obtain ⟨a, c, e, _⟩ := (h.s j _ r hs hr).2.2.shape
    exact ⟨a, _, c, e⟩, AO.none _ _ _⟩
theorem PB.be {b : Nat} {u : Bk} {x : TB} (h : PB b w u x) : BEo w x :=
  ⟨by rw [h.ow.len]; exact h.ow.row, fun i t ht => (h.ow.el i _ t (List.getElem?_eq_getElem (by rw [← h.ow.len]; exact (List.getElem?_eq_some_iff.1 ht).1)) ht).ie,
    fun i t k ht hk => (h.ow.eb i t k ht (.inr (.inl hk))).2, fun i j t q k hij ht hq hk hk2 => h.ow.ap i j t q k hij ht hq (.inr (.inl hk)) (.inr (.inl hk2))⟩
theorem blF_B {x : TB} {q : Nat} (h : blF x q) : blB x q := by
  rcases h with h | ⟨t, ht, h⟩
  · exact .inl h
  · exact .inr (.inl ⟨t, ht, .inr (.inl h)⟩)
theorem blG_Cd {c : TC} {q : Nat} (h : blG c q) : blCd c q := by
  rcases h with h | ⟨x, hx, h⟩
  · exact .inl h
  · exact .inr ⟨x, hx, blF_B h⟩
theorem CdP.ce {u : List Bk} {c : TC} (h : CdP w u c) : CEo w c := by
  obtain ⟨Z', ho⟩ := h
  exact ⟨by rw [ho.len]; exact ho.row, fun i x hx => (ho.el i _ x (List.getElem?_eq_getElem (by rw [← ho.len]; exact (List.getElem?_eq_some_iff.1 hx).1)) hx).be,
    fun i x k hx hk => (ho.eb i x k hx (blF_B hk)).2, fun i j x y k hij hx hy hk hk2 => ho.ap i j x y k hij hx hy (blF_B hk) (blF_B hk2)⟩
theorem OWC.loc (h : OWC Z w v us cs) : LOC w v cs :=
  ⟨by rw [h.len]; exact h.row, fun i c hc => (h.el i _ c (List.getElem?_eq_getElem (by rw [← h.len]; exact (List.getElem?_eq_some_iff.1 hc).1)) hc).ce,
    fun i c k hc hk => (h.eb i c k hc (blG_Cd hk)).2, fun i j c d k hij hc hd hk hk2 => h.ap i j c d k hij hc hd (blG_Cd hk) (blG_Cd hk2)⟩
end
/-- The lists that are gathered: two rows of slices of one's own. -/
structure GL (w : World) (pO pN : List Value) (gO gN : Value) (wr : World) : Prop where
  o : Ro wr 1 gO pO.length (flt enV pO)
  n : Ro wr 1 gN pN.length (flt enV pN)
  bw : Below w.heap.size w wr
  ob : ∀ q, gO.ownBlock = some q → w.heap.size ≤ q
  nb : ∀ q, gN.ownBlock = some q → w.heap.size ≤ q
  ne : Ap2 gO gN
section
variable {w wr w1 w2 : World} {pO pN : List Value} {gO gN g' a : Value} {n : Nat}
theorem GL.start (w : World) : GL w [] [] (.slice none 0 0) (.slice none 0 0) w :=
  ⟨by simpa [flt] using Ro.nil w 1, by simpa [flt] using Ro.nil w 1, Below.refl _ _, (fun q e => by cases e), (fun q e => by cases e), (fun q e => by cases e)⟩
theorem GL.on (h : GL w pO pN gO gN wr) (f : Below wr.heap.size wr w1) : GL w pO pN gO gN w1 :=
  ⟨h.o.fr (Fr.of_below (S := fun _ => False) f) (fun _ _ e => e), h.n.fr (Fr.of_below (S := fun _ => False) f) (fun _ _ e => e), h.bw.trans (f.mono h.bw.size), h.ob, h.nb, h.ne⟩
theorem GL.pushO (h : GL w pO pN gO gN wr) (hb : Below wr.heap.size wr w1) (hr : Ro w2 1 g' n (flt enV pO ++ enV a)) (hn : n = pO.length + 1) (hg : w1.grownBy w2 gO.ownBlock) (hat : g'.ownBlock = gO.ownBlock ∨ g'.ownBlock = some w1.heap.size) : GL w (pO ++ [a]) pN g' gN w2 := by
  subst hn
  have hs := h.bw.size
  have hbs := hb.size
  have f : Fr (fun q => gO.ownBlock = some q) wr w2 := (Fr.of_below (S := fun q => gO.ownBlock = some q) hb).trans ((Fr.refl _ w1).grown hg (fun k e => .inr e))
  have own : ∀ q, g'.ownBlock = some q → gO.ownBlock = some q ∨ wr.heap.size ≤ q := fun q hq => by
    rcases hat with r | r
    · rw [r] at hq; exact .inl hq
    · rw [r] at hq; cases hq; exact .inr hbs
  refine ⟨by rw [List.length_append, flt_append, flt_one]; exact hr, h.n.fr f (fun q hq e => h.ne q e hq), h.bw.trans (f.below hs (fun k hk e => by have := h.ob k e; omega)), fun q hq => ?_, h.nb, fun q hq e => ?_⟩
  · rcases own q hq with r | r
    · exact h.ob q r
    · omega
  · rcases own q hq with r | r
    · exact h.ne q r e
    · have := h.n.lt q e; omega
theorem GL.pushN (h : GL w pO pN gO gN wr) (hb : Below wr.heap.size wr w1) (hr : Ro w2 1 g' n (flt enV pN ++ enV a)) (hn : n = pN.length + 1) (hg : w1.grownBy w2 gN.ownBlock) (hat : g'.ownBlock = gN.ownBlock ∨ g'.ownBlock = some w1.heap.size) : GL w pO (pN ++ [a]) gO g' w2 := by
  subst hn
  have hs := h.bw.size
  have hbs := hb.size
  have f : Fr (fun q => gN.ownBlock = some q) wr w2 := (Fr.of_below (S := fun q => gN.ownBlock = some q) hb).trans ((Fr.refl _ w1).grown hg (fun k e => .inr e))
  have own : ∀ q, g'.ownBlock = some q → gN.ownBlock = some q ∨ wr.heap.size ≤ q := fun q hq => by
    rcases hat with r | r
    · rw [r] at hq; exact .inl hq
    · rw [r] at hq; cases hq; exact .inr hbs
  refine ⟨h.o.fr f (fun q hq e => h.ne q hq e), by rw [List.length_append, flt_append, flt_one]; exact hr, h.bw.trans (f.below hs (fun k hk e => by have := h.nb k e; omega)), h.ob, fun q hq => ?_, fun q hq e => ?_⟩
  · rcases own q hq with r | r
    · exact h.nb q r
    · exact Nat.le_trans hs r
  · rcases own q e with r | r
    · exact h.ne q hq r
    · have := h.o.lt q hq; omega
end
/-- How long a slice is. -/
def slen : Value → Nat
  | .slice _ n _ => n
  | _ => 0
theorem flt_OP (l : List Op) : flt enO l = flt enP (l.map (fun o => (o.k, o.n))) := by
  induction l with
  | nil => rfl
  | cons p r ih => simp only [flt, List.flatMap_cons, List.map_cons] at ih ⊢; rw [ih]; rfl

set_option linter.unusedVariables false
set_option linter.unusedSimpArgs false
theorem OW.uniq {T U : Type} {en : T → List Value} {sz : Nat} {P : World → U → T → Prop} {bl : T → Nat → Prop} {Z : Nat → Prop} {w : World} {v : Value} {us : List U} {xs : List T} (h : OW en sz P bl Z w v us xs) {x y : T} (hx : x ∈ xs) (hy : y ∈ xs) {k : Nat} (h1 : bl x k) (h2 : bl y k) : x = y := by
  obtain ⟨i, hi, rfl⟩ := List.getElem_of_mem hx
  obtain ⟨j, hj, rfl⟩ := List.getElem_of_mem hy
  by_cases q : i = j
  · subst q; rfl
  · exact absurd h2 (h.ap i j _ _ k q (List.getElem?_eq_getElem hi) (List.getElem?_eq_getElem hj) h1)
theorem OW.mem {T U : Type} {en : T → List Value} {sz : Nat} {P : World → U → T → Prop} {bl : T → Nat → Prop} {Z : Nat → Prop} {w : World} {v : Value} {us : List U} {xs : List T} (h : OW en sz P bl Z w v us xs) {x : T} (hx : x ∈ xs) : (∃ u, P w u x) ∧ ∀ k, bl x k → v.ownBlock ≠ some k := by
  obtain ⟨i, hi, rfl⟩ := List.getElem_of_mem hx
  exact ⟨⟨_, h.el i _ _ (List.getElem?_eq_getElem (by rw [← h.len]; exact hi)) (List.getElem?_eq_getElem hi)⟩, fun k hk => (h.eb i _ k (List.getElem?_eq_getElem hi) hk).2.2⟩
section
variable {w : World} {v : Value} {us : List (List Bk)} {cs : List TC} {Z : Nat → Prop}
theorem vC_nG (h : OWC Z w v us cs) {a : Value} (ha : a ∈ vC cs) {q : Nat} (hq : a.ownBlock = some q) {c' : TC} (hc' : c' ∈ cs) : ¬ blG c' q := fun hg => by
  obtain ⟨c, hc, ha2⟩ := List.mem_flatMap.1 ha
  obtain rfl := h.uniq hc hc' (.inr (vX_bl ha2 hq)) (blG_Cd hg)
  obtain ⟨⟨u, Z', ho⟩, _⟩ := h.mem hc
  obtain ⟨x, hx, ha3⟩ := List.mem_flatMap.1 ha2
  have hbx : blB x q := .inr (.inl (vT_bl ha3 hq))
  rcases hg with hg | ⟨x', hx', hg⟩
  · exact (ho.mem hx).2 q hbx hg
  · obtain rfl := ho.uniq hx hx' hbx (blF_B hg)
    obtain ⟨⟨b, hP⟩, _⟩ := ho.mem hx
    obtain ⟨t, ht, ha4⟩ := List.mem_flatMap.1 ha3
    have hbt := vI_bl ha4 hq
    rcases hg with hg | ⟨t', ht', hg⟩
    · exact (hP.ow.mem ht).2 q hbt hg
    · obtain rfl := hP.ow.uniq ht ht' hbt (.inr (.inl hg))
      obtain ⟨⟨i, hI⟩, _⟩ := hP.ow.mem ht
      rcases List.mem_cons.1 ha4 with rfl | ha5
      · exact hI.ae q hq hg
      · obtain ⟨r, hr, rfl⟩ := List.mem_map.1 ha5
        exact (hI.asp r q hr hq).2 hg
theorem nC_nG (h : OWC Z w v us cs) {a : Value} (ha : a ∈ nC cs) {q : Nat} (hq : a.ownBlock = some q) {c' : TC} (hc' : c' ∈ cs) : ¬ blG c' q := fun hg => by
  obtain ⟨c, hc, ha2⟩ := List.mem_flatMap.1 ha
  obtain rfl := h.uniq hc hc' (.inr (nX_bl ha2 hq)) (blG_Cd hg)
  obtain ⟨⟨u, Z', ho⟩, _⟩ := h.mem hc
  obtain ⟨x, hx, rfl⟩ := List.mem_map.1 ha2
  have hbx : blB x q := .inr (.inr hq)
  rcases hg with hg | ⟨x', hx', hg⟩
  · exact (ho.mem hx).2 q hbx hg
  · obtain rfl := ho.uniq hx hx' hbx (blF_B hg)
    obtain ⟨⟨b, hP⟩, _⟩ := ho.mem hx
    have h1 := hP.nb q hq
    rcases hg with hg | ⟨t', ht', hg⟩
    · exact h1.2.1 hg
    · exact h1.2.2 t' ht' (.inr (.inl hg))
theorem vn_ap (h : OWC Z w v us cs) {a b : Value} (ha : a ∈ vC cs) (hb : b ∈ nC cs) : Ap2 a b := fun q qa qb => by
  obtain ⟨c, hc, ha2⟩ := List.mem_flatMap.1 ha
  obtain ⟨c', hc', hb2⟩ := List.mem_flatMap.1 hb
  obtain rfl := h.uniq hc hc' (.inr (vX_bl ha2 qa)) (.inr (nX_bl hb2 qb))
  obtain ⟨⟨u, Z', ho⟩, _⟩ := h.mem hc
  obtain ⟨x, hx, ha3⟩ := List.mem_flatMap.1 ha2
  obtain ⟨x', hx', rfl⟩ := List.mem_map.1 hb2
  obtain rfl := ho.uniq hx hx' (.inr (.inl (vT_bl ha3 qa))) (.inr (.inr qb))
  obtain ⟨⟨b, hP⟩, _⟩ := ho.mem hx
  obtain ⟨t, ht, hbt⟩ := vT_bl ha3 qa
  exact (hP.nb q qb).2.2 t ht hbt
end
set_option maxRecDepth 100000 in
set_option maxHeartbeats 3200000 in
theorem apartI0 (w0 : World) : Calls Tryd.prog 12 #[.slice none 0 0] w0 fun e w' => e = .returned (.bool true) ∧ Below w0.heap.size w0 w' := by
  have hz0 := hide (Below.refl w0.heap.size w0)
  go_enter Tryd.func12, Tryd.ntmps12
  go_wp2_with fail
  go_loopg [3] 0 (fun g t3 wr => Hid (0 = g) ∧ t3 = .int .i64 0 ∧ Hid (Below w0.heap.size w0 wr))
  case atStart => exact ⟨rfl, rfl, hz0⟩
  case round =>
    clear hz0
    obtain ⟨hi, rfl, hW⟩ := hrel
    go_wp2_with fail
    go_loopg [5, 6] 0 (fun g t5 t6 wr => Hid (0 = g) ∧ t5 = .slice none 0 0 ∧ t6 = .int .i64 0 ∧ Hid (Below w0.heap.size w0 wr))
    case atStart => exact ⟨rfl, rfl, rfl, hW⟩
    case round =>
      clear hW hi
      obtain ⟨hi, rfl, rfl, hW⟩ := hrel
      go_wp2_with fail
      go_loopg [9] 0 (fun g t9 wr => Hid (0 = g) ∧ t9 = .int .i64 0 ∧ Hid (Below w0.heap.size w0 wr))
      case atStart => exact ⟨rfl, rfl, hW⟩
      case round =>
        clear hW hi
        obtain ⟨hi, rfl, hW⟩ := hrel
        go_wp2_with fail
        go_ret
        exact ⟨rfl, unhide hW⟩

set_option linter.unusedVariables false
set_option linter.unusedSimpArgs false
/-- append of one slice onto a list of slices. -/
theorem appV {t te : TypeId} (hund : Tryd.prog.underlying t = some (.slice te)) (hinf : (Tryd.prog.info? te).map (fun i => (i.zero, i.size, i.bytes)) = some (some (.slice none 0 0), 1, 24)) {w : World} {ops : Array Oper} {rest : List Oper} {o : Oper} {a : Act} {Q : Exit → Act → World → Prop}
    (hg : o.guard = none) (s x : Operand) (hop : o.op = Op.call { callee := Callee.builtin Builtin.append, args := #[s, x], argTypes := #[t, t] })
    (v : Value) (l : List Value) (hs : a.eval s = v) (hr : Ro w 1 v l.length (flt enV l)) (ad : Addr) (c : Nat) (p : Value) (hx : a.eval x = .slice (some ad) 1 c) (hc : ∀ j u, (enV p)[j]? = some u → w.cell? (ad.add j) = some u) (h1 : p.oneCell' = true)
    (hn : l.length ≤ 1099511627776)
    (hK : ∀ v' w', Ro w' 1 v' (l.length + 1) (flt enV l ++ enV p) → w.grownBy w' v.ownBlock → (v'.ownBlock = v.ownBlock ∨ v'.ownBlock = some w.heap.size) → wpList Tryd.prog ops Q rest (a.put o.dst v') w') :
    wpList Tryd.prog ops Q (o :: rest) a w := by
  obtain ⟨i0, hi0, hz0, hz1, hz2⟩ := info_parts hinf
  exact wpList_app hg s x t hop te i0 _ 1 24 hund hi0 hz0 hz1 hz2 rfl (by decide) v _ _ hs hr ad 1 c (enV p) hx (by rw [zV]) hc (by intro u hu; simp only [enV, List.mem_cons, List.not_mem_nil, or_false] at hu; rcases hu with rfl; exact h1) (by omega) (by unfold maxLen; omega) (by omega) hK
theorem Ro.cellg {T : Type} {en : T → List Value} {sz : Nat} (hz : ∀ x, (en x).length = sz) {w : World} {g off n cap : Nat} {xs : List T} (h : Ro w sz (.slice (some ⟨g, off, none⟩) n cap) n (flt en xs)) (hl : xs.length = n) {i : Nat} {x : T} (hx : xs[i]? = some x) {c : Nat} {u : Value} (hu : (en x)[c]? = some u) : w.cell? ⟨g, off + i * sz + c, none⟩ = some u := by
  subst hl
  obtain ⟨b, o, cap', e, _, _, _, q⟩ := (Rx.of_ro h).elem hz hx
  cases e
  exact q c u hu
theorem GQ.cell {T : Type} {en : T → List Value} {sz : Nat} (hz : ∀ x, (en x).length = sz) {mk : Nat → T} {cnt tg : Nat} {G : Nat → Nat} {gv : Value} {vals : List Value} {w : World} (h : GQ en sz mk cnt G tg gv vals w) {j : Nat} {u : Value} (hu : vals[j]? = some u) :
    ∃ ga oa ac g o c, gv = .slice (some ⟨ga, oa, none⟩) vals.length ac ∧ vals.length ≤ ac ∧ ac ≤ maxLen ∧ ga < w.heap.size ∧ w.cell? ⟨ga, oa + j, none⟩ = some (.slice (some ⟨g, o, none⟩) cnt c) ∧ cnt ≤ c ∧ c ≤ maxLen ∧ g < w.heap.size ∧ ∀ n, n < cnt → ∀ f z, (en (mk j))[f]? = some z → w.cell? ⟨g, o + n * sz + f, none⟩ = some z := by
  obtain ⟨ga, oa, ac, e1, q1, q2, q3, q4⟩ := (Rx.of_ro h.row).elem zV hu
  obtain ⟨g, o, c, e2, _, hr⟩ := h.el j u hu
  obtain ⟨_, _, e3, c1, c2⟩ := hr.shape
  rw [e2] at e3
  cases e3
  have h0 := q4 0 _ rfl
  rw [Nat.mul_one, Nat.add_zero, e2] at h0
  refine ⟨ga, oa, ac, g, o, _, e1, q1, q2, q3, h0, c1, c2, hr.lt g (by rw [e2]; rfl), fun n hn f z hz2 => ?_⟩
  rw [e2] at hr
  exact hr.cellg hz (by simp) (x := mk j) (by rw [List.getElem?_replicate, if_pos hn]) hz2
theorem fl2 {cs : List TC} {k : Nat} {c : TC} (hc : cs[k]? = some c) : (((cs.take k).flatMap Prod.snd).flatMap Prod.snd).length + (c.2.flatMap Prod.snd).length ≤ ((cs.flatMap Prod.snd).flatMap Prod.snd).length := by
  have h1 : cs.flatMap Prod.snd = (cs.take k).flatMap Prod.snd ++ (c.2 ++ (cs.drop (k + 1)).flatMap Prod.snd) := by
    conv => lhs; rw [← List.take_append_drop k cs, List.drop_eq_getElem_cons (List.getElem?_eq_some_iff.1 hc).1]
    rw [(List.getElem?_eq_some_iff.1 hc).2]
    simp
  rw [h1]
  simp only [List.flatMap_append, List.length_append]
  omega

set_option linter.unusedVariables false
set_option linter.unusedSimpArgs false
/-- The marks. -/
structure Mks where
  p : Nat → Nat → Nat → Int
  n : Nat → Nat → Nat → Int
  c : Nat → Nat → Int
def mkS (m : Mks) (k b i : Nat) (s : Nat) (r : ShR) : ShR := ⟨(k : Int), m.p b i s, r.v⟩
def mkI (m : Mks) (k b : Nat) (i : Nat) (t : TI) : TI := (⟨t.1.op, t.1.code, t.1.dst, t.1.av, t.1.n, t.1.pc, m.n k b i, t.1.ev⟩, t.2.mapIdx (mkS m k b i))
def mkB (m : Mks) (k : Nat) (b : Nat) (x : TB) : TB := (⟨m.c k b, x.1.iv, x.1.nv⟩, x.2.mapIdx (mkI m k b))
def mkC (m : Mks) (k : Nat) (c : TC) : TC := (c.1, c.2.mapIdx (mkB m k))
section
variable {m : Mks}
theorem Ro.cellc {T : Type} {en : T → List Value} {sz : Nat} (hz : ∀ x, (en x).length = sz) {w : World} {g off n cap : Nat} {xs : List T} (h : Ro w sz (.slice (some ⟨g, off, none⟩) n cap) n (flt en xs)) (hl : xs.length = n) {i : Nat} {x : T} (hx : xs[i]? = some x) {c : Nat} {u : Value} (hu : (en x)[c]? = some u) : w.cell? ⟨g, off + i * sz + c, none⟩ = some u := by
  subst hl
  obtain ⟨b, o, cap', e, _, _, _, q⟩ := (Rx.of_ro h).elem hz hx
  cases e
  exact q c u hu
theorem mkI_bl {k b j : Nat} {t : TI} {q : Nat} (h : blE (mkI m k b j t) q) : blE t q := h
theorem mkB_bl {k j : Nat} {x : TB} {q : Nat} (h : blF (mkB m k j x) q) : blF x q := by
  rcases h with h | ⟨t, ht, h⟩
  · exact .inl h
  · obtain ⟨i, hi, rfl⟩ := List.mem_mapIdx.1 ht
    exact .inr ⟨_, List.getElem_mem hi, h⟩
theorem mkC_bl {j : Nat} {c : TC} {q : Nat} (h : blG (mkC m j c) q) : blG c q := by
  rcases h with h | ⟨x, hx, h⟩
  · exact .inl h
  · obtain ⟨i, hi, rfl⟩ := List.mem_mapIdx.1 hx
    exact .inr ⟨_, List.getElem_mem hi, mkB_bl h⟩
theorem mkI_hb (m : Mks) (k b : Nat) : ∀ j x q, blE (mkI m k b j x) q → blE x q := fun _ _ _ h => mkI_bl h
theorem mkB_hb (m : Mks) (k : Nat) : ∀ j x q, blF (mkB m k j x) q → blF x q := fun _ _ _ h => mkB_bl h
theorem mkC_hb (m : Mks) : ∀ j x q, blG (mkC m j x) q → blG x q := fun _ _ _ h => mkC_bl h
theorem mkC_id (m : Mks) (i : Nat) (cs : List TC) : flt enTC (mkU (mkC m) i cs) = flt enTC cs := by
  have : ∀ l : List TC, flt enTC l = flt enC (l.map Prod.fst) := fun l => by
    induction l with
    | nil => rfl
    | cons p r ih => simp only [flt, List.flatMap_cons, List.map_cons] at ih ⊢; rw [ih]; rfl
  rw [this, this]
  congr 1
  refine List.ext_getElem? (fun j => ?_)
  simp only [mkU, List.getElem?_map, List.getElem?_mapIdx]
  cases cs[j]? with
  | none => rfl
  | some c =>
    simp only [Option.map_some, Option.some.injEq]
    by_cases q : j < i
    · rw [if_pos q]; rfl
    · rw [if_neg q]
end

set_option linter.unusedVariables false
set_option linter.unusedSimpArgs false
theorem apI_all {w0 : World} {gO : Value} {vs : List Value} (hr : Ro w0 1 gO vs.length (flt enV vs)) (hro : ∀ a ∈ vs, ∃ l : List Int, l.length ≤ 1048576 ∧ Ro w0 1 a l.length (flt enI l)) (hp : vs.Pairwise Ap2) (hn : ∀ a ∈ vs, ∀ q, a.ownBlock = some q → gO.ownBlock ≠ some q) (hR : vs.length ≤ 3000000) :
    Calls Tryd.prog 12 #[gO] w0 fun e w' => e = .returned (.bool true) ∧ Fr (fun q => ∃ a ∈ vs, a.ownBlock = some q) w0 w' := by
  rcases hr.2 with ⟨e, h0⟩ | ⟨g, off, cap, cur, t, e, hh, h3, h4, h5, h6⟩
  · rw [e]
    exact (apartI0 w0).mono fun e w' ⟨he, hb⟩ => ⟨he, Fr.of_below hb⟩
  · have key : ∀ k, k < vs.length → ∃ a, vs[k]? = some a ∧ (vs[k]?).getD (.slice none 0 0) = a ∧ a ∈ vs := fun k hk => ⟨vs[k], List.getElem?_eq_getElem hk, by simp [hk], List.getElem_mem hk⟩
    have has : ag.AS enI 1 vs.length w0 g off (fun k => (vs[k]?).getD (.slice none 0 0)) (fun k => slen ((vs[k]?).getD (.slice none 0 0))) := by
      refine ⟨fun k hk => ?_, fun k hk => ?_, fun k b hk hb e2 => ?_, fun j j' b hj hj' hjj hb hb2 => ?_, fun k => ?_, hR⟩
      · obtain ⟨a, ha, hd, _⟩ := key k hk
        obtain ⟨b, o, c, e2, _, _, _, q⟩ := (Rx.of_ro hr).elem zV ha
        rw [e] at e2
        cases e2
        have := q 0 _ rfl
        rw [Nat.mul_one, Nat.add_zero] at this
        rw [hd]
        exact this
      · obtain ⟨a, ha, hd, hm⟩ := key k hk
        obtain ⟨l, hl, hl2⟩ := hro a hm
        obtain ⟨va, vc, ev, _⟩ := hl2.shape
        have hs : slen a = l.length := by rw [ev]; rfl
        try dsimp only
        rw [hd, hs]
        exact ⟨l, rfl, hl2⟩
      · obtain ⟨a, ha, hd, hm⟩ := key k hk
        try dsimp only at hb
        rw [hd] at hb
        exact hn a hm b hb (by rw [e, e2]; rfl)
      · obtain ⟨a, ha, hd, hm⟩ := key j hj
        obtain ⟨a', ha', hd', hm'⟩ := key j' hj'
        try dsimp only at hb hb2
        rw [hd] at hb
        rw [hd'] at hb2
        exact pw_at hp (fun _ _ h => h.symm) hjj ha ha' b hb hb2
      · by_cases hk : k < vs.length
        · obtain ⟨a, ha, hd, hm⟩ := key k hk
          obtain ⟨l, hl, hl2⟩ := hro a hm
          obtain ⟨va, vc, ev, _⟩ := hl2.shape
          have hs : slen a = l.length := by rw [ev]; rfl
          try dsimp only
          rw [hd, hs]
          exact hl
        · try dsimp only
          rw [List.getElem?_eq_none (by omega)]
          exact Nat.zero_le _
    rw [e]
    exact (apartI vs.length w0 g off cap _ _ has).mono fun e w' ⟨he, hb⟩ => ⟨he, hb.mono (fun q _ ⟨j, hj, hq⟩ => by
      obtain ⟨a, ha, hd, hm⟩ := key j hj
      try dsimp only at hq
      rw [hd] at hq
      exact ⟨a, hm, hq⟩)⟩
/-- Marks change no length. -/
theorem fm_len {A C : Type} (f : A → List C) (l : List A) : (l.flatMap f).length = (l.map (fun x => (f x).length)).sum := by simp
theorem mapIdx_sum {A : Type} (g : Nat → A → A) (f : A → Nat) (hg : ∀ i x, f (g i x) = f x) (l : List A) : ((l.mapIdx g).map f).sum = (l.map f).sum := by
  congr 1
  refine List.ext_getElem? (fun j => ?_)
  simp only [List.getElem?_map, List.getElem?_mapIdx]
  cases l[j]? with
  | none => rfl
  | some x => simp [hg]
theorem mk_lenI (m : Mks) (cs : List TC) : ((cs.mapIdx (mkC m)).flatMap Prod.snd).length = (cs.flatMap Prod.snd).length := by
  rw [fm_len, fm_len]
  exact mapIdx_sum _ _ (fun i c => by simp [mkC]) cs
theorem mk_lenE (m : Mks) (cs : List TC) : (((cs.mapIdx (mkC m)).flatMap Prod.snd).flatMap Prod.snd).length = ((cs.flatMap Prod.snd).flatMap Prod.snd).length := by
  rw [List.flatMap_assoc, List.flatMap_assoc, fm_len, fm_len]
  refine mapIdx_sum _ _ (fun i c => ?_) cs
  simp only [mkC]
  rw [fm_len, fm_len]
  exact mapIdx_sum _ _ (fun i x => by simp [mkB]) c.2
theorem mk_lenS (m : Mks) {cs : List TC} {n : Nat} (h : ∀ c ∈ cs, ∀ x ∈ c.2, ∀ t ∈ x.2, t.2.length ≤ n) : ∀ c ∈ cs.mapIdx (mkC m), ∀ x ∈ c.2, ∀ t ∈ x.2, t.2.length ≤ n := fun c hc x hx t ht => by
  obtain ⟨i, hi, rfl⟩ := List.mem_mapIdx.1 hc
  obtain ⟨j, hj, rfl⟩ := List.mem_mapIdx.1 hx
  obtain ⟨k, hk, rfl⟩ := List.mem_mapIdx.1 ht
  simp only [mkI, List.length_mapIdx]
  exact h _ (List.getElem_mem hi) _ (List.getElem_mem hj) _ (List.getElem_mem hk)
theorem vC_len (cs : List TC) : ((cs.flatMap Prod.snd).flatMap Prod.snd).length ≤ (vC cs).length ∧ (cs.flatMap Prod.snd).length = (nC cs).length ∧ ∀ c ∈ cs, ∀ x ∈ c.2, ∀ t ∈ x.2, t.2.length ≤ (vC cs).length := by
  refine ⟨?_, ?_, fun c hc x hx t ht => ?_⟩
  · induction cs with
    | nil => simp [vC]
    | cons c r ih =>
      simp only [vC, List.flatMap_cons, List.flatMap_append, List.length_append] at ih ⊢
      have h2 : ∀ X : List TB, (X.flatMap Prod.snd).length ≤ (vX X).length := fun X => by
        induction X with
        | nil => simp [vX]
        | cons x r ih =>
          simp only [vX, List.flatMap_cons, List.length_append] at ih ⊢
          have h3 : ∀ l : List TI, l.length ≤ (vT l).length := fun l => by
            induction l with
            | nil => simp [vT]
            | cons t r ih => simp only [vT, List.flatMap_cons, List.length_append, List.length_cons, vI] at ih ⊢; omega
          have := h3 x.2
          omega
      have := h2 c.2
      omega
  · simp [nC, nX, fm_len]
  · have h1 : (vI t).length ≤ (vC cs).length := by
      have e : vC cs = cs.flatMap (fun c => c.2.flatMap (fun x => x.2.flatMap vI)) := rfl
      have key : ∀ {A C : Type} (f : A → List C) (l : List A) (a : A), a ∈ l → (f a).length ≤ (l.flatMap f).length := fun f l a ha => by
        induction l with
        | nil => cases ha
        | cons b r ih =>
          rw [List.flatMap_cons, List.length_append]
          rcases List.mem_cons.1 ha with rfl | ha
          · omega
          · have := ih ha; omega
      rw [e]
      exact Nat.le_trans (Nat.le_trans (key vI x.2 t ht) (key (fun x : TB => x.2.flatMap vI) c.2 x hx)) (key (fun c : TC => c.2.flatMap (fun x => x.2.flatMap vI)) cs c hc)
    have : t.2.length ≤ (vI t).length := by simp [vI]
    omega

set_option linter.unusedVariables false
set_option linter.unusedSimpArgs false
theorem vT_len {w : World} {v : Value} {us : List RIn} {ts : List TI} {Z : Nat → Prop} (h : OW enT 8 InT blT Z w v us ts) : (vT ts).length = inW us := by
  have e : ts.map (fun t => (vI t).length) = us.map (fun x => 1 + x.ex.length) := by
    refine List.ext_getElem? (fun i => ?_)
    rw [List.getElem?_map, List.getElem?_map]
    by_cases hi : i < us.length
    · have hu : us[i]? = some us[i] := List.getElem?_eq_getElem hi
      have ht : ts[i]? = some (ts[i]'(by rw [h.len]; exact hi)) := List.getElem?_eq_getElem _
      have := (h.el i _ _ hu ht).len
      rw [hu, ht]
      simp only [Option.map_some, Option.some.injEq, vI, List.length_cons, List.length_map]
      omega
    · rw [show us[i]? = none from List.getElem?_eq_none (Nat.le_of_not_lt hi), show ts[i]? = none from List.getElem?_eq_none (by rw [h.len]; exact Nat.le_of_not_lt hi)]
      rfl
  rw [vT, List.length_flatMap, e]
  rfl
theorem vX_len {b : Nat} {w : World} {v : Value} {us : List Bk} {X : List TB} {Z : Nat → Prop} (h : OW enTB 3 (PB b) blB Z w v us X) : (vX X).length = bkW us ∧ (nX X).length = us.length := by
  have e : X.map (fun x => (vT x.2).length) = us.map (fun b => inW b.ins) := by
    refine List.ext_getElem? (fun i => ?_)
    rw [List.getElem?_map, List.getElem?_map]
    by_cases hi : i < us.length
    · have hu : us[i]? = some us[i] := List.getElem?_eq_getElem hi
      have ht : X[i]? = some (X[i]'(by rw [h.len]; exact hi)) := List.getElem?_eq_getElem _
      rw [hu, ht]
      simp only [Option.map_some, Option.some.injEq]
      exact vT_len (h.el i _ _ hu ht).ow
    · rw [show us[i]? = none from List.getElem?_eq_none (Nat.le_of_not_lt hi), show X[i]? = none from List.getElem?_eq_none (by rw [h.len]; exact Nat.le_of_not_lt hi)]
      rfl
  refine ⟨?_, by rw [nX, List.length_map, h.len]⟩
  rw [vX, List.length_flatMap, e]
  rfl
theorem inW_one (l : List RIn) (x : RIn) : inW (l ++ [x]) = inW l + (1 + x.ex.length) := by simp [inW]
theorem bkI_W (bl : List Bk) : bkI bl ≤ bkW bl := by
  have h1 : ∀ l : List RIn, l.length ≤ inW l := fun l => by
    induction l with
    | nil => simp
    | cons x r ih => simp only [inW, List.map_cons, List.sum_cons, List.length_cons] at ih ⊢; omega
  induction bl with
  | nil => simp [bkW, bkI]
  | cons b r ih =>
    have := h1 b.ins
    simp only [bkW, bkI, List.map_cons, List.sum_cons] at ih ⊢
    omega

set_option linter.unusedVariables false
set_option linter.unusedSimpArgs false
theorem Rd.all {D : Nat → Prop} {w : World} {sz : Nat} {v : Value} {n : Nat} {xs : List Value} (h : Rx w sz v n xs) (hD : ∀ k, D k) : Rd D w sz v n xs := ⟨h, fun _ k _ => hD k⟩
theorem NV.of_ow {T U R : Type} {en : T → List Value} {er : R → List Value} {sz : Nat} {P : World → U → T → Prop} {bl : T → Nat → Prop} {Z D : Nat → Prop} {Q : (Nat → Prop) → World → U → R → Prop} (g : T → R) (hg : ∀ t, en t = er (g t)) {w : World} {v : Value} {us : List U} {xs : List T} (h : OW en sz P bl Z w v us xs) (hD : ∀ k, D k) (hp : ∀ u x, P w u x → Q D w u (g x)) : NV er sz Q D w us v := by
  refine ⟨xs.map g, by rw [List.length_map]; exact h.len, Rd.all ?_ hD, fun i u r hu hr => ?_⟩
  · have e : flt er (xs.map g) = flt en xs := by
      simp only [flt, List.flatMap_map]
      congr 1
      funext t
      exact (hg t).symm
    rw [e]
    exact Rx.of_ro h.row
  · rw [List.getElem?_map] at hr
    cases hx : xs[i]? with
    | none => rw [hx] at hr; cases hr
    | some t =>
      rw [hx] at hr
      cases hr
      exact hp u t (h.el i u t hu hx)
def Tr : Nat → Prop := fun _ => True
theorem InsV.of_ow {Z : Nat → Prop} {w : World} {v : Value} {us : List RIn} {ts : List TI} (h : OW enT 8 InT blT Z w v us ts) : InsV Tr w us v :=
  NV.of_ow (D := Tr) Prod.fst (fun _ => rfl) h (fun _ => trivial) (fun u x hp => InP.mv.wide hp.inP (fun _ _ _ => trivial))
theorem BksV.of_ow {b : Nat} {Z : Nat → Prop} {w : World} {v : Value} {bl : List Bk} {Ts : List TB} (h : OW enTB 3 (PB b) blB Z w v bl Ts) : BksV Tr w bl v :=
  NV.of_ow (D := Tr) Prod.fst (fun _ => rfl) h (fun _ => trivial) (fun u x hp => ⟨hp.pc, InsV.of_ow hp.ow, Rd.all (Rx.of_ro hp.nx) (fun _ => trivial)⟩)

theorem BksV.bound {D : Nat → Prop} {w : World} {l : List Bk} {v : Value} (h : BksV D w l v) (n : Nat) (hn : w.heap.size ≤ n) : BksV (fun k => D k ∧ k < n) w l v :=
  BksV.mv _ _ (fun _ => False) _ _ _ _ h (Fr.refl _ w) (fun k hk e => ⟨fun q => q, e, by omega⟩)
theorem OkB.s {b : Bk} (h : OkB b) : OkS b := ⟨h.2.1, h.2.2.1, h.2.2.2⟩
theorem OkB.l {b : Bk} (h : OkB b) : OkL b := ⟨h.2.1, h.2.2.1, h.2.2.2⟩
theorem kepL_le (S : Rset) : ∀ l : List RIn, (kepL S l).length ≤ l.length ∧ inW (kepL S l) ≤ inW l
  | [] => ⟨Nat.le_refl _, Nat.le_refl _⟩
  | x :: l => by
    obtain ⟨h1, h2⟩ := kepL_le S l
    unfold kepL
    split
    · refine ⟨Nat.le_trans h1 (by simp), ?_⟩
      simp only [inW, List.map_cons, List.sum_cons] at h2 ⊢
      omega
    · refine ⟨by simp only [List.length_cons]; omega, ?_⟩
      simp only [inW, List.map_cons, List.sum_cons] at h2 ⊢
      omega
theorem OkB.kep {bl : List Bk} {b : Nat} {u : Bk} (h : OkB u) : OkB (kepB bl b u) := by
  obtain ⟨h1, h2, h3, h4⟩ := h
  exact ⟨fun x hx => h1 x (kepL_mem hx), Nat.le_trans (kepL_le _ u.ins).1 h2, h3, fun x hx => h4 x (kepL_mem hx)⟩
theorem kepC_ok {bl : List Bk} (h : ∀ b ∈ bl, OkB b) : ∀ b ∈ kepC bl, OkB b := fun b hb => by
  obtain ⟨i, hi, rfl⟩ := List.getElem_of_mem hb
  have hil : i < bl.length := by rw [kepC_len] at hi; exact hi
  have q := kepC_at (List.getElem?_eq_getElem hil)
  rw [List.getElem?_eq_getElem hi] at q
  rw [Option.some.inj q]
  exact (h _ (List.getElem_mem hil)).kep (bl := bl) (b := i)
theorem bkW_map : ∀ (bl : List Bk) (f : Nat → Bk → Bk), (∀ i b, inW (f i b).ins ≤ inW b.ins) → bkW (bl.mapIdx f) ≤ bkW bl
  | [], f, h => by simp [bkW]
  | b :: r, f, h => by
    have ih := bkW_map r (fun i => f (i + 1)) (fun i b => h (i + 1) b)
    have h0 := h 0 b
    rw [List.mapIdx_cons]
    simp only [bkW, List.map_cons, List.sum_cons] at ih ⊢
    omega
theorem kepC_W (bl : List Bk) : bkW (kepC bl) ≤ bkW bl := bkW_map bl _ (fun i b => (kepL_le _ b.ins).2)
theorem AnsC.at {w w' : World} {fn regs : Int} {bl : List Bk} {e : Ending} (h : AnsC w fn regs bl e w') : ∃ a c Ts, e = .returned (.agg #[.int .i64 fn, .int .i64 regs, .slice a bl.length c]) ∧ bl.length ≤ c ∧ c ≤ 9223372036854775807 ∧ Below w.heap.size w w' ∧ OW enTB 3 (PB 0) blB (fun k => w.heap.size ≤ k) w' (.slice a bl.length c) bl Ts := by
  obtain ⟨v, Ts, rfl, hb, ho⟩ := h
  obtain ⟨a, c, rfl, h1, h2⟩ := ho.row.shape
  exact ⟨a, c, Ts, rfl, h1, h2, hb, ho⟩
/-- Two codes in a row. -/
theorem twoC {WE WZ : World} {fn regs : Int} {a1 a2 : Option Addr} {c1 c2 L : Nat} {ul : List Bk} {T1 T2 : List TB} {B1 : Nat} {Z1 Z2 : Nat → Prop} (hxz : WZ.heap[WE.heap.size]? = some (.cells #[.int .i64 fn, .int .i64 regs, .slice a1 L c1, .int .i64 fn, .int .i64 regs, .slice a2 L c2] 24))
    (h1 : OW enTB 3 (PB 0) blB Z1 WZ (.slice a1 L c1) ul T1) (h2 : OW enTB 3 (PB 0) blB Z2 WZ (.slice a2 L c2) ul T2) (hb1 : ∀ q, ((Value.slice a1 L c1).ownBlock = some q ∨ ∃ x ∈ T1, blB x q) → q < B1) (hb2 : ∀ q, ((Value.slice a2 L c2).ownBlock = some q ∨ ∃ x ∈ T2, blB x q) → B1 ≤ q ∧ q < WE.heap.size) (hB : B1 ≤ WE.heap.size) :
    OWC (fun _ => True) WZ (.slice (some ⟨WE.heap.size, 0, none⟩) [((⟨fn, regs, .slice a1 L c1⟩ : CdR), T1), ((⟨fn, regs, .slice a2 L c2⟩ : CdR), T2)].length 2) [ul, ul] [((⟨fn, regs, .slice a1 L c1⟩ : CdR), T1), ((⟨fn, regs, .slice a2 L c2⟩ : CdR), T2)] := by
  have hbd1 : ∀ q, blCd ((⟨fn, regs, .slice a1 L c1⟩ : CdR), T1) q → q < B1 := fun q hq => hb1 q hq
  have hbd2 : ∀ q, blCd ((⟨fn, regs, .slice a2 L c2⟩ : CdR), T2) q → B1 ≤ q ∧ q < WE.heap.size := fun q hq => hb2 q hq
  have hsZ : WE.heap.size < WZ.heap.size := (blk_cells hxz).2.2
  refine ⟨rfl, ⟨rfl, .inr ⟨WE.heap.size, 0, 2, _, 24, rfl, hxz, Nat.le_refl _, by unfold maxLen; omega, Nat.le_refl _, fun j hj => ?_⟩⟩, fun _ _ => trivial, fun i u x hu hx => ?_, fun i x k hx hk => ?_, fun i j x y k hij hx hy hk hk2 => ?_⟩
  · match j, hj with
    | 0, _ => rfl
    | 1, _ => rfl
    | 2, _ => rfl
    | 3, _ => rfl
    | 4, _ => rfl
    | 5, _ => rfl
  · match i, hu, hx with
    | 0, hu, hx => simp at hu hx; subst hu hx; exact ⟨_, h1⟩
    | 1, hu, hx => simp at hu hx; subst hu hx; exact ⟨_, h2⟩
    | (n + 2), hu, hx => simp at hu
  · have h1 : k < WE.heap.size := by
      match i, hx with
      | 0, hx => simp at hx; subst hx; have := hbd1 k hk; omega
      | 1, hx => simp at hx; subst hx; exact (hbd2 k hk).2
      | (n + 2), hx => simp at hx
    refine ⟨trivial, by omega, fun e => ?_⟩
    have e' : WE.heap.size = k := by cases e; rfl
    omega
  · match i, j, hij, hx, hy with
    | 0, 0, hij, _, _ => exact hij rfl
    | 1, 1, hij, _, _ => exact hij rfl
    | 0, 1, _, hx, hy => simp at hx hy; subst hx hy; have := hbd1 k hk; have := hbd2 k hk2; omega
    | 1, 0, _, hx, hy => simp at hx hy; subst hx hy; have := hbd2 k hk; have := hbd1 k hk2; omega
    | (n + 2), _, _, hx, _ => simp at hx
    | 0, (n + 2), _, _, hy => simp at hy
    | 1, (n + 2), _, _, hy => simp at hy

set_option linter.unusedVariables false
set_option linter.unusedSimpArgs false

structure LmS (w : World) (cs : List (Nat × Array Value × TypeId)) (bl kl : List Bk) (B : Nat) (cv wv iv : Value) (V : World) : Prop where
  bx : BX w cs V
  c : BksV (fun k => k < B) V bl cv
  wt : BksV (fun k => k < B) V kl wv
  i : BksV (fun k => k < B) V bl iv
theorem LmS.on {w : World} {cs : List (Nat × Array Value × TypeId)} {bl kl : List Bk} {B : Nat} {cv wv iv : Value} {V V' : World} (h : LmS w cs bl kl B cv wv iv V) (b : Below V.heap.size V V') : LmS w cs bl kl B cv wv iv V' :=
  ⟨h.bx.go b, BksV.mv.bel h.c b, BksV.mv.bel h.wt b, BksV.mv.bel h.i b⟩
theorem LmS.fr {w : World} {cs : List (Nat × Array Value × TypeId)} {bl kl : List Bk} {B : Nat} {cv wv iv : Value} {V V' : World} {Q : Nat → Prop} (h : LmS w cs bl kl B cv wv iv V) (f : Fr Q V V') (hw : w.heap.size ≤ B) (hq : ∀ k, k < B → ¬ Q k) (hc : ∀ (i : Nat) (e : Nat × Array Value × TypeId), cs[i]? = some e → ¬ Q e.1) : LmS w cs bl kl B cv wv iv V' :=
  ⟨h.bx.fr f hc (fun b hb => hq b (by omega)), BksV.mv _ _ _ _ _ _ _ h.c f (fun k _ hk => ⟨hq k hk, hk⟩), BksV.mv _ _ _ _ _ _ _ h.wt f (fun k _ hk => ⟨hq k hk, hk⟩), BksV.mv _ _ _ _ _ _ _ h.i f (fun k _ hk => ⟨hq k hk, hk⟩)⟩
theorem BksV.lt {D : Nat → Prop} {w : World} {l : List Bk} {v : Value} (h : BksV D w l v) (n : Nat) (hn : w.heap.size ≤ n) : BksV (fun k => k < n) w l v :=
  BksV.mv _ _ (fun _ => False) _ _ _ _ h (Fr.refl _ w) (fun k hk e => ⟨fun q => q, by omega⟩)

set_option linter.unusedVariables false
set_option linter.unusedSimpArgs false

def putX (w : World) (g p : Nat) (r : InR) : World := (((((((w.setCell ⟨g, p, none⟩ (.int .i64 r.op)).setCell ⟨g, p + 1, none⟩ (.int .i64 r.code)).setCell ⟨g, p + 2, none⟩ (.int .i64 r.dst)).setCell ⟨g, p + 3, none⟩ r.av).setCell ⟨g, p + 4, none⟩ (.int .i64 r.n)).setCell ⟨g, p + 5, none⟩ (.int .i64 r.pc)).setCell ⟨g, p + 6, none⟩ (.int .i64 r.need)).setCell ⟨g, p + 7, none⟩ r.ev
theorem putX_fr (w : World) (g p : Nat) (r : InR) : Fr (fun q => q = g) w (putX w g p r) := by
  unfold putX
  exact Fr.setCell (S := fun q => q = g) (Fr.setCell (S := fun q => q = g) (Fr.setCell (S := fun q => q = g) (Fr.setCell (S := fun q => q = g) (Fr.setCell (S := fun q => q = g) (Fr.setCell (S := fun q => q = g) (Fr.setCell (S := fun q => q = g) (Fr.setCell (S := fun q => q = g) (Fr.refl _ w) ⟨g, p, none⟩ (.inr rfl) _) ⟨g, p + 1, none⟩ (.inr rfl) _) ⟨g, p + 2, none⟩ (.inr rfl) _) ⟨g, p + 3, none⟩ (.inr rfl) _) ⟨g, p + 4, none⟩ (.inr rfl) _) ⟨g, p + 5, none⟩ (.inr rfl) _) ⟨g, p + 6, none⟩ (.inr rfl) _) ⟨g, p + 7, none⟩ (.inr rfl) _
theorem Ro.putI {w : World} {v : Value} {n g off cap k : Nat} {ts : List TI} {t0 : TI} (h : Ro w 8 v n (flt enT ts)) (e : v = .slice (some ⟨g, off, none⟩) n cap) (hk : ts[k]? = some t0) (t : TI) :
    Ro (putX w g (off + k * 8) t.1) 8 v n (flt enT (ts.set k t)) := by
  have hkl := (List.getElem?_eq_some_iff.1 hk).1
  have hs : ∀ a : TI, (ts.set k a)[k]? = some a := fun a => List.getElem?_set_self hkl
  obtain ⟨⟨q0, q1, q2, q3, q4, q5, q6, q7⟩, l0⟩ := t0
  obtain ⟨⟨r0, r1, r2, r3, r4, r5, r6, r7⟩, l1⟩ := t
  have h0 := (h.put1 zT e (c := 0) (x' := ((⟨r0, q1, q2, q3, q4, q5, q6, q7⟩, l1) : TI)) (u := .int .i64 r0) hk (by omega) rfl).1
  have h1 := (h0.put1 zT e (c := 1) (x' := ((⟨r0, r1, q2, q3, q4, q5, q6, q7⟩, l1) : TI)) (u := .int .i64 r1) (hs _) (by omega) rfl).1
  rw [List.set_set] at h1
  have h2 := (h1.put1 zT e (c := 2) (x' := ((⟨r0, r1, r2, q3, q4, q5, q6, q7⟩, l1) : TI)) (u := .int .i64 r2) (hs _) (by omega) rfl).1
  rw [List.set_set] at h2
  have h3 := (h2.put1 zT e (c := 3) (x' := ((⟨r0, r1, r2, r3, q4, q5, q6, q7⟩, l1) : TI)) (u := r3) (hs _) (by omega) rfl).1
  rw [List.set_set] at h3
  have h4 := (h3.put1 zT e (c := 4) (x' := ((⟨r0, r1, r2, r3, r4, q5, q6, q7⟩, l1) : TI)) (u := .int .i64 r4) (hs _) (by omega) rfl).1
  rw [List.set_set] at h4
  have h5 := (h4.put1 zT e (c := 5) (x' := ((⟨r0, r1, r2, r3, r4, r5, q6, q7⟩, l1) : TI)) (u := .int .i64 r5) (hs _) (by omega) rfl).1
  rw [List.set_set] at h5
  have h6 := (h5.put1 zT e (c := 6) (x' := ((⟨r0, r1, r2, r3, r4, r5, r6, q7⟩, l1) : TI)) (u := .int .i64 r6) (hs _) (by omega) rfl).1
  rw [List.set_set] at h6
  have h7 := (h6.put1 zT e (c := 7) (x' := ((⟨r0, r1, r2, r3, r4, r5, r6, r7⟩, l1) : TI)) (u := r7) (hs _) (by omega) rfl).1
  rw [List.set_set] at h7
  exact h7
theorem flt_same {T : Type} {en : T → List Value} {xs : List T} {i : Nat} {x x' : T} (hx : xs[i]? = some x) (he : en x' = en x) : flt en (xs.set i x') = flt en xs := by
  have hi := (List.getElem?_eq_some_iff.1 hx).1
  have e : (xs.set i x').map en = xs.map en := by
    refine List.ext_getElem? (fun j => ?_)
    rw [List.getElem?_map, List.getElem?_map]
    by_cases q : i = j
    · subst q
      rw [List.getElem?_set_self hi, hx]
      simp [he]
    · rw [List.getElem?_set_ne q]
  unfold flt
  rw [List.flatMap_def, List.flatMap_def, e]
theorem CiT.put {W W1 : World} {b : Nat} {Z : Nat → Prop} {v : Value} {us : List Bk} {XD : List TB} {i k g off cap : Nat} {u : Bk} {x : TB} {y0 y : RIn} {r : InR} (h : OW enTB 3 (PB b) blB Z W v us XD) (hu : us[i]? = some u) (hx : XD[i]? = some x) (hk : u.ins[k]? = some y0) (hc : CiT W y r W1) (hZ : ∀ q, W.heap.size ≤ q → Z q) (hbW : b < W.heap.size) (e : x.1.iv = .slice (some ⟨g, off, none⟩) u.ins.length cap) :
    ∃ t2, OW enTB 3 (PB b) blB Z (putX W1 g (off + k * 8) r) v (us.set i ⟨u.pc, u.ins.set k y, u.nx⟩) (XD.set i (x.1, t2)) := by
  obtain ⟨t, rfl, hb, hI, hbl⟩ := hc
  have h1 := h.below (stayB b) hb
  have hP0 := h.el i u x hu hx
  have hP := h1.el i u x hu hx
  have s1 := hb.size
  have f := putX_fr W1 g (off + k * 8) t.1
  have sf := f.size
  have hkl := (List.getElem?_eq_some_iff.1 hk).1
  obtain ⟨t0, ht0⟩ : ∃ t0, x.2[k]? = some t0 := ⟨_, List.getElem?_eq_getElem (by rw [hP.ow.len]; exact hkl)⟩
  have hgo : x.1.iv.ownBlock = some g := by rw [e]; rfl
  have hgW : g < W.heap.size := hP0.ow.row.lt g hgo
  have hxW : ∀ q, blB x q → Z q ∧ q < W.heap.size ∧ v.ownBlock ≠ some q := fun q hq => h.eb i x q hx hq
  have hset : ∀ z ∈ x.2.set k t, z ∈ x.2 ∨ z = t := fun z hz => List.mem_or_eq_of_mem_set hz
  have inner : OW enT 8 InT blT (fun q => b < q) (putX W1 g (off + k * 8) t.1) x.1.iv (u.ins.set k y) (x.2.set k t) := by
    refine OW.setX stayT hP.ow ht0 f (fun q hq => .inl (by have e' : q = g := hq; rw [e']; exact hgo)) (Ro.putI hP.ow.row e ht0 t) (stayT _ _ _ _ _ hI f (fun q hq e2 => by have := hbl q hq; have e' : q = g := e2; omega)) (fun q hq => ?_) (fun j z q hj hz hq hq2 => ?_)
    · have a := hbl q hq
      have a2 := hI.lt hq
      exact ⟨by show b < q; omega, by omega, fun e2 => by rw [hgo] at e2; cases e2; omega⟩
    · have a := hbl q hq
      have a2 := (hP0.ow.eb j z q hz hq2).2.1
      omega
  refine ⟨x.2.set k t, OW.setX (stayB b) h1 hx f (fun q hq => .inr (.inl (by have e' : q = g := hq; rw [e']; exact hgo))) ?_ ⟨hP.pc, inner, hP.nx.fr f (fun q hq e2 => by have e' : q = g := e2; subst e'; exact (hP.nb q hq).2.1 hgo), fun q hq => ⟨(hP.nb q hq).1, (hP.nb q hq).2.1, fun z hz e2 => ?_⟩⟩ (fun q hq => ?_) (fun j z q hj hz hq hq2 => ?_)⟩
  · rw [flt_same hx (x' := (x.1, x.2.set k t)) rfl]
    exact h1.row.fr f (fun q hq e2 => by have e' : q = g := e2; subst e'; exact (hxW q (.inl hgo)).2.2 hq)
  · rcases hset z hz with r1 | r1
    · exact (hP.nb q hq).2.2 z r1 e2
    · subst r1
      have a := hbl q e2
      have a2 := (hxW q (.inr (.inr hq))).2.1
      omega
  · rcases hq with q1 | ⟨z, hz, q1⟩ | q1
    · have a := hxW q (.inl q1)
      exact ⟨a.1, by omega, a.2.2⟩
    · rcases hset z hz with r1 | r1
      · have a := hxW q (.inr (.inl ⟨z, r1, q1⟩))
        exact ⟨a.1, by omega, a.2.2⟩
      · subst r1
        have a := hbl q q1
        have a2 := hI.lt q1
        exact ⟨hZ q a, by omega, fun e2 => by have := h.row.lt q e2; omega⟩
    · have a := hxW q (.inr (.inr q1))
      exact ⟨a.1, by omega, a.2.2⟩
  · rcases hq with q1 | ⟨z2, hz2, q1⟩ | q1
    · exact h.ap i j x z q (fun e2 => hj e2.symm) hx hz (.inl q1) hq2
    · rcases hset z2 hz2 with r1 | r1
      · exact h.ap i j x z q (fun e2 => hj e2.symm) hx hz (.inr (.inl ⟨z2, r1, q1⟩)) hq2
      · subst r1
        have a := hbl q q1
        have a2 := (h.eb j z q hz hq2).2.1
        omega
    · exact h.ap i j x z q (fun e2 => hj e2.symm) hx hz (.inr (.inr q1)) hq2
/-- While instructions are written into a code of one's own. -/
structure SW (b L lo hi : Nat) (bl : List Bk) (v : Value) (WB : World) (us : List Bk) (XD : List TB) (W : World) : Prop where
  fr : Fr (fun q => lo ≤ q ∧ q < hi) WB W
  ow : OW enTB 3 (PB b) blB (fun q => lo ≤ q) W v us XD
  iv : ∀ x ∈ XD, ∀ q, x.1.iv.ownBlock = some q → lo ≤ q ∧ q < hi
  len : us.length = L
  ok : ∀ u ∈ us, OkL u
  same : ∀ (i : Nat) (u : Bk), us[i]? = some u → ∃ u0, bl[i]? = some u0 ∧ u.ins.length = u0.ins.length
theorem SW.on {b L lo hi : Nat} {bl : List Bk} {v : Value} {WB W W2 : World} {us : List Bk} {XD : List TB} (h : SW b L lo hi bl v WB us XD W) (k : Below W.heap.size W W2) : SW b L lo hi bl v WB us XD W2 :=
  ⟨h.fr.trx (Fr.of_below (S := fun _ => False) k) (fun _ _ e => e.elim), h.ow.below (stayB b) k, h.iv, h.len, h.ok, h.same⟩
theorem SW.put {b L lo hi : Nat} {bl : List Bk} {v : Value} {WB W W1 : World} {us : List Bk} {XD : List TB} (h : SW b L lo hi bl v WB us XD W) {i k g off cap : Nat} {u : Bk} {x : TB} {y0 y : RIn} {r : InR} (hu : us[i]? = some u) (hx : XD[i]? = some x) (hk : u.ins[k]? = some y0) (hc : CiT W y r W1) (hbW : b < W.heap.size) (hlo : lo ≤ W.heap.size) (e : x.1.iv = .slice (some ⟨g, off, none⟩) u.ins.length cap) (hy : y.args.length ≤ 1048576 ∧ y.ex.length ≤ 1048576 ∧ ∀ s ∈ y.ex, s.sl.length ≤ 1048576) :
    ∃ us' XD', SW b L lo hi bl v WB us' XD' (putX W1 g (off + k * 8) r) := by
  obtain ⟨t2, ho⟩ := CiT.put h.ow hu hx hk hc (fun q hq => by show lo ≤ q; omega) hbW e
  have hb := hc.bel
  have hgo : x.1.iv.ownBlock = some g := by rw [e]; rfl
  have hgi := h.iv x (List.mem_of_getElem? hx) g hgo
  refine ⟨_, _, ?_, ho, fun z hz q hq => ?_, by rw [List.length_set]; exact h.len, fun z hz => ?_, fun j z hz => ?_⟩
  · exact (h.fr.trx (Fr.of_below (S := fun _ => False) hb) (fun _ _ e => e.elim)).trx (putX_fr W1 g (off + k * 8) r) (fun q _ e2 => by have e' : q = g := e2; subst e'; exact hgi)
  · rcases List.mem_or_eq_of_mem_set hz with r1 | r1
    · exact h.iv z r1 q hq
    · subst r1
      exact h.iv x (List.mem_of_getElem? hx) q hq
  · rcases List.mem_or_eq_of_mem_set hz with r1 | r1
    · exact h.ok z r1
    · subst r1
      obtain ⟨o1, o2, o3⟩ := h.ok u (List.mem_of_getElem? hu)
      refine ⟨by simpa using o1, o2, fun z hz => ?_⟩
      rcases List.mem_or_eq_of_mem_set hz with r2 | r2
      · exact o3 z r2
      · subst r2; exact hy
  · by_cases q : i = j
    · subst q
      rw [List.getElem?_set_self (List.getElem?_eq_some_iff.1 hu).1] at hz
      cases hz
      obtain ⟨u0, h1, h2⟩ := h.same i u hu
      exact ⟨u0, h1, by simpa using h2⟩
    · rw [List.getElem?_set_ne q] at hz
      exact h.same j z hz
end Go.Proofs.YtpbdmbmafjkinaaDoor
