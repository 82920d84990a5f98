/-
  apartGrown: every list of codes of one's own is grown by marks of its own, and all marks are found again.
-/
import Derived.Test.YtpbdpejhjdoleaaLo
import Derived.Test.YtpbdpejhjdoleaaApO
namespace Go.Proofs.Ytpbdpejhjdoleaa
open Go.RowKit
set_option linter.unusedVariables false
set_option linter.unusedSimpArgs false
section
variable {T : Type} {en : T → List Value} {sz : Nat}
theorem rep_take (z : T) (xs : List T) (m : Nat) : (xs ++ List.replicate m z).take xs.length = xs := by simp
theorem rep_succ (z : T) (xs : List T) (m : Nat) : xs ++ List.replicate (m + 1) z = xs ++ List.replicate m z ++ [z] := by rw [List.append_assoc, ← List.replicate_succ']
/-- A row that grows: m marks lie behind it. -/
structure GR (en : T → List Value) (sz : Nat) (z : T) (Wg : World) (v : Value) (xs : List T) (m : Nat) (hv : Value) (w : World) : Prop where
  hr : Ro w sz hv (xs.length + m) (flt en (xs ++ List.replicate m z))
  vr : Ro w sz v xs.length (flt en xs)
  fr : Fr (fun q => v.ownBlock = some q) Wg w
  rel : Rl Wg v xs.length m hv
variable {Wg w : World} {v hv : Value} {xs : List T} {m : Nat} {z : T}
theorem GR.start (h : Ro Wg sz v xs.length (flt en xs)) : GR en sz z Wg v xs 0 v Wg := ⟨by simpa using h, h, Fr.refl _ _, .inl ⟨rfl, rfl⟩⟩
theorem GR.step (hz : ∀ x, (en x).length = sz) {w' : World} {v' : Value} {X : Obj} (h : GR en sz z Wg v xs m hv w) (hvl : ∀ q, v.ownBlock = some q → q < Wg.heap.size)
    (hr : Ro w' sz v' (xs.length + m + 1) (flt en (xs ++ List.replicate m z) ++ en z)) (hg : (w.alloc X).grownBy w' hv.ownBlock)
    (hat : (∃ g off cap, hv = .slice (some ⟨g, off, none⟩) (xs.length + m) cap ∧ v' = .slice (some ⟨g, off, none⟩) (xs.length + m + 1) cap) ∨ v'.ownBlock = some (w.alloc X).heap.size) (hold : Ro w' sz hv (xs.length + m) (flt en (xs ++ List.replicate m z))) : GR en sz z Wg v xs (m + 1) v' w' := by
  have f : Fr (fun b => hv.ownBlock = some b) w w' := ((Fr.refl _ w).alloc X).grown hg (fun b e => .inr e)
  have hsz := h.fr.size
  have hX : (w.alloc X).heap.size = w.heap.size + 1 := by simp
  refine ⟨by rw [rep_succ, flt_append, flt_one]; exact hr, ?_, h.fr.trans2 f (fun b hb e => ?_), ?_⟩
  · rcases h.rel with ⟨e0, e1⟩ | ⟨g, off, cap, e1, e2⟩ | ⟨b, e1, hb⟩
    · subst e0
      rw [← e1]
      simpa using hold
    · rw [e2] at hold
      have := hold.upto rfl (k := xs.length) (by omega)
      rw [flt_take hz, rep_take] at this
      rw [e1]
      exact this
    · exact Ro.fr h.vr f (fun b' hb' e => by
        rw [e1] at e
        cases e
        have := hvl _ hb'
        omega)
  · rcases h.rel.own e with r | r
    · exact r
    · omega
  · rcases hat with ⟨g, off, cap, e1, e2⟩ | e2
    · rcases h.rel with ⟨e0, e3⟩ | ⟨g', off', cap', e3, e4⟩ | ⟨b, e3, hb⟩
      · right; left
        subst e0
        exact ⟨g, off, cap, by rw [← e3, e1]; rfl, e2⟩
      · right; left
        rw [e4] at e1
        cases e1
        exact ⟨_, _, _, e3, e2⟩
      · right; right
        rw [e1] at e3
        exact ⟨b, by rw [e2]; exact e3, hb⟩
    · right; right
      exact ⟨_, e2, by omega⟩
/-- The marks alone. -/
theorem GR.past (hz : ∀ x, (en x).length = sz) (h : GR en sz z Wg v xs m hv w) {g o c : Nat} (e : hv = .slice (some ⟨g, o, none⟩) (xs.length + m) c) : Ro w sz (.slice (some ⟨g, o + xs.length * sz, none⟩) m (c - xs.length)) m (flt en (List.replicate m z)) := by
  have q := h.hr
  have := q.past e (k := xs.length) (by omega)
  rw [flt_drop hz, List.drop_left, Nat.add_sub_cancel_left] at this
  exact this
theorem GR.own (h : GR en sz z Wg v xs m hv w) {q : Nat} (e : hv.ownBlock = some q) : v.ownBlock = some q ∨ Wg.heap.size ≤ q := h.rel.own e
/-- What was gathered of a kind: slices of marks, each in a block of tag 4. -/
structure GQ (en : T → List Value) (sz : Nat) (mk : Nat → T) (cnt : Nat) (G : Nat → Nat) (tg : Nat) (gv : Value) (vals : List Value) (w : World) : Prop where
  row : Ro w 1 gv vals.length (flt enV vals)
  rb : ∀ q, gv.ownBlock = some q → G q = tg
  el : ∀ (j : Nat) (u : Value), vals[j]? = some u → ∃ g o c, u = .slice (some ⟨g, o, none⟩) cnt c ∧ G g = 4 ∧ Ro w sz u cnt (flt en (List.replicate cnt (mk j)))
variable {mk : Nat → T} {cnt tg : Nat} {G G' : Nat → Nat} {gv : Value} {vals : List Value}
theorem GQ.nil (w : World) (G : Nat → Nat) : GQ en sz mk cnt G tg (.slice none 0 0) [] w := ⟨by simpa [flt] using Ro.nil w 1, (fun q e => by cases e), (fun j u h => by simp at h)⟩
theorem GQ.mv {S : Nat → Prop} {w' : World} (h : GQ en sz mk cnt G tg gv vals w) (f : Fr S w w') (hS : ∀ q, q < w.heap.size → S q → G q ≠ tg ∧ G q ≠ 4) (hG : ∀ q, q < w.heap.size → (G q = tg ∨ G q = 4) → G' q = G q) : GQ en sz mk cnt G' tg gv vals w' := by
  refine ⟨h.row.fr f (fun q hq e => (hS q (h.row.lt q hq) e).1 (h.rb q hq)), fun q hq => by rw [hG q (h.row.lt q hq) (.inl (h.rb q hq))]; exact h.rb q hq, fun j u hu => ?_⟩
  obtain ⟨g, o, c, e, h4, hr⟩ := h.el j u hu
  have hl := hr.lt g (by rw [e]; rfl)
  exact ⟨g, o, c, e, by rw [hG g hl (.inr h4)]; exact h4, hr.fr f (fun q hq e2 => (hS q (hr.lt q hq) e2).2 (by rw [e] at hq; cases hq; exact h4))⟩
theorem GQ.push (h : GQ en sz mk cnt G tg gv vals w) (htg : tg ≠ 4) {sl : Value} {g o c : Nat} (hsl : sl = .slice (some ⟨g, o, none⟩) cnt c) (h4 : G g = 4) (hro : Ro w sz sl cnt (flt en (List.replicate cnt (mk vals.length))))
    {w1 w2 : World} {gv' : Value} {n : Nat} (hb : Below w.heap.size w w1) (hr : Ro w2 1 gv' n (flt enV vals ++ enV sl)) (hn : n = vals.length + 1) (hg : w1.grownBy w2 gv.ownBlock) (hat : gv'.ownBlock = gv.ownBlock ∨ gv'.ownBlock = some w1.heap.size) :
    GQ en sz mk cnt (tl G w.heap.size tg) tg gv' (vals ++ [sl]) w2 ∧ Fr (fun q => gv.ownBlock = some q) w w2 := by
  subst hn
  have hbs := hb.size
  have f : Fr (fun q => gv.ownBlock = some q) w w2 := (Fr.of_below (S := fun q => gv.ownBlock = some q) hb).trans ((Fr.refl _ w1).grown hg (fun k e => .inr e))
  refine ⟨⟨by rw [List.length_append, flt_append, flt_one]; exact hr, fun q hq => ?_, fun j u hu => ?_⟩, f⟩
  · rcases hat with r | r
    · rw [r] at hq; rw [tl_lt _ _ (h.row.lt q hq)]; exact h.rb q hq
    · rw [r] at hq; cases hq; exact tl_ge _ _ hbs
  · have key : ∀ u g o c j, u = Value.slice (some ⟨g, o, none⟩) cnt c → G g = 4 → Ro w sz u cnt (flt en (List.replicate cnt (mk j))) → ∃ g o c, u = .slice (some ⟨g, o, none⟩) cnt c ∧ tl G w.heap.size tg g = 4 ∧ Ro w2 sz u cnt (flt en (List.replicate cnt (mk j))) := fun u g o c j e h4 hr => by
      have hl := hr.lt g (by rw [e]; rfl)
      refine ⟨g, o, c, e, by rw [tl_lt _ _ hl]; exact h4, hr.fr f (fun q hq e2 => ?_)⟩
      rw [e] at hq
      cases hq
      have := h.rb g e2
      omega
    rcases mem_push hu with ⟨q1, q2⟩ | ⟨q1, rfl⟩
    · obtain ⟨g, o, c, e, h4, hr⟩ := h.el j u q2
      exact key u g o c j e h4 hr
    · subst q1
      exact key _ g o c _ hsl h4 hro
theorem LO.grow {P : World → T → Prop} {bl : T → Nat → Prop} {B0 : Nat} {w' : World} (hP : Stays1 P bl) (h : LO en sz P bl w v xs) (a : AO bl B0 v xs) (hB : B0 ≤ w.heap.size) {S : Nat → Prop} (f : Fr S w w') (hS : ∀ q, q < w.heap.size → S q → v.ownBlock = some q ∨ B0 ≤ q) (hr : Ro w' sz v xs.length (flt en xs)) : LO en sz P bl w' v xs :=
  ⟨hr, fun i x hx => hP S w w' x (h.el i x hx) f (fun k hk e => by
    have h1 := a.eb i x k hx hk
    rcases hS k (by omega) e with q | q
    · exact h1.2 q
    · omega), h.ao.mono f.size⟩
/-- A thing's own blocks turn, and what is newer. -/
theorem LO.turn {P : World → T → Prop} {bl : T → Nat → Prop} {B0 : Nat} {w' : World} (hP : Stays1 P bl) (h : LO en sz P bl w v xs) (a : AO bl B0 v xs) (hv : ∀ q, v.ownBlock = some q → q < B0) (hB : B0 ≤ w.heap.size) {i : Nat} {x : T} (hx : xs[i]? = some x) {S : Nat → Prop} (f : Fr S w w') (hS : ∀ q, q < w.heap.size → S q → bl x q ∨ B0 ≤ q) (hp : P w' x) : LO en sz P bl w' v xs := by
  refine ⟨h.row.fr f (fun q hq e => ?_), fun j y hy => ?_, h.ao.mono f.size⟩
  · have h1 := hv q hq
    rcases hS q (by omega) e with r | r
    · exact (a.eb i x q hx r).2 hq
    · omega
  · by_cases q : j = i
    · subst q
      rw [hx] at hy
      cases hy
      exact hp
    · refine hP S w w' y (h.el j y hy) f (fun k hk e => ?_)
      have h1 := a.eb j y k hy hk
      rcases hS k (by omega) e with r | r
      · exact a.ap i j x y k (fun e2 => q e2.symm) hx hy r hk
      · omega
end
def mark (j : Nat) : Int := IntKind.i64.wrap (-1 - (j : Int))
def mkGB (M : Nat → Int) (j : Nat) : BkR := ⟨M j, .slice none 0 0, .slice none 0 0⟩
def mkGI (M : Nat → Int) (j : Nat) : InR := ⟨0, 0, 0, .slice none 0 0, 0, 0, M j, .slice none 0 0⟩
def mkGE (M : Nat → Int) (j : Nat) : ShR := ⟨M j, 0, .slice none 0 0⟩
/-- All that was gathered. -/
structure GA (M : Nat → Int) (G : Nat → Nat) (gB gI gE : Value) (vB vI vE : List Value) (w : World) : Prop where
  B : GQ enBk 3 (mkGB M) 16 G 1 gB vB w
  I : GQ enIn 8 (mkGI M) 16 G 2 gI vI w
  E : GQ enSh 3 (mkGE M) 4 G 3 gE vE w
section
variable {M : Nat → Int} {G G' : Nat → Nat} {gB gI gE : Value} {vB vI vE : List Value} {w w' : World}
theorem GA.mv {S : Nat → Prop} (h : GA M G gB gI gE vB vI vE w) (f : Fr S w w') (hS : ∀ q, q < w.heap.size → S q → G q = 0) (hG : ∀ q, q < w.heap.size → G q ≠ 0 → G' q = G q) : GA M G' gB gI gE vB vI vE w' :=
  ⟨h.B.mv f (fun q hq e => by have := hS q hq e; omega) (fun q hq e => hG q hq (by omega)), h.I.mv f (fun q hq e => by have := hS q hq e; omega) (fun q hq e => hG q hq (by omega)), h.E.mv f (fun q hq e => by have := hS q hq e; omega) (fun q hq e => hG q hq (by omega))⟩
end
/-- The tags behind a row that has grown and was gathered. -/
def tgg (G : Nat → Nat) (n0 g n1 tg : Nat) : Nat → Nat := tl (upd (tl G n0 0) g 4) n1 tg
theorem tgg_ne (G : Nat → Nat) {n0 g n1 tg q : Nat} (h : q < n0) (hq : q ≠ g) (h1 : n0 ≤ n1) : tgg G n0 g n1 tg q = G q := by unfold tgg; rw [tl_lt _ _ (by omega), upd_ne _ _ hq, tl_lt _ _ h]
section
variable {T : Type} {en : T → List Value} {sz : Nat} {M : Nat → Int} {G : Nat → Nat} {gB gI gE : Value} {vB vI vE : List Value} {Wg w w1 w2 : World} {v hv : Value} {xs : List T} {z : T} {m g o c n : Nat} {gv' : Value}
/-- Ahead of the gathering: what lies there stands while a row grows; its marks get the tag. -/
theorem GA.grown (h : GA M G gB gI gE vB vI vE Wg) (hr : GR en sz z Wg v xs m hv w) (e : hv = .slice (some ⟨g, o, none⟩) (xs.length + m) c) (hv0 : ∀ q, v.ownBlock = some q → G q = 0) : GA M (upd (tl G Wg.heap.size 0) g 4) gB gI gE vB vI vE w := by
  have hgo := hr.own (q := g) (by rw [e]; rfl)
  have hg0 : tl G Wg.heap.size 0 g = 0 := by
    by_cases q : g < Wg.heap.size
    · rw [tl_lt _ _ q]
      rcases hgo with r | r
      · exact hv0 g r
      · omega
    · exact tl_ge _ _ (by omega)
  refine h.mv hr.fr (fun q _ e2 => hv0 q e2) (fun q hq hq0 => ?_)
  have : q ≠ g := fun e2 => by subst e2; rw [tl_lt _ _ hq] at hg0; exact hq0 hg0
  rw [upd_ne _ _ this, tl_lt _ _ hq]
theorem GA.pushB (h : GA M G gB gI gE vB vI vE w) (h4 : G g = 4) (hro : Ro w 3 (.slice (some ⟨g, o, none⟩) 16 c) 16 (flt enBk (List.replicate 16 (mkGB M vB.length))))
    (hb : Below w.heap.size w w1) (hr : Ro w2 1 gv' n (flt enV vB ++ enV (.slice (some ⟨g, o, none⟩) 16 c))) (hn : n = vB.length + 1) (hg : w1.grownBy w2 gB.ownBlock) (hat : gv'.ownBlock = gB.ownBlock ∨ gv'.ownBlock = some w1.heap.size) :
    GA M (tl G w.heap.size 1) gv' gI gE (vB ++ [.slice (some ⟨g, o, none⟩) 16 c]) vI vE w2 ∧ Fr (fun q => gB.ownBlock = some q) w w2 := by
  obtain ⟨q1, q2⟩ := h.B.push (by omega) rfl h4 hro hb hr hn hg hat
  exact ⟨⟨q1, h.I.mv q2 (fun q _ e => by have := h.B.rb q e; omega) (fun q hq _ => tl_lt _ _ hq), h.E.mv q2 (fun q _ e => by have := h.B.rb q e; omega) (fun q hq _ => tl_lt _ _ hq)⟩, q2⟩
theorem GA.pushI (h : GA M G gB gI gE vB vI vE w) (h4 : G g = 4) (hro : Ro w 8 (.slice (some ⟨g, o, none⟩) 16 c) 16 (flt enIn (List.replicate 16 (mkGI M vI.length))))
    (hb : Below w.heap.size w w1) (hr : Ro w2 1 gv' n (flt enV vI ++ enV (.slice (some ⟨g, o, none⟩) 16 c))) (hn : n = vI.length + 1) (hg : w1.grownBy w2 gI.ownBlock) (hat : gv'.ownBlock = gI.ownBlock ∨ gv'.ownBlock = some w1.heap.size) :
    GA M (tl G w.heap.size 2) gB gv' gE vB (vI ++ [.slice (some ⟨g, o, none⟩) 16 c]) vE w2 ∧ Fr (fun q => gI.ownBlock = some q) w w2 := by
  obtain ⟨q1, q2⟩ := h.I.push (by omega) rfl h4 hro hb hr hn hg hat
  exact ⟨⟨h.B.mv q2 (fun q _ e => by have := h.I.rb q e; omega) (fun q hq _ => tl_lt _ _ hq), q1, h.E.mv q2 (fun q _ e => by have := h.I.rb q e; omega) (fun q hq _ => tl_lt _ _ hq)⟩, q2⟩
theorem GA.pushE (h : GA M G gB gI gE vB vI vE w) (h4 : G g = 4) (hro : Ro w 3 (.slice (some ⟨g, o, none⟩) 4 c) 4 (flt enSh (List.replicate 4 (mkGE M vE.length))))
    (hb : Below w.heap.size w w1) (hr : Ro w2 1 gv' n (flt enV vE ++ enV (.slice (some ⟨g, o, none⟩) 4 c))) (hn : n = vE.length + 1) (hg : w1.grownBy w2 gE.ownBlock) (hat : gv'.ownBlock = gE.ownBlock ∨ gv'.ownBlock = some w1.heap.size) :
    GA M (tl G w.heap.size 3) gB gI gv' vB vI (vE ++ [.slice (some ⟨g, o, none⟩) 4 c]) w2 ∧ Fr (fun q => gE.ownBlock = some q) w w2 := by
  obtain ⟨q1, q2⟩ := h.E.push (by omega) rfl h4 hro hb hr hn hg hat
  exact ⟨⟨h.B.mv q2 (fun q _ e => by have := h.E.rb q e; omega) (fun q hq _ => tl_lt _ _ hq), h.I.mv q2 (fun q _ e => by have := h.E.rb q e; omega) (fun q hq _ => tl_lt _ _ hq), q1⟩, q2⟩
end
/-- append of one onto a row that grows, in the walk. -/
theorem wpList_appG {T : Type} {en : T → List Value} {sz bytes : Nat} {te t : TypeId} {w : World} {ops : Array Oper} {rest : List Oper} {o : Oper} {a : Act} {Q : Exit → Act → World → Prop} {zv : Value}
    (hund : Try.prog.underlying t = some (.slice te)) (hinf : (Try.prog.info? te).map (fun i => (i.zero, i.size, i.bytes)) = some (some zv, sz, bytes)) (hzs : zv.cells.size = sz) (hsz : 0 < sz) (hby : bytes ≤ 96) (hz : ∀ x, (en x).length = sz)
    (hg : o.guard = none) (s x : Operand) (hop : o.op = Op.call { callee := Callee.builtin Builtin.append, args := #[s, x], argTypes := #[t, t] })
    (v : Value) (n : Nat) (xs : List Value) (hs : a.eval s = v) (hr : Ro w sz v n xs) (ad : Addr) (c : Nat) (p : T) (hx : a.eval x = .slice (some ad) 1 c) (hc : ∀ j u, (en p)[j]? = some u → w.cell? (ad.add j) = some u) (h1 : ∀ u ∈ en p, u.oneCell' = true)
    (hN : n ≤ 1099511627776)
    (hK : ∀ v' w', Ro w' sz v' (n + 1) (xs ++ en p) → w.grownBy w' v.ownBlock → ((∃ g off cap, v = .slice (some ⟨g, off, none⟩) n cap ∧ v' = .slice (some ⟨g, off, none⟩) (n + 1) cap) ∨ v'.ownBlock = some w.heap.size) → Ro w' sz v n xs → wpList Try.prog ops Q rest (a.put o.dst v') w') :
    wpList Try.prog ops Q (o :: rest) a w := by
  obtain ⟨i0, hi0, hz0, hz1, hz2⟩ := info_parts hinf
  refine wpList_appO0 hg s x t hop te i0 _ sz bytes hund hi0 hz0 hz1 hz2 hzs hsz v n xs hs hr ad 1 c (en p) hx (by rw [hz]; omega) hc h1 (by omega) (by unfold maxLen; omega) ?_ hK
  have : (n + 1) * bytes ≤ (1099511627776 + 1) * 96 := Nat.mul_le_mul (by omega) hby
  omega
theorem infR84 : (Try.prog.info? 22).map (fun i => (i.zero, i.size, i.bytes)) = some (some (.slice none 0 0), 1, 24) := by kernel_rfl
/-- How many there are. -/
theorem fl_push {A C : Type} (f : A → List C) {l : List A} {i : Nat} {x : A} (h : l[i]? = some x) : ((l.take (i + 1)).flatMap f).length = ((l.take i).flatMap f).length + (f x).length := by
  rw [take_push h]; simp
theorem fl_le {A C : Type} (f : A → List C) (l : List A) (i : Nat) : ((l.take i).flatMap f).length ≤ (l.flatMap f).length := by
  have h : l.flatMap f = (l.take i).flatMap f ++ (l.drop i).flatMap f := by rw [← List.flatMap_append, List.take_append_drop]
  rw [h, List.length_append]
  omega

set_option linter.unusedVariables false
set_option linter.unusedSimpArgs false
theorem flt_TB (X : List TB) : flt enTB X = flt enBk (X.map Prod.fst) := by
  induction X with
  | nil => rfl
  | cons p r ih => simp only [flt, List.flatMap_cons, List.map_cons] at ih ⊢; rw [ih]; rfl
def T04 (B0 : Nat) (G : Nat → Nat) : Prop := ∀ q, q < B0 → G q = 0 ∨ G q = 4
structure CS (M : Nat → Int) (w : World) (v : Value) (cs : List TC) (k : Nat) (gB gI gE : Value) (vB vI vE : List Value) (G : Nat → Nat) (wr : World) : Prop where
  lo : LOC wr v cs
  fr : Fr (fun q => ∃ c ∈ cs, blG c q) w wr
  z : ∀ (j : Nat) (c : TC) (q : Nat), k ≤ j → cs[j]? = some c → blG c q → G q = 0
  t4 : T04 w.heap.size G
  ga : GA M G gB gI gE vB vI vE wr
  nb : vB.length = k
  ni : vI.length = ((cs.take k).flatMap Prod.snd).length
  ne : vE.length = (((cs.take k).flatMap Prod.snd).flatMap Prod.snd).length
structure BS (M : Nat → Int) (B0 : Nat) (Wk : World) (Gk : Nat → Nat) (c : TC) (b ni0 ne0 : Nat) (gB gI gE : Value) (vB vI vE : List Value) (G : Nat → Nat) (wr : World) : Prop where
  lo : LO enTB 3 BEo blF wr c.1.v c.2
  fr : Fr (fun q => blG c q ∨ B0 ≤ q) Wk wr
  tg : ∀ q, q < B0 → ¬ blG c q → G q = Gk q
  z : ∀ (j : Nat) (x : TB) (q : Nat), b ≤ j → c.2[j]? = some x → blF x q → G q = 0
  t4 : T04 B0 G
  ga : GA M G gB gI gE vB vI vE wr
  ni : vI.length = ni0 + b
  ne : vE.length = ne0 + ((c.2.take b).flatMap Prod.snd).length
structure IS (M : Nat → Int) (B0 : Nat) (Wb : World) (Gb : Nat → Nat) (x : TB) (i ne1 : Nat) (gB gI gE : Value) (vB vI vE : List Value) (G : Nat → Nat) (wr : World) : Prop where
  lo : LO enT 8 IEo blE wr x.1.iv x.2
  fr : Fr (fun q => blF x q ∨ B0 ≤ q) Wb wr
  tg : ∀ q, q < B0 → ¬ blF x q → G q = Gb q
  z : ∀ (j : Nat) (t : TI) (q : Nat), i ≤ j → x.2[j]? = some t → blE t q → G q = 0
  t4 : T04 B0 G
  ga : GA M G gB gI gE vB vI vE wr
  ne : vE.length = ne1 + i
section
variable {M : Nat → Int} {G Gk Gb : Nat → Nat} {gB gI gE gv' hv v : Value} {vB vI vE : List Value} {w Wk Wb w1 w1a w2 wr : World} {cs : List TC} {c : TC} {x : TB} {t : TI} {k b i ni0 ne0 ne1 B0 g o cc n : Nat}
theorem tgg_4 (h : T04 B0 G) {n0 n1 tg : Nat} (hB : B0 ≤ n0) (h1 : n0 ≤ n1) : T04 B0 (tgg G n0 g n1 tg) := fun q hq => by
  by_cases e : q = g
  · subst e
    right
    unfold tgg
    rw [tl_lt _ _ (by omega), upd_self]
  · rw [tgg_ne G (by omega) e h1]; exact h q hq
theorem upd_4 (h : T04 B0 G) {n0 : Nat} (hB : B0 ≤ n0) : T04 B0 (upd (tl G n0 0) g 4) := fun q hq => by
  by_cases e : q = g
  · subst e; right; exact upd_self _ _ _
  · rw [upd_ne _ _ e, tl_lt _ _ (by omega)]; exact h q hq
theorem CS.start (h : LOC w v cs) : CS M w v cs 0 (.slice none 0 0) (.slice none 0 0) (.slice none 0 0) [] [] [] (fun _ => 0) w :=
  ⟨h, Fr.refl _ _, fun _ _ _ _ _ _ => rfl, fun _ _ => .inl rfl, ⟨GQ.nil _ _, GQ.nil _ _, GQ.nil _ _⟩, rfl, rfl, rfl⟩
/-- The list of blocks was grown and gathered. -/
theorem BS.start (h : CS M w v cs k gB gI gE vB vI vE G Wk) (hc : cs[k]? = some c) (aC : AO blG w.heap.size v cs) (aB : AO blF w.heap.size c.1.v c.2) (gr : GR enBk 3 (mkGB M k) Wk c.1.v (c.2.map Prod.fst) 16 hv w1) (e : hv = .slice (some ⟨g, o, none⟩) ((c.2.map Prod.fst).length + 16) cc)
    (hb : Below w1.heap.size w1 w1a) (hr : Ro w2 1 gv' n (flt enV vB ++ enV (.slice (some ⟨g, o + (c.2.map Prod.fst).length * 3, none⟩) 16 (cc - (c.2.map Prod.fst).length)))) (hn : n = k + 1) (hg : w1a.grownBy w2 gB.ownBlock) (hat : gv'.ownBlock = gB.ownBlock ∨ gv'.ownBlock = some w1a.heap.size) :
    ∃ vB', vB'.length = k + 1 ∧ BS M w.heap.size Wk G c 0 vI.length vE.length gv' gI gE vB' vI vE (tgg G Wk.heap.size g w1.heap.size 1) w2 := by
  have hB0 := h.fr.size
  have h01 := gr.fr.size
  have vb : ∀ q, c.1.v.ownBlock = some q → q < w.heap.size ∧ G q = 0 := fun q hq => ⟨(aC.eb k c q hc (.inl hq)).1, h.z k c q (Nat.le_refl _) hc (.inl hq)⟩
  have hgo : c.1.v.ownBlock = some g ∨ Wk.heap.size ≤ g := gr.own (by rw [e]; rfl)
  have ga1 := h.ga.grown gr e (fun q hq => (vb q hq).2)
  have h41 : upd (tl G Wk.heap.size 0) g 4 g = 4 := upd_self _ _ _
  obtain ⟨ga2, f2⟩ := ga1.pushB h41 (by rw [h.nb]; exact gr.past zBk e) hb hr (by rw [h.nb]; exact hn) hg hat
  have t1 := upd_4 (g := g) h.t4 hB0
  have gB0 : ∀ q, gB.ownBlock = some q → w.heap.size ≤ q := fun q hq => by
    have h1 := ga1.B.rb q hq
    by_cases hl : q < w.heap.size
    · rcases t1 q hl with r | r <;> omega
    · omega
  have hf : Fr (fun q => blG c q ∨ w.heap.size ≤ q) Wk w2 := (gr.fr.mono (fun q _ e => .inl (.inl e))).trans (f2.mono (fun q _ e => .inr (gB0 q e)))
  have hne : ∀ q, q < w.heap.size → ¬ c.1.v.ownBlock = some q → tgg G Wk.heap.size g w1.heap.size 1 q = G q := fun q hq hn => tgg_ne G (by omega) (fun e2 => by subst e2; rcases hgo with r | r; exact hn r; omega) h01
  have hCE : CEo Wk c := h.lo.el k c hc
  have hvr := gr.vr
  rw [← flt_TB, List.length_map] at hvr
  refine ⟨_, by rw [List.length_append, h.nb]; rfl, ⟨LO.grow stayBE hCE aB hB0 ((gr.fr.mono (T := fun q => c.1.v.ownBlock = some q ∨ w.heap.size ≤ q) (fun q _ e => .inl e)).comp f2 (fun q _ e => .inr (gB0 q e))) (fun q _ e => e) (hvr.fr f2 (fun q hq e2 => by have := gB0 q e2; have := (vb q hq).1; omega)), hf, fun q hq hn => hne q hq (fun e2 => hn (.inl e2)), fun j y q _ hy hq => ?_, tgg_4 h.t4 hB0 h01, ga2, rfl, by simp⟩⟩
  have h1 := aB.eb j y q hy hq
  rw [hne q h1.1 h1.2]
  exact h.z k c q (Nat.le_refl _) hc (.inr ⟨y, List.mem_of_getElem? hy, hq⟩)
/-- The list of instructions was grown and gathered. -/
theorem IS.start (h : BS M B0 Wk Gk c b ni0 ne0 gB gI gE vB vI vE G Wb) (hWb : B0 ≤ Wb.heap.size) (hx : c.2[b]? = some x) (aB : AO blF B0 c.1.v c.2) (aI : AO blE B0 x.1.iv x.2) (gr : GR enIn 8 (mkGI M vI.length) Wb x.1.iv (x.2.map Prod.fst) 16 hv w1) (e : hv = .slice (some ⟨g, o, none⟩) ((x.2.map Prod.fst).length + 16) cc)
    (hb : Below w1.heap.size w1 w1a) (hr : Ro w2 1 gv' n (flt enV vI ++ enV (.slice (some ⟨g, o + (x.2.map Prod.fst).length * 8, none⟩) 16 (cc - (x.2.map Prod.fst).length)))) (hn : n = vI.length + 1) (hg : w1a.grownBy w2 gI.ownBlock) (hat : gv'.ownBlock = gI.ownBlock ∨ gv'.ownBlock = some w1a.heap.size) :
    ∃ vI', vI'.length = vI.length + 1 ∧ IS M B0 Wb G x 0 vE.length gB gv' gE vB vI' vE (tgg G Wb.heap.size g w1.heap.size 2) w2 := by
  have h01 := gr.fr.size
  have vb : ∀ q, x.1.iv.ownBlock = some q → q < B0 ∧ G q = 0 := fun q hq => ⟨(aB.eb b x q hx (.inl hq)).1, h.z b x q (Nat.le_refl _) hx (.inl hq)⟩
  have hgo : x.1.iv.ownBlock = some g ∨ Wb.heap.size ≤ g := gr.own (by rw [e]; rfl)
  have ga1 := h.ga.grown gr e (fun q hq => (vb q hq).2)
  obtain ⟨ga2, f2⟩ := ga1.pushI (upd_self _ _ _) (gr.past zIn e) hb hr hn hg hat
  have t1 := upd_4 (g := g) h.t4 hWb
  have gB0 : ∀ q, gI.ownBlock = some q → B0 ≤ q := fun q hq => by
    have h1 := ga1.I.rb q hq
    by_cases hl : q < B0
    · rcases t1 q hl with r | r <;> omega
    · omega
  have hf : Fr (fun q => blF x q ∨ B0 ≤ q) Wb w2 := (gr.fr.mono (fun q _ e => .inl (.inl e))).trans (f2.mono (fun q _ e => .inr (gB0 q e)))
  have hne : ∀ q, q < B0 → ¬ x.1.iv.ownBlock = some q → tgg G Wb.heap.size g w1.heap.size 2 q = G q := fun q hq hn => tgg_ne G (by omega) (fun e2 => by subst e2; rcases hgo with r | r; exact hn r; omega) h01
  have hBE : BEo Wb x := h.lo.el b x hx
  have hvr := gr.vr
  rw [← flt_T, List.length_map] at hvr
  refine ⟨_, by rw [List.length_append]; rfl, ⟨LO.grow stayIE hBE aI hWb ((gr.fr.mono (T := fun q => x.1.iv.ownBlock = some q ∨ B0 ≤ q) (fun q _ e => .inl e)).comp f2 (fun q _ e => .inr (gB0 q e))) (fun q _ e => e) (hvr.fr f2 (fun q hq e2 => by have := gB0 q e2; have := (vb q hq).1; omega)), hf, fun q hq hn => hne q hq (fun e2 => hn (.inl e2)), fun j y q _ hy hq => ?_, tgg_4 h.t4 hWb h01, ga2, rfl⟩⟩
  have h1 := aI.eb j y q hy hq
  rw [hne q h1.1 h1.2]
  exact h.z b x q (Nat.le_refl _) hx (.inr ⟨y, List.mem_of_getElem? hy, hq⟩)
/-- A list of shapes was grown and gathered. -/
theorem IS.step (h : IS M B0 Wb Gb x i ne1 gB gI gE vB vI vE G wr) (hWb : B0 ≤ wr.heap.size) (ht : x.2[i]? = some t) (aI : AO blE B0 x.1.iv x.2) (hiv : ∀ q, x.1.iv.ownBlock = some q → q < B0) (gr : GR enSh 3 (mkGE M vE.length) wr t.1.ev t.2 4 hv w1) (e : hv = .slice (some ⟨g, o, none⟩) (t.2.length + 4) cc)
    (hb : Below w1.heap.size w1 w1a) (hr : Ro w2 1 gv' n (flt enV vE ++ enV (.slice (some ⟨g, o + t.2.length * 3, none⟩) 4 (cc - t.2.length)))) (hn : n = vE.length + 1) (hg : w1a.grownBy w2 gE.ownBlock) (hat : gv'.ownBlock = gE.ownBlock ∨ gv'.ownBlock = some w1a.heap.size) :
    ∃ vE', IS M B0 Wb Gb x (i + 1) ne1 gB gI gv' vB vI vE' (tgg G wr.heap.size g w1.heap.size 3) w2 := by
  have h01 := gr.fr.size
  have vb : ∀ q, t.1.ev.ownBlock = some q → q < B0 ∧ G q = 0 := fun q hq => ⟨(aI.eb i t q ht hq).1, h.z i t q (Nat.le_refl _) ht hq⟩
  have hgo : t.1.ev.ownBlock = some g ∨ wr.heap.size ≤ g := gr.own (by rw [e]; rfl)
  have ga1 := h.ga.grown gr e (fun q hq => (vb q hq).2)
  obtain ⟨ga2, f2⟩ := ga1.pushE (upd_self _ _ _) (gr.past zSh e) hb hr hn hg hat
  have t1 := upd_4 (g := g) h.t4 hWb
  have gB0 : ∀ q, gE.ownBlock = some q → B0 ≤ q := fun q hq => by
    have h1 := ga1.E.rb q hq
    by_cases hl : q < B0
    · rcases t1 q hl with r | r <;> omega
    · omega
  have hf : Fr (fun q => blE t q ∨ B0 ≤ q) wr w2 := (gr.fr.mono (fun q _ e => .inl e)).trans (f2.mono (fun q _ e => .inr (gB0 q e)))
  have hne : ∀ q, q < B0 → ¬ t.1.ev.ownBlock = some q → tgg G wr.heap.size g w1.heap.size 3 q = G q := fun q hq hn => tgg_ne G (by omega) (fun e2 => by subst e2; rcases hgo with r | r; exact hn r; omega) h01
  have hIE : IEo wr t := h.lo.el i t ht
  have hIE2 : IEo w2 t := ⟨gr.vr.fr f2 (fun q hq e2 => by have := gB0 q e2; have := (vb q hq).1; omega), fun j r hj => hIE.el j r hj, ⟨fun _ _ _ _ h => h.elim, fun _ _ _ _ _ _ _ _ h => h.elim⟩⟩
  refine ⟨_, ⟨LO.turn stayIE h.lo aI hiv hWb ht hf (fun q _ e => e) hIE2, h.fr.trans (hf.mono (fun q _ e => e.elim (fun e => .inl (.inr ⟨t, List.mem_of_getElem? ht, e⟩)) .inr)), fun q hq hn => ?_, fun j y q hj hy hq => ?_, tgg_4 h.t4 hWb h01, ga2, ?_⟩⟩
  · rw [hne q hq (fun e2 => hn (.inr ⟨t, List.mem_of_getElem? ht, e2⟩))]; exact h.tg q hq hn
  · have h1 := aI.eb j y q hy hq
    rw [hne q h1.1 (fun e2 => aI.ap j i y t q (by omega) hy ht hq e2)]
    exact h.z j y q (by omega) hy hq
  · rw [List.length_append, h.ne]; rfl
/-- A block is done. -/
theorem BS.next {gI2 gE2 : Value} {vI2 vE2 : List Value} (h : BS M B0 Wk Gk c b ni0 ne0 gB gI gE vB vI vE Gb Wb) (hWb : B0 ≤ Wb.heap.size) (hx : c.2[b]? = some x) (aB : AO blF B0 c.1.v c.2) (hbv : ∀ q, c.1.v.ownBlock = some q → q < B0) (hi : IS M B0 Wb Gb x x.2.length vE.length gB gI2 gE2 vB vI2 vE2 G wr) (hnI : vI2.length = vI.length + 1) :
    BS M B0 Wk Gk c (b + 1) ni0 ne0 gB gI2 gE2 vB vI2 vE2 G wr := by
  refine ⟨LO.turn stayBE h.lo aB hbv hWb hx hi.fr (fun q _ e => e) hi.lo, h.fr.trans (hi.fr.mono (fun q _ e => e.elim (fun e => .inl (.inr ⟨x, List.mem_of_getElem? hx, e⟩)) .inr)), fun q hq hn => ?_, fun j y q hj hy hq => ?_, hi.t4, hi.ga, by rw [hnI, h.ni]; omega, ?_⟩
  · rw [hi.tg q hq (fun e2 => hn (.inr ⟨x, List.mem_of_getElem? hx, e2⟩))]; exact h.tg q hq hn
  · have h1 := aB.eb j y q hy hq
    rw [hi.tg q h1.1 (fun e2 => aB.ap j b y x q (by omega) hy hx hq e2)]
    exact h.z j y q (by omega) hy hq
  · rw [hi.ne, h.ne, fl_push Prod.snd hx]; omega
/-- A code is done. -/
theorem CS.next {gB2 gI2 gE2 : Value} {vB2 vI2 vE2 : List Value} (h : CS M w v cs k gB gI gE vB vI vE Gk Wk) (hc : cs[k]? = some c) (aC : AO blG w.heap.size v cs) (hv0 : ∀ q, v.ownBlock = some q → q < w.heap.size) (hb : BS M w.heap.size Wk Gk c c.2.length vI.length vE.length gB2 gI2 gE2 vB2 vI2 vE2 G wr) (hnB : vB2.length = k + 1) :
    CS M w v cs (k + 1) gB2 gI2 gE2 vB2 vI2 vE2 G wr := by
  have hB0 := h.fr.size
  refine ⟨LO.turn stayCE h.lo aC hv0 hB0 hc hb.fr (fun q _ e => e) hb.lo, h.fr.trans2 hb.fr (fun q hq e => e.elim (fun e => ⟨c, List.mem_of_getElem? hc, e⟩) (fun e => by omega)), fun j y q hj hy hq => ?_, hb.t4, hb.ga, hnB, ?_, ?_⟩
  · have h1 := aC.eb j y q hy hq
    rw [hb.tg q h1.1 (fun e2 => aC.ap j k y c q (by omega) hy hc hq e2)]
    exact h.z j y q (by omega) hy hq
  · rw [hb.ni, h.ni, fl_push Prod.snd hc]
  · rw [hb.ne, h.ne, take_push hc]
    simp
end
theorem slB (g o N c : Nat) (h : N + 16 ≤ c) (W : World) : (Instr.sliceAt 22 (.slice (some ⟨g, o, none⟩) (N + 16) c) (some (.int .i64 (N : Int))) none none).run Try.prog W = .ok (.slice (some ⟨g, o + N * 3, none⟩) 16 (c - N)) W := by
  have h0 : (0 : Int) ≤ (N : Int) := by omega
  have h1 : (N : Int) ≤ ((N + 16 : Nat) : Int) := by omega
  have h2 : ¬ c = N := by omega
  have h3 : N + 16 - N = 16 := by omega
  go_simp
  intro hh
  omega
theorem slI (g o N c : Nat) (h : N + 16 ≤ c) (W : World) : (Instr.sliceAt 40 (.slice (some ⟨g, o, none⟩) (N + 16) c) (some (.int .i64 (N : Int))) none none).run Try.prog W = .ok (.slice (some ⟨g, o + N * 8, none⟩) 16 (c - N)) W := by
  have h0 : (0 : Int) ≤ (N : Int) := by omega
  have h1 : (N : Int) ≤ ((N + 16 : Nat) : Int) := by omega
  have h2 : ¬ c = N := by omega
  have h3 : N + 16 - N = 16 := by omega
  go_simp
  intro hh
  omega
theorem slE (g o N c : Nat) (h : N + 4 ≤ c) (W : World) : (Instr.sliceAt 48 (.slice (some ⟨g, o, none⟩) (N + 4) c) (some (.int .i64 (N : Int))) none none).run Try.prog W = .ok (.slice (some ⟨g, o + N * 3, none⟩) 4 (c - N)) W := by
  have h0 : (0 : Int) ≤ (N : Int) := by omega
  have h1 : (N : Int) ≤ ((N + 4 : Nat) : Int) := by omega
  have h2 : ¬ c = N := by omega
  have h3 : N + 4 - N = 4 := by omega
  go_simp
  intro hh
  omega

set_option linter.unusedVariables false
set_option linter.unusedSimpArgs false
/-- append of one slice onto a list of slices. -/
theorem appV {t te : TypeId} (hund : Try.prog.underlying t = some (.slice te)) (hinf : (Try.prog.info? te).map (fun i => (i.zero, i.size, i.bytes)) = some (some (.slice none 0 0), 1, 24)) {w : World} {ops : Array Oper} {rest : List Oper} {o : Oper} {a : Act} {Q : Exit → Act → World → Prop}
    (hg : o.guard = none) (s x : Operand) (hop : o.op = Op.call { callee := Callee.builtin Builtin.append, args := #[s, x], argTypes := #[t, t] })
    (v : Value) (l : List Value) (hs : a.eval s = v) (hr : Ro w 1 v l.length (flt enV l)) (ad : Addr) (c : Nat) (p : Value) (hx : a.eval x = .slice (some ad) 1 c) (hc : ∀ j u, (enV p)[j]? = some u → w.cell? (ad.add j) = some u) (h1 : p.oneCell' = true)
    (hn : l.length ≤ 1099511627776)
    (hK : ∀ v' w', Ro w' 1 v' (l.length + 1) (flt enV l ++ enV p) → w.grownBy w' v.ownBlock → (v'.ownBlock = v.ownBlock ∨ v'.ownBlock = some w.heap.size) → wpList Try.prog ops Q rest (a.put o.dst v') w') :
    wpList Try.prog ops Q (o :: rest) a w := by
  obtain ⟨i0, hi0, hz0, hz1, hz2⟩ := info_parts hinf
  exact wpList_app hg s x t hop te i0 _ 1 24 hund hi0 hz0 hz1 hz2 rfl (by decide) v _ _ hs hr ad 1 c (enV p) hx (by rw [zV]) hc (by intro u hu; simp only [enV, List.mem_cons, List.not_mem_nil, or_false] at hu; rcases hu with rfl; exact h1) (by omega) (by unfold maxLen; omega) (by omega) hK
theorem Ro.cellg {T : Type} {en : T → List Value} {sz : Nat} (hz : ∀ x, (en x).length = sz) {w : World} {g off n cap : Nat} {xs : List T} (h : Ro w sz (.slice (some ⟨g, off, none⟩) n cap) n (flt en xs)) (hl : xs.length = n) {i : Nat} {x : T} (hx : xs[i]? = some x) {c : Nat} {u : Value} (hu : (en x)[c]? = some u) : w.cell? ⟨g, off + i * sz + c, none⟩ = some u := by
  subst hl
  obtain ⟨b, o, cap', e, _, _, _, q⟩ := (Rx.of_ro h).elem hz hx
  cases e
  exact q c u hu
theorem GQ.cell {T : Type} {en : T → List Value} {sz : Nat} (hz : ∀ x, (en x).length = sz) {mk : Nat → T} {cnt tg : Nat} {G : Nat → Nat} {gv : Value} {vals : List Value} {w : World} (h : GQ en sz mk cnt G tg gv vals w) {j : Nat} {u : Value} (hu : vals[j]? = some u) :
    ∃ ga oa ac g o c, gv = .slice (some ⟨ga, oa, none⟩) vals.length ac ∧ vals.length ≤ ac ∧ ac ≤ maxLen ∧ ga < w.heap.size ∧ w.cell? ⟨ga, oa + j, none⟩ = some (.slice (some ⟨g, o, none⟩) cnt c) ∧ cnt ≤ c ∧ c ≤ maxLen ∧ g < w.heap.size ∧ ∀ n, n < cnt → ∀ f z, (en (mk j))[f]? = some z → w.cell? ⟨g, o + n * sz + f, none⟩ = some z := by
  obtain ⟨ga, oa, ac, e1, q1, q2, q3, q4⟩ := (Rx.of_ro h.row).elem zV hu
  obtain ⟨g, o, c, e2, _, hr⟩ := h.el j u hu
  obtain ⟨_, _, e3, c1, c2⟩ := hr.shape
  rw [e2] at e3
  cases e3
  have h0 := q4 0 _ rfl
  rw [Nat.mul_one, Nat.add_zero, e2] at h0
  refine ⟨ga, oa, ac, g, o, _, e1, q1, q2, q3, h0, c1, c2, hr.lt g (by rw [e2]; rfl), fun n hn f z hz2 => ?_⟩
  rw [e2] at hr
  exact hr.cellg hz (by simp) (x := mk j) (by rw [List.getElem?_replicate, if_pos hn]) hz2
theorem fl2 {cs : List TC} {k : Nat} {c : TC} (hc : cs[k]? = some c) : (((cs.take k).flatMap Prod.snd).flatMap Prod.snd).length + (c.2.flatMap Prod.snd).length ≤ ((cs.flatMap Prod.snd).flatMap Prod.snd).length := by
  have h1 : cs.flatMap Prod.snd = (cs.take k).flatMap Prod.snd ++ (c.2 ++ (cs.drop (k + 1)).flatMap Prod.snd) := by
    conv => lhs; rw [← List.take_append_drop k cs, List.drop_eq_getElem_cons (List.getElem?_eq_some_iff.1 hc).1]
    rw [(List.getElem?_eq_some_iff.1 hc).2]
    simp
  rw [h1]
  simp only [List.flatMap_append, List.length_append]
  omega
set_option maxRecDepth 100000 in
set_option maxHeartbeats 12800000 in
theorem grown_any {w : World} {lb lo lc : Nat} {cs : List TC} (hL : LOC w (.slice (some ⟨lb, lo, none⟩) cs.length lc) cs) (hRb : cs.length ≤ 1073741824) (hIb : (cs.flatMap Prod.snd).length ≤ 1073741824) (hEb : ((cs.flatMap Prod.snd).flatMap Prod.snd).length ≤ 1073741824) (hSb : ∀ c ∈ cs, ∀ x ∈ c.2, ∀ t ∈ x.2, t.2.length ≤ 1073741824) :
    Calls Try.prog 45 #[.slice (some ⟨lb, lo, none⟩) cs.length lc] w fun e w' => e = .returned (.bool true) ∧ LOC w' (.slice (some ⟨lb, lo, none⟩) cs.length lc) cs ∧ Fr (fun q => ∃ y ∈ cs, blG y q) w w' := by
  obtain ⟨_, _, es, hl1, hl2⟩ := hL.row.shape
  cases es
  unfold maxLen at hl2
  have hlb : lb < w.heap.size := hL.row.lt lb rfl
  obtain ⟨M, hM⟩ : ∃ M : Nat → Int, Hid (M = fun (j : Nat) => IntKind.i64.wrap (-1 - (j : Int))) := ⟨_, hide rfl⟩
  obtain ⟨R, hR⟩ : ∃ R, Hid (cs.length = R) := ⟨_, hide rfl⟩
  have HAC := hide hL.ao
  have HEC := hide hL.el
  have HS0 := hide (CS.start (M := M) hL)
  have HSB := hide hSb
  have HIB := hide hIb
  have HEB := hide hEb
  rw [unhide hR] at hl1 hRb HAC HS0 ⊢
  obtain ⟨V, hV⟩ : ∃ V, Hid (V = Value.slice (some ⟨lb, lo, none⟩) R lc) := ⟨_, hide rfl⟩
  have HV0 : Hid (∀ q, (Value.slice (some ⟨lb, lo, none⟩) R lc).ownBlock = some q → q < w.heap.size) := fun q hq => by cases hq; exact hlb
  clear hL hSb hIb hEb
  go_enter Try.func45, Try.ntmps45
  go_wp2_with fail
  go_loopg [3, 4, 5, 6] R (fun gg t3 t4 t5 t6 wr => ∃ (k : Nat) (gB gI gE : Value) (vB vI vE : List Value) (G : Nat → Nat), Hid (k + gg = R) ∧ t3 = gB ∧ t4 = gI ∧ t5 = gE ∧ t6 = .int .i64 (k : Int) ∧ Hid (CS M w (.slice (some ⟨lb, lo, none⟩) R lc) cs k gB gI gE vB vI vE G wr))
  case atStart => exact ⟨0, _, _, _, _, _, _, _, by unfold Hid; omega, rfl, rfl, rfl, rfl, HS0⟩
  case round =>
    clear HS0
    obtain ⟨k, gB, gI, gE, vB, vI, vE, G, hk, h3, h4, h5, rfl, hC⟩ := hrel
    subst h3 h4 h5
    obtain ⟨ba, bac, egB, hgb1, hgb2⟩ := (unhide hC).ga.B.row.shape
    rw [(unhide hC).nb] at egB hgb1
    subst egB
    by_cases hlt : k < R
    · obtain ⟨c, hc⟩ : ∃ c, cs[k]? = some c := ⟨_, List.getElem?_eq_getElem (by rw [unhide hR]; exact hlt)⟩
      obtain ⟨g, off, cap, e, _, _, hg, hcl, hcf⟩ := (unhide hC).lo.cells zTC hc
      rw [unhide hR] at e
      cases e
      have hCE := (unhide hC).lo.el k c hc
      have hAB : AO blF w.heap.size c.1.v c.2 := (unhide HEC k c hc).ao
      have hbv : ∀ q, c.1.v.ownBlock = some q → q < w.heap.size ∧ q ≠ lb := fun q hq => by
        have h1 := (unhide HAC).eb k c q hc (.inl hq)
        exact ⟨h1.1, fun e2 => h1.2 (by rw [e2]; rfl)⟩
      have hneC : ∀ q, blG c q → q ≠ lb := fun q hq e2 => ((unhide HAC).eb k c q hc hq).2 (by rw [e2]; rfl)
      obtain ⟨⟨fn, regs, bv⟩, X⟩ := c
      obtain ⟨xa, xc, ebv, hb1, hb2⟩ := hCE.row.shape
      dsimp only at ebv
      subst ebv
      unfold maxLen at hb2
      obtain ⟨NX, hNX⟩ : ∃ NX, Hid (X.length = NX) := ⟨_, hide rfl⟩
      obtain ⟨XB, hXB⟩ : ∃ XB, Hid (X.map Prod.fst = XB) := ⟨_, hide rfl⟩
      have hXBl : XB.length = NX := by rw [← unhide hXB, List.length_map, unhide hNX]
      have hNXb : NX ≤ 1073741824 := by
        have h1 := fl_push Prod.snd hc
        have h2 := fl_le Prod.snd cs (k + 1)
        have h3 := unhide HIB
        rw [← unhide hNX]
        dsimp only at h1
        omega
      have c2 : wr.cell? ⟨lb, lo + k * 3 + 2, none⟩ = some (.slice xa X.length xc) := hcl 2 _ rfl
      have hro : Ro wr 3 (.slice xa X.length xc) XB.length (flt enBk XB) := by
        rw [← unhide hXB, List.length_map, ← flt_TB]
        exact hCE.row
      obtain ⟨MM, hMM⟩ : ∃ MM, Hid (M k = MM) := ⟨_, hide rfl⟩
      have HGR := hide (GR.start (z := (⟨MM, .slice none 0 0, .slice none 0 0⟩ : BkR)) hro)
      have HVL : Hid (∀ q, (Value.slice xa X.length xc).ownBlock = some q → q < wr.heap.size) := fun q hq => hro.lt q hq
      have HBV := hide hbv
      have HAB := hide hAB
      have HNE := hide hneC
      have HC1 := hide hc
      dsimp only at HBV HAB
      obtain ⟨Wk, rfl⟩ : ∃ Wk, Wk = wr := ⟨_, rfl⟩
      obtain ⟨Gk, rfl⟩ : ∃ Gk, Gk = G := ⟨_, rfl⟩
      have HCF : Hid (∀ V : World, Fr (fun q => blG ((⟨fn, regs, .slice xa X.length xc⟩ : CdR), X) q ∨ w.heap.size ≤ q) Wk V → V.cell? ⟨lb, lo + k * 3 + 2, none⟩ = some (.slice xa X.length xc) ∧ lb < V.heap.size ∧ w.heap.size ≤ V.heap.size) := fun V f =>
        ⟨(f.cell (a := ⟨lb, lo + k * 3 + 2, none⟩) hg (fun e2 => e2.elim (fun e2 => hneC _ e2 rfl) (fun e2 => by have e3 : w.heap.size ≤ lb := e2; omega))).trans c2, Nat.lt_of_lt_of_le hg f.size, Nat.le_trans (unhide hC).fr.size f.size⟩
      rw [unhide hNX] at hb1 c2 HGR HVL HBV HAB HNE HC1 HCF
      have i0 : (0 : Int) ≤ (k : Int) := by omega
      have i1 : (k : Int) < (R : Int) := by omega
      obtain ⟨G0, hG0⟩ : ∃ G0 : Nat, Hid (G0 = gk) := ⟨_, rfl⟩
      have ewM : IntKind.i64.wrap (-1 - (k : Int)) = MM := by rw [← unhide hMM, unhide hM]
      unfold maxLen at hgb2
      clear hcl hcf hCE hAB hbv hneC hro hc
      go_wp2_with fail
      go_loopg [7, 8] 16 (fun gg t7 t8 wr => ∃ (m : Nat) (hv : Value), Hid (m + gg = 16) ∧ t7 = hv ∧ t8 = .int .i64 (m : Int) ∧ Hid (GR enBk 3 (⟨MM, .slice none 0 0, .slice none 0 0⟩ : BkR) Wk (.slice xa NX xc) XB m hv wr))
      case atStart => exact ⟨0, _, by unfold Hid; omega, rfl, rfl, HGR⟩
      case round =>
        clear HGR c2 hg
        obtain ⟨m, hv, hm, h7, rfl, hGr⟩ := hrel
        obtain ⟨ha, hac, eh, hh1, hh2⟩ := (unhide hGr).hr.shape
        rw [hXBl] at eh hh1
        subst eh
        subst h7
        by_cases hmt : m < 16
        · have j0 : (0 : Int) ≤ (m : Int) := by omega
          have j1 : (m : Int) < 16 := by omega
          have HRO : Hid (Ro (wr.alloc (.cells #[.int .i64 MM, .slice none 0 0, .slice none 0 0] 43)) 3 (.slice ha (NX + m) hac) (NX + m) (flt enBk (XB ++ List.replicate m ⟨MM, .slice none 0 0, .slice none 0 0⟩))) := by
            have q := (unhide hGr).hr
            rw [hXBl] at q
            exact q.fr (S := fun _ => False) ((Fr.refl _ wr).alloc _) (fun _ _ e => e)
          have HNC := hide (new_cells wr #[.int .i64 MM, .slice none 0 0, .slice none 0 0] 43)
          have HLN : Hid (NX + m ≤ 1099511627776) := by unfold Hid; omega
          unfold maxLen at hh2
          go_wp2_with (first | (at_builtin; refine wpList_appG (en := enBk) (te := 43) Try.underlying22 infBk rfl (by decide) (by decide) zBk rfl _ _ rfl _ (NX + m) _ rfl (unhide HRO) ⟨wr.heap.size, 0, none⟩ 1 ⟨MM, .slice none 0 0, .slice none 0 0⟩ rfl (unhide HNC) (by intro u hu; simp only [enBk, List.mem_cons, List.not_mem_nil, or_false] at hu; rcases hu with rfl | rfl | rfl <;> rfl) (unhide HLN) ?_))
          intro v' w' hr' hg' hat' hold'
          have HN := hide ((unhide hGr).step zBk (unhide HVL) (by rw [hXBl]; exact hr') hg' (by rw [hXBl]; rcases hat' with ⟨g1, o1, c1, ⟨e1, e2⟩, e3⟩ | e1; exact .inl ⟨g1, o1, c1, by rw [e1, e2], e3⟩; exact .inr (by simpa using e1)) (by rw [hXBl]; exact hold'))
          clear hr' hg' hat' hold' HRO HNC HLN
          go_wp2_with fail
          go_roundg (gk - 1)
          case measure => have := unhide hm; omega
          case rel => exact ⟨m + 1, v', by have := unhide hm; unfold Hid; omega, rfl, by go_num, HN⟩
        · have hm16 : m = 16 := by have := unhide hm; omega
          subst hm16
          obtain ⟨gh, oh, hac', eh, hh1', _⟩ := (unhide hGr).hr.full (by omega)
          rw [hXBl] at eh hh1'
          cases eh
          have hgf := (unhide hGr).fr
          obtain ⟨c2, hlb2, _⟩ := unhide HCF wr (hgf.mono (fun q _ e => .inl (.inl e)))
          have hsl := fun W => slB gh oh NX hac (by omega) W
          have HGB := hide ((unhide hC).ga.B.row.fr hgf (fun q hq e => by
            have h1 := (unhide hC).ga.B.rb q hq
            have h2 := (unhide hC).z k _ q (Nat.le_refl _) (unhide HC1) (.inl e)
            omega))
          rw [(unhide hC).nb] at HGB
          have HNC := hide (new_cells wr #[.slice (some ⟨gh, oh + NX * 3, none⟩) 16 (hac - NX)] 22)
          have hnb := (unhide hC).nb
          have HRV : Hid (Ro (wr.alloc (.cells #[.slice (some ⟨gh, oh + NX * 3, none⟩) 16 (hac - NX)] 22)) 1 (.slice ba k bac) vB.length (flt enV vB)) := by
            rw [hnb]
            exact Ro.fr (S := fun _ => False) (unhide HGB) ((Fr.refl _ wr).alloc _) (fun _ _ e => e)
          have HLN : Hid (vB.length ≤ 1099511627776) := by unfold Hid; omega
          have n0 : (0 : Int) ≤ (NX : Int) := by omega
          unfold maxLen at hh2
          clear hgf hh1'
          go_wp2_with (first | (at_builtin; refine appV Try.underlying84 infR84 rfl _ _ rfl _ vB rfl (unhide HRV) ⟨wr.heap.size, 0, none⟩ 1 (.slice (some ⟨gh, oh + NX * 3, none⟩) 16 (hac - NX)) rfl (unhide HNC) rfl (unhide HLN) ?_))
          intro gv w2 hr hg hat
          have hz5 : (⟨MM, .slice none 0 0, .slice none 0 0⟩ : BkR) = mkGB M k := by unfold mkGB; rw [unhide hMM]
          have hgr5 := unhide hGr
          rw [hz5, ← unhide hXB] at hgr5
          have hXm : (X.map Prod.fst).length = NX := by rw [List.length_map, unhide hNX]
          obtain ⟨vB1, hvB1, hBS⟩ := BS.start (unhide hC) (unhide HC1) (unhide HAC) (unhide HAB) hgr5 (by rw [hXm]) (box1n wr _) (by rw [hXm]; exact hr) (by first | rfl | omega) hg (by simpa using hat)
          obtain ⟨ga1, gac1, egv, _, _⟩ := hr.shape
          try rw [hnb] at egv
          subst egv
          obtain ⟨G1, hG1⟩ : ∃ G1, Hid (tgg Gk Wk.heap.size gh wr.heap.size 1 = G1) := ⟨_, hide rfl⟩
          rw [unhide hG1] at hBS
          obtain ⟨nI0, hnI0⟩ : ∃ nI0, Hid (vI.length = nI0) := ⟨_, hide rfl⟩
          obtain ⟨nE0, hnE0⟩ : ∃ nE0, Hid (vE.length = nE0) := ⟨_, hide rfl⟩
          rw [unhide hnI0, unhide hnE0] at hBS
          have HNIb : Hid (nI0 + NX ≤ 1073741824) := by
            have h1 := fl_push Prod.snd (unhide HC1)
            have h2 := fl_le Prod.snd cs (k + 1)
            have h3 := unhide HIB
            have h4 := (unhide hC).ni
            have h5 := unhide hNX
            rw [unhide hnI0] at h4
            dsimp only at h1
            unfold Hid
            omega
          have HNEb : Hid (nE0 + (X.flatMap Prod.snd).length ≤ 1073741824) := by
            have h1 := fl2 (unhide HC1)
            have h3 := unhide HEB
            have h4 := (unhide hC).ne
            rw [unhide hnE0] at h4
            dsimp only at h1
            unfold Hid
            omega
          have HBS := hide hBS
          have HVB1 := hide hvB1
          clear hBS hvB1 hgr5 hz5 hr hg hat HNC HRV HLN HGB c2 hlb2 hsl hGr HVL hnb ewM
          go_wp2_with fail
          go_loopg [4, 5, 9] NX (fun gg t4 t5 t9 wr => ∃ (b : Nat) (gI gE : Value) (vI vE : List Value) (G : Nat → Nat), Hid (b + gg = NX) ∧ t4 = gI ∧ t5 = gE ∧ t9 = .int .i64 (b : Int) ∧ Hid (BS M w.heap.size Wk Gk ((⟨fn, regs, .slice xa NX xc⟩ : CdR), X) b nI0 nE0 (.slice ga1 (k + 1) gac1) gI gE vB1 vI vE G wr))
          case atStart => exact ⟨0, _, _, _, _, _, by unfold Hid; omega, rfl, rfl, rfl, HBS⟩
          case round =>
            clear HBS
            obtain ⟨b, gI, gE, vI2, vE2, G, hb, h4, h5, rfl, hB⟩ := hrel
            subst h4 h5
            obtain ⟨c2, hlb2, hws⟩ := unhide HCF _ (unhide hB).fr
            by_cases hlt2 : b < NX
            · obtain ⟨ia, iac, egI, hgi1, hgi2⟩ := (unhide hB).ga.I.row.shape
              obtain ⟨NI, hNI⟩ : ∃ NI, Hid (vI2.length = NI) := ⟨_, hide rfl⟩
              rw [unhide hNI] at egI hgi1
              subst egI
              have hNIb : NI ≤ 1073741824 := by
                have h1 := (unhide hB).ni
                have h2 := unhide HNIb
                have h3 := unhide hNI
                omega
              obtain ⟨x, hx⟩ : ∃ x, X[b]? = some x := ⟨_, List.getElem?_eq_getElem (by rw [unhide hNX]; exact hlt2)⟩
              obtain ⟨gb, ob, cb, e, _, _, hgb, hbl, _⟩ := LO.cells zTB (unhide hB).lo hx
              have e5 : Value.slice xa NX xc = .slice (some ⟨gb, ob, none⟩) X.length cb := e
              rw [unhide hNX] at e5
              cases e5
              have hBE : BEo wr x := LO.el (unhide hB).lo b x hx
              have hAI : AO blE w.heap.size x.1.iv x.2 := ((unhide HEC k _ (unhide HC1)).el b x hx).ao
              have hiv : ∀ q, x.1.iv.ownBlock = some q → q < w.heap.size := fun q hq => ((unhide HAB).eb b x q hx (.inl hq)).1
              obtain ⟨⟨pc, iv, nv⟩, ts⟩ := x
              obtain ⟨ya, yc, eiv, hi1, hi2⟩ := hBE.row.shape
              dsimp only at eiv
              subst eiv
              unfold maxLen at hi2 hgi2
              obtain ⟨NT, hNT⟩ : ∃ NT, Hid (ts.length = NT) := ⟨_, hide rfl⟩
              obtain ⟨XI, hXI⟩ : ∃ XI, Hid (ts.map Prod.fst = XI) := ⟨_, hide rfl⟩
              have hXIl : XI.length = NT := by rw [← unhide hXI, List.length_map, unhide hNT]
              have HTE : Hid (((X.take b).flatMap Prod.snd).length + ts.length ≤ (X.flatMap Prod.snd).length) := by
                have h1 := fl_push Prod.snd hx
                have h2 := fl_le Prod.snd X (b + 1)
                dsimp only at h1
                unfold Hid
                omega
              have hNTb : NT ≤ 1073741824 := by
                have h1 := unhide HTE
                have h2 := unhide HNEb
                have h3 := unhide hNT
                omega
              have k1 : wr.cell? ⟨gb, ob + b * 3 + 1, none⟩ = some (.slice ya ts.length yc) := hbl 1 _ rfl
              have hro : Ro wr 8 (.slice ya ts.length yc) XI.length (flt enIn XI) := by
                rw [← unhide hXI, List.length_map, ← flt_T]
                exact hBE.row
              obtain ⟨M2, hM2⟩ : ∃ M2, Hid (M NI = M2) := ⟨_, hide rfl⟩
              have HGR := hide (GR.start (z := (⟨0, 0, 0, .slice none 0 0, 0, 0, M2, .slice none 0 0⟩ : InR)) hro)
              have HVL : Hid (∀ q, (Value.slice ya ts.length yc).ownBlock = some q → q < wr.heap.size) := fun q hq => hro.lt q hq
              have HAI := hide hAI
              have HIV := hide hiv
              have HX1 := hide hx
              dsimp only at HAI HIV
              obtain ⟨Wb, rfl⟩ : ∃ Wb, Wb = wr := ⟨_, rfl⟩
              obtain ⟨Gb, rfl⟩ : ∃ Gb, Gb = G := ⟨_, rfl⟩
              rw [unhide hNT] at hi1 k1 HGR HVL HAI HIV HX1
              have i0' : (0 : Int) ≤ (b : Int) := by omega
              have i1' : (b : Int) < (NX : Int) := by omega
              obtain ⟨G2, hG2⟩ : ∃ G2 : Nat, Hid (G2 = gk) := ⟨_, rfl⟩
              have ewM : IntKind.i64.wrap (-1 - (NI : Int)) = M2 := by rw [← unhide hM2, unhide hM]
              clear hbl hBE hAI hiv hro hx e
              go_wp2_with fail
              clear c2 hlb2 k1 hgb
              go_loopg [11, 12] 16 (fun gg t11 t12 wr => ∃ (m : Nat) (hv : Value), Hid (m + gg = 16) ∧ t11 = hv ∧ t12 = .int .i64 (m : Int) ∧ Hid (GR enIn 8 (⟨0, 0, 0, .slice none 0 0, 0, 0, M2, .slice none 0 0⟩ : InR) Wb (.slice ya NT yc) XI m hv wr))
              case atStart => exact ⟨0, _, by unfold Hid; omega, rfl, rfl, HGR⟩
              case round =>
                clear HGR
                obtain ⟨m, hv, hm, h7, rfl, hGr⟩ := hrel
                obtain ⟨ha, hac, eh, hh1, hh2⟩ := (unhide hGr).hr.shape
                rw [hXIl] at eh hh1
                subst eh
                subst h7
                by_cases hmt : m < 16
                · have j0 : (0 : Int) ≤ (m : Int) := by omega
                  have j1 : (m : Int) < 16 := by omega
                  have HRO : Hid (Ro (wr.alloc (.cells #[.int .i64 0, .int .i64 0, .int .i64 0, .slice none 0 0, .int .i64 0, .int .i64 0, .int .i64 M2, .slice none 0 0] 50)) 8 (.slice ha (NT + m) hac) (NT + m) (flt enIn (XI ++ List.replicate m ⟨0, 0, 0, .slice none 0 0, 0, 0, M2, .slice none 0 0⟩))) := by
                    have q := (unhide hGr).hr
                    rw [hXIl] at q
                    exact q.fr (S := fun _ => False) ((Fr.refl _ wr).alloc _) (fun _ _ e => e)
                  have HNC := hide (new_cells wr #[.int .i64 0, .int .i64 0, .int .i64 0, .slice none 0 0, .int .i64 0, .int .i64 0, .int .i64 M2, .slice none 0 0] 50)
                  have HLN : Hid (NT + m ≤ 1099511627776) := by unfold Hid; omega
                  unfold maxLen at hh2
                  go_wp2_with (first | (at_builtin; refine wpList_appG (en := enIn) (te := 50) Try.underlying40 infIn rfl (by decide) (by decide) zIn rfl _ _ rfl _ (NT + m) _ rfl (unhide HRO) ⟨wr.heap.size, 0, none⟩ 1 ⟨0, 0, 0, .slice none 0 0, 0, 0, M2, .slice none 0 0⟩ rfl (unhide HNC) (by intro u hu; simp only [enIn, List.mem_cons, List.not_mem_nil, or_false] at hu; rcases hu with rfl | rfl | rfl | rfl | rfl | rfl | rfl | rfl <;> rfl) (unhide HLN) ?_))
                  intro v' w' hr' hg' hat' hold'
                  have HN := hide ((unhide hGr).step zIn (unhide HVL) (by rw [hXIl]; exact hr') hg' (by rw [hXIl]; rcases hat' with ⟨g1, o1, c1, ⟨e1, e2⟩, e3⟩ | e1; exact .inl ⟨g1, o1, c1, by rw [e1, e2], e3⟩; exact .inr (by simpa using e1)) (by rw [hXIl]; exact hold'))
                  clear hr' hg' hat' hold' HRO HNC HLN
                  go_wp2_with fail
                  go_roundg (gk - 1)
                  case measure => have := unhide hm; omega
                  case rel => exact ⟨m + 1, v', by have := unhide hm; unfold Hid; omega, rfl, by go_num, HN⟩
                · have hm16 : m = 16 := by have := unhide hm; omega
                  subst hm16
                  obtain ⟨gh, oh, hac', eh, hh1', _⟩ := (unhide hGr).hr.full (by omega)
                  rw [hXIl] at eh hh1'
                  cases eh
                  have hgf := (unhide hGr).fr
                  have hsl := fun W => slI gh oh NT hac (by omega) W
                  have HGB := hide ((unhide hB).ga.I.row.fr hgf (fun q hq e => by
                    have h1 := (unhide hB).ga.I.rb q hq
                    have h2 := (unhide hB).z b _ q (Nat.le_refl _) (unhide HX1) (.inl e)
                    omega))
                  rw [unhide hNI] at HGB
                  have HNC := hide (new_cells wr #[.slice (some ⟨gh, oh + NT * 8, none⟩) 16 (hac - NT)] 40)
                  have HRV : Hid (Ro (wr.alloc (.cells #[.slice (some ⟨gh, oh + NT * 8, none⟩) 16 (hac - NT)] 40)) 1 (.slice ia NI iac) vI2.length (flt enV vI2)) := by
                    rw [unhide hNI]
                    exact Ro.fr (S := fun _ => False) (unhide HGB) ((Fr.refl _ wr).alloc _) (fun _ _ e => e)
                  have HLN : Hid (vI2.length ≤ 1099511627776) := by rw [unhide hNI]; unfold Hid; omega
                  have n0 : (0 : Int) ≤ (NT : Int) := by omega
                  unfold maxLen at hh2
                  clear hgf hh1'
                  go_wp2_with (first | (at_builtin; refine appV Try.underlying32 infR22 rfl _ _ rfl _ vI2 rfl (unhide HRV) ⟨wr.heap.size, 0, none⟩ 1 (.slice (some ⟨gh, oh + NT * 8, none⟩) 16 (hac - NT)) rfl (unhide HNC) rfl (unhide HLN) ?_))
                  intro gv w2 hr hg hat
                  have hz5 : (⟨0, 0, 0, .slice none 0 0, 0, 0, M2, .slice none 0 0⟩ : InR) = mkGI M vI2.length := by unfold mkGI; rw [unhide hNI, unhide hM2]
                  have hgr5 := unhide hGr
                  rw [hz5, ← unhide hXI] at hgr5
                  have hXm : (ts.map Prod.fst).length = NT := by rw [List.length_map, unhide hNT]
                  obtain ⟨vI3, hvI3, hIS⟩ := IS.start (unhide hB) hws (unhide HX1) (unhide HAB) (unhide HAI) hgr5 (by rw [hXm]) (box1n wr _) (by rw [hXm]; exact hr) rfl hg (by simpa using hat)
                  obtain ⟨ga2, gac2, egv, _, _⟩ := hr.shape
                  rw [unhide hNI] at egv
                  subst egv
                  obtain ⟨G3', hG3'⟩ : ∃ G3', Hid (tgg Gb Wb.heap.size gh wr.heap.size 2 = G3') := ⟨_, hide rfl⟩
                  rw [unhide hG3'] at hIS
                  obtain ⟨nE1, hnE1⟩ : ∃ nE1, Hid (vE2.length = nE1) := ⟨_, hide rfl⟩
                  rw [unhide hnE1] at hIS
                  have HNE1 : Hid (nE1 + NT ≤ 1073741824) := by
                    have h1 := unhide HTE
                    have h2 := unhide HNEb
                    have h3 := (unhide hB).ne
                    have h4 := unhide hNT
                    rw [unhide hnE1] at h3
                    dsimp only at h3
                    unfold Hid
                    omega
                  have HIS := hide hIS
                  have HVI3 := hide hvI3
                  clear hIS hvI3 hgr5 hz5 hr hg hat HNC HRV HLN HGB hsl hGr HVL ewM
                  go_wp2_with fail
                  go_loopg [5, 13] NT (fun gg t5 t13 wr => ∃ (i : Nat) (gE : Value) (vE : List Value) (G : Nat → Nat), Hid (i + gg = NT) ∧ t5 = gE ∧ t13 = .int .i64 (i : Int) ∧ Hid (IS M w.heap.size Wb Gb ((⟨pc, .slice ya NT yc, nv⟩ : BkR), ts) i nE1 (.slice ga1 (k + 1) gac1) (.slice ga2 (NI + 1) gac2) gE vB1 vI3 vE G wr))
                  case atStart => exact ⟨0, _, _, _, by unfold Hid; omega, rfl, rfl, HIS⟩
                  case round =>
                    clear HIS
                    obtain ⟨i, gE, vE4, G, hi, h5, rfl, hI⟩ := hrel
                    subst h5
                    have hws4 : w.heap.size ≤ wr.heap.size := Nat.le_trans hws (unhide hI).fr.size
                    by_cases hlt3 : i < NT
                    · obtain ⟨sa, sac, egE, hge1, hge2⟩ := (unhide hI).ga.E.row.shape
                      obtain ⟨NE, hNE⟩ : ∃ NE, Hid (vE4.length = NE) := ⟨_, hide rfl⟩
                      rw [unhide hNE] at egE hge1
                      subst egE
                      have hNEb : NE ≤ 1073741824 := by
                        have h1 := (unhide hI).ne
                        have h2 := unhide HNE1
                        have h3 := unhide hNE
                        omega
                      obtain ⟨t, ht⟩ : ∃ t, ts[i]? = some t := ⟨_, List.getElem?_eq_getElem (by rw [unhide hNT]; exact hlt3)⟩
                      obtain ⟨g8, o8, c8, e, _, _, hg8, hc8, _⟩ := LO.cells zT (unhide hI).lo ht
                      have e5 : Value.slice ya NT yc = .slice (some ⟨g8, o8, none⟩) ts.length c8 := e
                      rw [unhide hNT] at e5
                      cases e5
                      have hIE : IEo wr t := LO.el (unhide hI).lo i t ht
                      have hev : ∀ q, t.1.ev.ownBlock = some q → q ≠ g8 := fun q hq e2 => ((unhide HAI).eb i t q ht hq).2 (by rw [e2]; rfl)
                      have hSl : t.2.length ≤ 1073741824 := unhide HSB _ (List.mem_of_getElem? (unhide HC1)) _ (List.mem_of_getElem? (unhide HX1)) t (List.mem_of_getElem? ht)
                      obtain ⟨⟨rop, rcode, rdst, av, rn, rpc, rneed, ev⟩, rs⟩ := t
                      obtain ⟨qa, qc, eev, he1, he2⟩ := hIE.row.shape
                      dsimp only at eev hSl
                      subst eev
                      unfold maxLen at he2 hge2
                      obtain ⟨NS, hNS⟩ : ∃ NS, Hid (rs.length = NS) := ⟨_, hide rfl⟩
                      have k7 : wr.cell? ⟨g8, o8 + i * 8 + 7, none⟩ = some (.slice qa rs.length qc) := hc8 7 _ rfl
                      obtain ⟨M3, hM3⟩ : ∃ M3, Hid (M NE = M3) := ⟨_, hide rfl⟩
                      have hro : Ro wr 3 (.slice qa rs.length qc) rs.length (flt enSh rs) := hIE.row
                      have HGR := hide (GR.start (z := (⟨M3, 0, .slice none 0 0⟩ : ShR)) hro)
                      have HVL : Hid (∀ q, (Value.slice qa rs.length qc).ownBlock = some q → q < wr.heap.size) := fun q hq => hro.lt q hq
                      obtain ⟨Wi, rfl⟩ : ∃ Wi, Wi = wr := ⟨_, rfl⟩
                      obtain ⟨Gi, rfl⟩ : ∃ Gi, Gi = G := ⟨_, rfl⟩
                      have HK7 : Hid (∀ V : World, Fr (fun q => (Value.slice qa rs.length qc).ownBlock = some q) Wi V → V.cell? ⟨g8, o8 + i * 8 + 7, none⟩ = some (.slice qa rs.length qc) ∧ g8 < V.heap.size) := fun V f => ⟨(f.cell (a := ⟨g8, o8 + i * 8 + 7, none⟩) hg8 (fun e2 => hev _ e2 rfl)).trans k7, Nat.lt_of_lt_of_le hg8 f.size⟩
                      have HT1 := hide ht
                      rw [unhide hNS] at he1 k7 HVL HK7 HT1 HGR hSl
                      have l0 : (0 : Int) ≤ (i : Int) := by omega
                      have l1 : (i : Int) < (NT : Int) := by omega
                      obtain ⟨G4, hG4⟩ : ∃ G4 : Nat, Hid (G4 = gk) := ⟨_, rfl⟩
                      have ewM : IntKind.i64.wrap (-1 - (NE : Int)) = M3 := by rw [← unhide hM3, unhide hM]
                      clear hc8 hIE hev hro ht e
                      go_wp2_with fail
                      clear k7 hg8
                      go_loopg [14, 15] 4 (fun gg t14 t15 wr => ∃ (m : Nat) (hv : Value), Hid (m + gg = 4) ∧ t14 = hv ∧ t15 = .int .i64 (m : Int) ∧ Hid (GR enSh 3 (⟨M3, 0, .slice none 0 0⟩ : ShR) Wi (.slice qa NS qc) rs m hv wr))
                      case atStart => exact ⟨0, _, by unfold Hid; omega, rfl, rfl, HGR⟩
                      case round =>
                        clear HGR
                        obtain ⟨m, hv, hm, h7, rfl, hGr⟩ := hrel
                        obtain ⟨ha, hac, eh, hh1, hh2⟩ := (unhide hGr).hr.shape
                        rw [unhide hNS] at eh hh1
                        subst eh
                        subst h7
                        by_cases hmt : m < 4
                        · have j0 : (0 : Int) ≤ (m : Int) := by omega
                          have j1 : (m : Int) < 4 := by omega
                          have HRO : Hid (Ro (wr.alloc (.cells #[.int .i64 M3, .int .i64 0, .slice none 0 0] 65)) 3 (.slice ha (NS + m) hac) (NS + m) (flt enSh (rs ++ List.replicate m ⟨M3, 0, .slice none 0 0⟩))) := by
                            have q := (unhide hGr).hr
                            rw [unhide hNS] at q
                            exact q.fr (S := fun _ => False) ((Fr.refl _ wr).alloc _) (fun _ _ e => e)
                          have HNC := hide (new_cells wr #[.int .i64 M3, .int .i64 0, .slice none 0 0] 65)
                          have HLN : Hid (NS + m ≤ 1099511627776) := by unfold Hid; omega
                          unfold maxLen at hh2
                          go_wp2_with (first | (at_builtin; refine wpList_appG (en := enSh) (te := 65) Try.underlying48 infSh rfl (by decide) (by decide) zSh rfl _ _ rfl _ (NS + m) _ rfl (unhide HRO) ⟨wr.heap.size, 0, none⟩ 1 ⟨M3, 0, .slice none 0 0⟩ rfl (unhide HNC) (by intro u hu; simp only [enSh, List.mem_cons, List.not_mem_nil, or_false] at hu; rcases hu with rfl | rfl | rfl <;> rfl) (unhide HLN) ?_))
                          intro v' w' hr' hg' hat' hold'
                          have HN := hide ((unhide hGr).step zSh (unhide HVL) (by rw [unhide hNS]; exact hr') hg' (by rw [unhide hNS]; rcases hat' with ⟨g1, o1, c1, ⟨e1, e2⟩, e3⟩ | e1; exact .inl ⟨g1, o1, c1, by rw [e1, e2], e3⟩; exact .inr (by simpa using e1)) (by rw [unhide hNS]; exact hold'))
                          clear hr' hg' hat' hold' HRO HNC HLN
                          go_wp2_with fail
                          go_roundg (gk - 1)
                          case measure => have := unhide hm; omega
                          case rel => exact ⟨m + 1, v', by have := unhide hm; unfold Hid; omega, rfl, by go_num, HN⟩
                        · have hm4 : m = 4 := by have := unhide hm; omega
                          subst hm4
                          obtain ⟨gh, oh, hac', eh, hh1', _⟩ := (unhide hGr).hr.full (by omega)
                          rw [unhide hNS] at eh hh1'
                          cases eh
                          have hgf := (unhide hGr).fr
                          obtain ⟨k7, hg8'⟩ := unhide HK7 wr hgf
                          have hsl := fun W => slE gh oh NS hac (by omega) W
                          have HGB := hide ((unhide hI).ga.E.row.fr hgf (fun q hq e => by
                            have h1 := (unhide hI).ga.E.rb q hq
                            have h2 := (unhide hI).z i _ q (Nat.le_refl _) (unhide HT1) e
                            omega))
                          rw [unhide hNE] at HGB
                          have HNC := hide (new_cells wr #[.slice (some ⟨gh, oh + NS * 3, none⟩) 4 (hac - NS)] 48)
                          have HRV : Hid (Ro (wr.alloc (.cells #[.slice (some ⟨gh, oh + NS * 3, none⟩) 4 (hac - NS)] 48)) 1 (.slice sa NE sac) vE4.length (flt enV vE4)) := by
                            rw [unhide hNE]
                            exact Ro.fr (S := fun _ => False) (unhide HGB) ((Fr.refl _ wr).alloc _) (fun _ _ e => e)
                          have HLN : Hid (vE4.length ≤ 1099511627776) := by rw [unhide hNE]; unfold Hid; omega
                          have n0 : (0 : Int) ≤ (NS : Int) := by omega
                          unfold maxLen at hh2
                          clear hgf hh1'
                          go_wp2_with (first | (at_builtin; refine appV Try.underlying30 infR43 rfl _ _ rfl _ vE4 rfl (unhide HRV) ⟨wr.heap.size, 0, none⟩ 1 (.slice (some ⟨gh, oh + NS * 3, none⟩) 4 (hac - NS)) rfl (unhide HNC) rfl (unhide HLN) ?_))
                          intro gv w2 hr hg hat
                          have hz5 : (⟨M3, 0, .slice none 0 0⟩ : ShR) = mkGE M vE4.length := by unfold mkGE; rw [unhide hNE, unhide hM3]
                          have hgr5 := unhide hGr
                          rw [hz5] at hgr5
                          obtain ⟨vE5, hIS⟩ := IS.step (unhide hI) hws4 (unhide HT1) (unhide HAI) (unhide HIV) hgr5 (by dsimp only; rw [unhide hNS]) (box1n wr _) (by dsimp only; rw [unhide hNS]; exact hr) rfl hg (by simpa using hat)
                          have HIS := hide hIS
                          clear hIS hgr5 hz5 hr hg hat HNC HRV HLN HGB hsl hGr HVL ewM k7 hg8'
                          go_wp2_with fail
                          go_roundg (G4 - 1)
                          case measure => have h1 := unhide hG4; have h2 := unhide hi; omega
                          case rel => exact ⟨i + 1, _, _, _, by have h1 := unhide hG4; have h2 := unhide hi; unfold Hid; omega, rfl, by go_num, HIS⟩
                    · have hiN : i = NT := by have := unhide hi; omega
                      subst hiN
                      have hN0 := BS.next (unhide hB) hws (unhide HX1) (unhide HAB) (fun q hq => (unhide HBV q hq).1) (by
                        have q := unhide hI
                        rw [← unhide hnE1] at q
                        have hl := unhide hNT
                        dsimp only
                        rw [hl]
                        exact q) (unhide HVI3)
                      have HN := hide hN0
                      obtain ⟨c2, hlb2, _⟩ := unhide HCF _ hN0.fr
                      clear hN0
                      go_wp2_with fail
                      go_roundg (G2 - 1)
                      case measure => have h1 := unhide hG2; have h2 := unhide hb; omega
                      case rel => exact ⟨b + 1, _, _, _, _, _, by have h1 := unhide hG2; have h2 := unhide hb; unfold Hid; omega, rfl, rfl, by go_num, HN⟩
            · have hbN : b = NX := by have := unhide hb; omega
              subst hbN
              have HN := hide (CS.next (unhide hC) (unhide HC1) (unhide HAC) (unhide HV0) (by
                have q := unhide hB
                rw [← unhide hnI0, ← unhide hnE0] at q
                have hl := unhide hNX
                dsimp only
                rw [hl]
                exact q) (unhide HVB1))
              go_wp2_with fail
              go_roundg (G0 - 1)
              case measure => have h1 := unhide hG0; have h2 := unhide hk; omega
              case rel => exact ⟨k + 1, _, _, _, _, _, _, _, by have h1 := unhide hG0; have h2 := unhide hk; unfold Hid; omega, rfl, rfl, rfl, by go_num, HN⟩
    · have hkR : k = R := by have := unhide hk; omega
      subst hkR
      obtain ⟨ia, iac, egI, hgi1, hgi2⟩ := (unhide hC).ga.I.row.shape
      obtain ⟨sa, sac, egE, hge1, hge2⟩ := (unhide hC).ga.E.row.shape
      obtain ⟨NI, hLI⟩ : ∃ NI, Hid (vI.length = NI) := ⟨_, hide rfl⟩
      obtain ⟨NE, hLE⟩ : ∃ NE, Hid (vE.length = NE) := ⟨_, hide rfl⟩
      rw [unhide hLI] at egI hgi1
      rw [unhide hLE] at egE hge1
      subst egI egE
      have hLB : Hid (vB.length = k) := (unhide hC).nb
      have HGA := hide (unhide hC).ga
      have HLO := hide (unhide hC).lo
      have HFR := hide (unhide hC).fr
      unfold maxLen at hgi2 hge2 hgb2
      obtain ⟨Y, rfl⟩ : ∃ Y, Y = wr := ⟨_, rfl⟩
      clear hC hk
      go_wp2_with fail
      have HYB := hide (Below.refl Y.heap.size Y)
      go_loopg [16] k (fun gg t16 wr => ∃ (i : Nat), Hid (i + gg = k) ∧ t16 = .int .i64 (i : Int) ∧ Hid (Below Y.heap.size Y wr))
      case atStart => exact ⟨0, by unfold Hid; omega, rfl, HYB⟩
      case round =>
        clear HYB
        obtain ⟨i, hi, rfl, hW⟩ := hrel
        by_cases hlt : i < k
        · obtain ⟨u, hu⟩ : ∃ u, vB[i]? = some u := ⟨_, List.getElem?_eq_getElem (by rw [unhide hLB]; exact hlt)⟩
          obtain ⟨ga, oa, ac, g, o, c, e, q1, q2, q3, q4, q5, q6, q7, q8⟩ := (unhide HGA).B.cell zBk hu
          rw [unhide hLB] at e q1
          cases e
          have HQ8 := hide q8
          have HQ4 := hide q4
          have HQ7 := hide q7
          have HQ3 := hide q3
          have l1 := ((unhide hW).cell (p := ⟨ga, oa + i, none⟩) q3).trans q4
          have l2 := Nat.lt_of_lt_of_le q3 (unhide hW).size
          unfold maxLen at q6
          have i0 : (0 : Int) ≤ (i : Int) := by omega
          have i1 : (i : Int) < (k : Int) := by omega
          obtain ⟨G0, hG0⟩ : ∃ G0 : Nat, Hid (G0 = gk) := ⟨_, rfl⟩
          clear q8 q4 q7 q3 hu
          go_wp2_with fail
          clear l1 l2
          go_loopg [17] 16 (fun gg t17 wr => ∃ (n : Nat), Hid (n + gg = 16) ∧ t17 = .int .i64 (n : Int) ∧ Hid (Below Y.heap.size Y wr))
          case atStart => exact ⟨0, by unfold Hid; omega, rfl, hW⟩
          case round =>
            clear hW
            obtain ⟨n, hn, rfl, hW⟩ := hrel
            have l1 := ((unhide hW).cell (p := ⟨ga, oa + i, none⟩) (unhide HQ3)).trans (unhide HQ4)
            have l2 := Nat.lt_of_lt_of_le (unhide HQ3) (unhide hW).size
            by_cases hlt2 : n < 16
            · have l3 := ((unhide hW).cell (p := ⟨g, o + n * 3 + 0, none⟩) (unhide HQ7)).trans (unhide HQ8 n hlt2 0 _ rfl)
              have l3' : wr.cell? ⟨g, o + n * 3, none⟩ = some (.int .i64 (M i)) := l3
              have l4 := Nat.lt_of_lt_of_le (unhide HQ7) (unhide hW).size
              obtain ⟨M9, hM9⟩ : ∃ M9, Hid (M i = M9) := ⟨_, hide rfl⟩
              have ewM : IntKind.i64.wrap (-1 - (i : Int)) = M9 := by rw [← unhide hM9, unhide hM]
              rw [unhide hM9] at l3'
              have j0 : (0 : Int) ≤ (n : Int) := by omega
              have j1 : (n : Int) < 16 := by omega
              clear l3
              go_wp2_with fail
              go_roundg (gk - 1)
              case measure => have := unhide hn; omega
              case rel => exact ⟨n + 1, by have := unhide hn; unfold Hid; omega, by go_num, hW⟩
            · have hnc : n = 16 := by have := unhide hn; omega
              subst hnc
              go_wp2_with fail
              go_roundg (G0 - 1)
              case measure => have h1 := unhide hG0; have h2 := unhide hi; omega
              case rel => exact ⟨i + 1, by have h1 := unhide hG0; have h2 := unhide hi; unfold Hid; omega, by go_num, hW⟩
        · have hiN : i = k := by have := unhide hi; omega
          subst hiN
          go_wp2_with fail
          have HGA2 := hide ((unhide HGA).mv (G' := G) (Fr.of_below (S := fun _ => False) (unhide hW)) (fun _ _ e => e.elim) (fun _ _ _ => rfl))
          have HLO2 := hide (LO.fr stayCE (unhide HLO) (Fr.of_below (S := fun _ => False) (unhide hW)) (fun _ _ e => e))
          have HFR2 := hide ((unhide HFR).trans (Fr.of_below (S := fun q => ∃ y ∈ cs, blG y q) (unhide hW)))
          clear HGA HLO HFR
          have HGA := HGA2
          have HLO := HLO2
          have HFR := HFR2
          clear HGA2 HLO2 HFR2 hW hi
          obtain ⟨Y, rfl⟩ : ∃ Y, Y = wr := ⟨_, rfl⟩
          have HYI := hide (Below.refl Y.heap.size Y)
          go_loopg [18] NI (fun gg t18 wr => ∃ (i : Nat), Hid (i + gg = NI) ∧ t18 = .int .i64 (i : Int) ∧ Hid (Below Y.heap.size Y wr))
          case atStart => exact ⟨0, by unfold Hid; omega, rfl, HYI⟩
          case round =>
            clear HYI
            obtain ⟨i, hi, rfl, hW⟩ := hrel
            by_cases hlt : i < NI
            · obtain ⟨u, hu⟩ : ∃ u, vI[i]? = some u := ⟨_, List.getElem?_eq_getElem (by rw [unhide hLI]; exact hlt)⟩
              obtain ⟨ga, oa, ac, g, o, c, e, q1, q2, q3, q4, q5, q6, q7, q8⟩ := (unhide HGA).I.cell zIn hu
              rw [unhide hLI] at e q1
              cases e
              have HQ8 := hide q8
              have HQ4 := hide q4
              have HQ7 := hide q7
              have HQ3 := hide q3
              have l1 := ((unhide hW).cell (p := ⟨ga, oa + i, none⟩) q3).trans q4
              have l2 := Nat.lt_of_lt_of_le q3 (unhide hW).size
              unfold maxLen at q6
              have i0 : (0 : Int) ≤ (i : Int) := by omega
              have i1 : (i : Int) < (NI : Int) := by omega
              obtain ⟨G0, hG0⟩ : ∃ G0 : Nat, Hid (G0 = gk) := ⟨_, rfl⟩
              clear q8 q4 q7 q3 hu
              go_wp2_with fail
              clear l1 l2
              go_loopg [19] 16 (fun gg t19 wr => ∃ (n : Nat), Hid (n + gg = 16) ∧ t19 = .int .i64 (n : Int) ∧ Hid (Below Y.heap.size Y wr))
              case atStart => exact ⟨0, by unfold Hid; omega, rfl, hW⟩
              case round =>
                clear hW
                obtain ⟨n, hn, rfl, hW⟩ := hrel
                have l1 := ((unhide hW).cell (p := ⟨ga, oa + i, none⟩) (unhide HQ3)).trans (unhide HQ4)
                have l2 := Nat.lt_of_lt_of_le (unhide HQ3) (unhide hW).size
                by_cases hlt2 : n < 16
                · have l3 := ((unhide hW).cell (p := ⟨g, o + n * 8 + 6, none⟩) (unhide HQ7)).trans (unhide HQ8 n hlt2 6 _ rfl)
                  have l3' : wr.cell? ⟨g, o + n * 8 + 6, none⟩ = some (.int .i64 (M i)) := l3
                  have l4 := Nat.lt_of_lt_of_le (unhide HQ7) (unhide hW).size
                  obtain ⟨M9, hM9⟩ : ∃ M9, Hid (M i = M9) := ⟨_, hide rfl⟩
                  have ewM : IntKind.i64.wrap (-1 - (i : Int)) = M9 := by rw [← unhide hM9, unhide hM]
                  rw [unhide hM9] at l3'
                  have j0 : (0 : Int) ≤ (n : Int) := by omega
                  have j1 : (n : Int) < 16 := by omega
                  clear l3
                  go_wp2_with fail
                  go_roundg (gk - 1)
                  case measure => have := unhide hn; omega
                  case rel => exact ⟨n + 1, by have := unhide hn; unfold Hid; omega, by go_num, hW⟩
                · have hnc : n = 16 := by have := unhide hn; omega
                  subst hnc
                  go_wp2_with fail
                  go_roundg (G0 - 1)
                  case measure => have h1 := unhide hG0; have h2 := unhide hi; omega
                  case rel => exact ⟨i + 1, by have h1 := unhide hG0; have h2 := unhide hi; unfold Hid; omega, by go_num, hW⟩
            · have hiN : i = NI := by have := unhide hi; omega
              subst hiN
              go_wp2_with fail
              have HGA2 := hide ((unhide HGA).mv (G' := G) (Fr.of_below (S := fun _ => False) (unhide hW)) (fun _ _ e => e.elim) (fun _ _ _ => rfl))
              have HLO2 := hide (LO.fr stayCE (unhide HLO) (Fr.of_below (S := fun _ => False) (unhide hW)) (fun _ _ e => e))
              have HFR2 := hide ((unhide HFR).trans (Fr.of_below (S := fun q => ∃ y ∈ cs, blG y q) (unhide hW)))
              clear HGA HLO HFR
              have HGA := HGA2
              have HLO := HLO2
              have HFR := HFR2
              clear HGA2 HLO2 HFR2 hW hi
              obtain ⟨Y, rfl⟩ : ∃ Y, Y = wr := ⟨_, rfl⟩
              have HYE := hide (Below.refl Y.heap.size Y)
              go_loopg [20] NE (fun gg t20 wr => ∃ (i : Nat), Hid (i + gg = NE) ∧ t20 = .int .i64 (i : Int) ∧ Hid (Below Y.heap.size Y wr))
              case atStart => exact ⟨0, by unfold Hid; omega, rfl, HYE⟩
              case round =>
                clear HYE
                obtain ⟨i, hi, rfl, hW⟩ := hrel
                by_cases hlt : i < NE
                · obtain ⟨u, hu⟩ : ∃ u, vE[i]? = some u := ⟨_, List.getElem?_eq_getElem (by rw [unhide hLE]; exact hlt)⟩
                  obtain ⟨ga, oa, ac, g, o, c, e, q1, q2, q3, q4, q5, q6, q7, q8⟩ := (unhide HGA).E.cell zSh hu
                  rw [unhide hLE] at e q1
                  cases e
                  have HQ8 := hide q8
                  have HQ4 := hide q4
                  have HQ7 := hide q7
                  have HQ3 := hide q3
                  have l1 := ((unhide hW).cell (p := ⟨ga, oa + i, none⟩) q3).trans q4
                  have l2 := Nat.lt_of_lt_of_le q3 (unhide hW).size
                  unfold maxLen at q6
                  have i0 : (0 : Int) ≤ (i : Int) := by omega
                  have i1 : (i : Int) < (NE : Int) := by omega
                  obtain ⟨G0, hG0⟩ : ∃ G0 : Nat, Hid (G0 = gk) := ⟨_, rfl⟩
                  clear q8 q4 q7 q3 hu
                  go_wp2_with fail
                  clear l1 l2
                  go_loopg [21] 4 (fun gg t21 wr => ∃ (n : Nat), Hid (n + gg = 4) ∧ t21 = .int .i64 (n : Int) ∧ Hid (Below Y.heap.size Y wr))
                  case atStart => exact ⟨0, by unfold Hid; omega, rfl, hW⟩
                  case round =>
                    clear hW
                    obtain ⟨n, hn, rfl, hW⟩ := hrel
                    have l1 := ((unhide hW).cell (p := ⟨ga, oa + i, none⟩) (unhide HQ3)).trans (unhide HQ4)
                    have l2 := Nat.lt_of_lt_of_le (unhide HQ3) (unhide hW).size
                    by_cases hlt2 : n < 4
                    · have l3 := ((unhide hW).cell (p := ⟨g, o + n * 3 + 0, none⟩) (unhide HQ7)).trans (unhide HQ8 n hlt2 0 _ rfl)
                      have l3' : wr.cell? ⟨g, o + n * 3, none⟩ = some (.int .i64 (M i)) := l3
                      have l4 := Nat.lt_of_lt_of_le (unhide HQ7) (unhide hW).size
                      obtain ⟨M9, hM9⟩ : ∃ M9, Hid (M i = M9) := ⟨_, hide rfl⟩
                      have ewM : IntKind.i64.wrap (-1 - (i : Int)) = M9 := by rw [← unhide hM9, unhide hM]
                      rw [unhide hM9] at l3'
                      have j0 : (0 : Int) ≤ (n : Int) := by omega
                      have j1 : (n : Int) < 4 := by omega
                      clear l3
                      go_wp2_with fail
                      go_roundg (gk - 1)
                      case measure => have := unhide hn; omega
                      case rel => exact ⟨n + 1, by have := unhide hn; unfold Hid; omega, by go_num, hW⟩
                    · have hnc : n = 4 := by have := unhide hn; omega
                      subst hnc
                      go_wp2_with fail
                      go_roundg (G0 - 1)
                      case measure => have h1 := unhide hG0; have h2 := unhide hi; omega
                      case rel => exact ⟨i + 1, by have h1 := unhide hG0; have h2 := unhide hi; unfold Hid; omega, by go_num, hW⟩
                · have hiN : i = NE := by have := unhide hi; omega
                  subst hiN
                  go_wp2_with fail
                  go_ret
                  refine ⟨rfl, LO.fr stayCE (unhide HLO) (Fr.of_below (S := fun _ => False) (unhide hW)) (fun _ _ e => e), (unhide HFR).trans (Fr.of_below (S := fun q => ∃ y ∈ cs, blG y q) (unhide hW))⟩
end Go.Proofs.Ytpbdpejhjdoleaa
