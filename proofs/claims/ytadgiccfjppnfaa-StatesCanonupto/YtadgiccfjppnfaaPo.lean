/-
  The program's order in memory.
-/
import Derived.Test.YtadgiccfjppnfaaPm
namespace Go.Proofs.Ytadgiccfjppnfaa
open Go.RowKit
set_option linter.unusedVariables false
set_option linter.unusedSimpArgs false
def nobv : Obv := ⟨0, .slice none 0 0, .slice none 0 0, 0, 0, false⟩
/-- The blocks of an order. -/
def orb (tv ov : Value) (ob mb k : Nat) : Prop := k = ob ∨ k = mb ∨ tv.ownBlock = some k ∨ ov.ownBlock = some k
/-- An order in memory: these texts and objects were met. -/
structure OrM (B : Nat) (T : List ByteArray) (O : List Ob) (X : List Obv) (ob mb : Nat) (tv ov : Value) (w : World) (m : List Nat × List Nat) : Prop where
  box : w.heap[ob]? = some (.cells #[tv, ov, .map (some mb)] 73)
  rt : Ro w 1 tv m.1.length (flt enT (m.1.map fun i => T.getD i ByteArray.empty))
  ro : Ro w 6 ov m.2.length (flt enO (m.2.map fun j => X.getD j nobv))
  mp : MfV w mb (m.1.length + m.2.length) (mpF O m)
  b0 : B ≤ ob
  bm : B ≤ mb ∧ mb ≠ ob
  ft : ∀ k, tv.ownBlock = some k → B ≤ k ∧ k ≠ ob ∧ k ≠ mb
  fo : ∀ k, ov.ownBlock = some k → B ≤ k ∧ k ≠ ob ∧ k ≠ mb ∧ tv.ownBlock ≠ some k
theorem OrM.in {B : Nat} {T : List ByteArray} {O : List Ob} {X : List Obv} {ob mb : Nat} {tv ov : Value} {w : World} {m : List Nat × List Nat} (h : OrM B T O X ob mb tv ov w m) {k : Nat} (hk : orb tv ov ob mb k) : B ≤ k ∧ k < w.heap.size := by
  rcases hk with rfl | rfl | hk | hk
  · exact ⟨h.b0, (Array.getElem?_eq_some_iff.1 h.box).1⟩
  · exact ⟨h.bm.1, h.mp.lt⟩
  · exact ⟨(h.ft k hk).1, h.rt.lt k hk⟩
  · exact ⟨(h.fo k hk).1, h.ro.lt k hk⟩
theorem OrM.fr {B : Nat} {T : List ByteArray} {O : List Ob} {X : List Obv} {ob mb : Nat} {tv ov : Value} {w w' : World} {m : List Nat × List Nat} {S : Nat → Prop} (h : OrM B T O X ob mb tv ov w m) (f : Fr S w w') (hS : ∀ k, orb tv ov ob mb k → ¬ S k) : OrM B T O X ob mb tv ov w' m :=
  ⟨(f.block ob (h.in (.inl rfl)).2 (hS ob (.inl rfl))).trans h.box, h.rt.fr f (fun k hk => hS k (.inr (.inr (.inl hk)))), h.ro.fr f (fun k hk => hS k (.inr (.inr (.inr hk)))), h.mp.fr f (hS mb (.inr (.inl rfl))), h.b0, h.bm, h.ft, h.fo⟩
/-- From one order to a later one: nothing else has turned. -/
def OrT (ob mb : Nat) (tv ov : Value) (w : World) (tv' ov' : Value) (w' : World) : Prop :=
  Fr (orb tv ov ob mb) w w' ∧ ∀ k, orb tv' ov' ob mb k → orb tv ov ob mb k ∨ w.heap.size ≤ k
theorem OrT.refl (ob mb : Nat) (tv ov : Value) (w : World) : OrT ob mb tv ov w tv ov w := ⟨Fr.refl _ _, fun k hk => .inl hk⟩
theorem OrT.trans {ob mb : Nat} {a b a1 b1 a2 b2 : Value} {w w1 w2 : World} (h : OrT ob mb a b w a1 b1 w1) (k : OrT ob mb a1 b1 w1 a2 b2 w2) : OrT ob mb a b w a2 b2 w2 := by
  have h1 := h.1.size
  refine ⟨⟨k.1.os.trans h.1.os, k.1.tape.trans h.1.tape, k.1.output.trans h.1.output, Nat.le_trans h1 k.1.size, fun i hi hn => ?_⟩, fun i hi => ?_⟩
  · refine (k.1.block i (by omega) (fun q => ?_)).trans (h.1.block i hi hn)
    rcases h.2 i q with r | r
    · exact hn r
    · omega
  · rcases k.2 i hi with q | q
    · exact h.2 i q
    · exact .inr (by omega)
theorem OrT.of_below {ob mb : Nat} {a b : Value} {w w1 : World} (h : Below w.heap.size w w1) : OrT ob mb a b w a b w1 := ⟨Fr.of_below h, fun k hk => .inl hk⟩
theorem OrT.below {ob mb : Nat} {a b a1 b1 : Value} {w w1 : World} {B : Nat} (h : OrT ob mb a b w a1 b1 w1) (hB : B ≤ w.heap.size) (hs : ∀ k, orb a b ob mb k → B ≤ k) : Below B w w1 := h.1.below hB (fun k hk q => by have := hs k q; omega)
theorem boxR3 {w : World} {g : Nat} {a b c : Value} {t : TypeId} (h : w.heap[g]? = some (.cells #[a, b, c] t)) : (∀ u, (w.setCell ⟨g, 0, none⟩ u).heap[g]? = some (.cells #[u, b, c] t)) ∧ ∀ u, (w.setCell ⟨g, 1, none⟩ u).heap[g]? = some (.cells #[a, u, c] t) :=
  ⟨fun u => setCell_block h u, fun u => setCell_block h u⟩
/-- A text more: the map and the row have it. w1: behind the map; w2: behind append. -/
theorem OrM.addT {B : Nat} {T : List ByteArray} {O : List Ob} {X : List Obv} {ob mb : Nat} {tv ov : Value} {w w1 w2 : World} {m : List Nat × List Nat} (h : OrM B T O X ob mb tv ov w m) {n : Nat} (hn : n ∉ m.1) (hB : B ≤ w.heap.size)
    (hm : MfV w1 mb (m.1.length + m.2.length + 1) (fun t => if t = (4, (n : Int)) then some m.1.length else mpF O m t)) (f1 : Fr (fun k => k = mb) w w1) {wa : World} (fa : Below w1.heap.size w1 wa)
    {v' : Value} {q : Nat} (hr : Ro w2 1 v' q (flt enT (m.1.map fun i => T.getD i ByteArray.empty) ++ enT (T.getD n ByteArray.empty))) (hq : q = m.1.length + 1) (hg : wa.grownBy w2 tv.ownBlock) (hat : v'.ownBlock = tv.ownBlock ∨ v'.ownBlock = some wa.heap.size) :
    OrM B T O X ob mb v' ov (w2.setCell ⟨ob, 0, none⟩ v') (m.1 ++ [n], m.2) ∧ OrT ob mb tv ov w v' ov (w2.setCell ⟨ob, 0, none⟩ v') ∧ w2.heap[ob]? = some (.cells #[tv, ov, .map (some mb)] 73) := by
  subst hq
  have hs1 := f1.size
  have hsa := fa.size
  have ho := (h.in (k := ob) (.inl rfl)).2
  have hmb := h.mp.lt
  have fg : Fr (fun k => tv.ownBlock = some k) w1 w2 := (Fr.of_below (S := fun k => tv.ownBlock = some k) fa).trans ((Fr.refl _ wa).grown hg (fun k e => .inr e))
  have fS : Fr (fun k => k = ob) w2 (w2.setCell ⟨ob, 0, none⟩ v') := (Fr.refl (fun k => k = ob) w2).setCell ⟨ob, 0, none⟩ (.inr rfl) v'
  have f12 : Fr (orb tv ov ob mb) w w2 := (f1.mono (fun k _ e => .inr (.inl e))).trans (fg.mono (fun k _ e => .inr (.inr (.inl e))))
  have f13 : Fr (orb tv ov ob mb) w (w2.setCell ⟨ob, 0, none⟩ v') := f12.trans (fS.mono (fun k _ e => .inl e))
  have b1 : w1.heap[ob]? = some (.cells #[tv, ov, .map (some mb)] 73) := (f1.block ob ho (fun e => h.bm.2 e.symm)).trans h.box
  have b2 : w2.heap[ob]? = some (.cells #[tv, ov, .map (some mb)] 73) := (fg.block ob (by omega) (fun e => (h.ft ob e).2.1 rfl)).trans b1
  have hv : ∀ k, v'.ownBlock = some k → tv.ownBlock = some k ∨ w1.heap.size ≤ k := fun k hk => by
    rcases hat with e | e
    · exact .inl (e ▸ hk)
    · rw [e] at hk; cases hk; exact .inr hsa
  refine ⟨⟨(boxR3 b2).1 v', ?_, ?_, ?_, h.b0, h.bm, fun k hk => ?_, fun k hk => ?_⟩, ⟨f13, fun k hk => ?_⟩, b2⟩
  · simp only [List.length_append, List.length_singleton, List.map_append, List.map_cons, List.map_nil]
    rw [flt_append, flt_one]
    exact hr.fr fS (fun k hk e => by
      rcases hv k hk with q | q
      · exact (h.ft k q).2.1 e
      · omega)
  · exact ((h.ro.fr f1 (fun k hk e => (h.fo k hk).2.2.1 e)).fr fg (fun k hk e => (h.fo k hk).2.2.2 e)).fr fS (fun k hk e => (h.fo k hk).2.1 e)
  · have := ((hm.congr (mpF_t hn)).fr fg (fun e => (h.ft mb e).2.2 rfl)).fr fS h.bm.2
    simp only [List.length_append, List.length_singleton]
    rw [show m.1.length + 1 + m.2.length = m.1.length + m.2.length + 1 by omega]
    exact this
  · rcases hv k hk with q | q
    · exact h.ft k q
    · exact ⟨by omega, by omega, by omega⟩
  · refine ⟨(h.fo k hk).1, (h.fo k hk).2.1, (h.fo k hk).2.2.1, fun e => ?_⟩
    rcases hv k e with q | q
    · exact (h.fo k hk).2.2.2 q
    · have := h.ro.lt k hk; omega
  · rcases hk with e | e | e | e
    · exact .inl (.inl e)
    · exact .inl (.inr (.inl e))
    · rcases hv k e with q | q
      · exact .inl (.inr (.inr (.inl q)))
      · exact .inr (by omega)
    · exact .inl (.inr (.inr (.inr e)))
/-- An object more. -/
theorem OrM.addO {B : Nat} {T : List ByteArray} {O : List Ob} {X : List Obv} {ob mb : Nat} {tv ov : Value} {w w1 w2 : World} {m : List Nat × List Nat} (h : OrM B T O X ob mb tv ov w m) {kd : Int} {n : Nat} (hn : n ∉ m.2) (h4 : kd ≠ 4) (hs : (nmO O (kd, (n : Int))).isSome = true) (hB : B ≤ w.heap.size)
    (hm : MfV w1 mb (m.1.length + m.2.length + 1) (fun t => if t = (kd, (n : Int)) then some m.2.length else mpF O m t)) (f1 : Fr (fun k => k = mb) w w1) {wa : World} (fa : Below w1.heap.size w1 wa)
    {v' : Value} {q : Nat} (hr : Ro w2 6 v' q (flt enO (m.2.map fun j => X.getD j nobv) ++ enO (X.getD n nobv))) (hq : q = m.2.length + 1) (hg : wa.grownBy w2 ov.ownBlock) (hat : v'.ownBlock = ov.ownBlock ∨ v'.ownBlock = some wa.heap.size) :
    OrM B T O X ob mb tv v' (w2.setCell ⟨ob, 1, none⟩ v') (m.1, m.2 ++ [n]) ∧ OrT ob mb tv ov w tv v' (w2.setCell ⟨ob, 1, none⟩ v') ∧ w2.heap[ob]? = some (.cells #[tv, ov, .map (some mb)] 73) := by
  subst hq
  have hs1 := f1.size
  have hsa := fa.size
  have ho := (h.in (k := ob) (.inl rfl)).2
  have hmb := h.mp.lt
  have fg : Fr (fun k => ov.ownBlock = some k) w1 w2 := (Fr.of_below (S := fun k => ov.ownBlock = some k) fa).trans ((Fr.refl _ wa).grown hg (fun k e => .inr e))
  have fS : Fr (fun k => k = ob) w2 (w2.setCell ⟨ob, 1, none⟩ v') := (Fr.refl (fun k => k = ob) w2).setCell ⟨ob, 1, none⟩ (.inr rfl) v'
  have f12 : Fr (orb tv ov ob mb) w w2 := (f1.mono (fun k _ e => .inr (.inl e))).trans (fg.mono (fun k _ e => .inr (.inr (.inr e))))
  have f13 : Fr (orb tv ov ob mb) w (w2.setCell ⟨ob, 1, none⟩ v') := f12.trans (fS.mono (fun k _ e => .inl e))
  have b1 : w1.heap[ob]? = some (.cells #[tv, ov, .map (some mb)] 73) := (f1.block ob ho (fun e => h.bm.2 e.symm)).trans h.box
  have b2 : w2.heap[ob]? = some (.cells #[tv, ov, .map (some mb)] 73) := (fg.block ob (by omega) (fun e => (h.fo ob e).2.1 rfl)).trans b1
  have hv : ∀ k, v'.ownBlock = some k → ov.ownBlock = some k ∨ w1.heap.size ≤ k := fun k hk => by
    rcases hat with e | e
    · exact .inl (e ▸ hk)
    · rw [e] at hk; cases hk; exact .inr hsa
  refine ⟨⟨(boxR3 b2).2 v', ?_, ?_, ?_, h.b0, h.bm, h.ft, fun k hk => ?_⟩, ⟨f13, fun k hk => ?_⟩, b2⟩
  · exact ((h.rt.fr f1 (fun k hk e => (h.ft k hk).2.2 e)).fr fg (fun k hk e => (h.fo k e).2.2.2 hk)).fr fS (fun k hk e => (h.ft k hk).2.1 e)
  · simp only [List.length_append, List.length_singleton, List.map_append, List.map_cons, List.map_nil]
    rw [flt_append, flt_one]
    exact hr.fr fS (fun k hk e => by
      rcases hv k hk with q | q
      · exact (h.fo k q).2.1 e
      · omega)
  · have := ((hm.congr (mpF_o hn h4 hs)).fr fg (fun e => (h.fo mb e).2.2.1 rfl)).fr fS h.bm.2
    simp only [List.length_append, List.length_singleton]
    rw [← Nat.add_assoc]
    exact this
  · rcases hv k hk with q | q
    · exact h.fo k q
    · exact ⟨by omega, by omega, by omega, fun e => by have := h.rt.lt k e; omega⟩
  · rcases hk with e | e | e | e
    · exact .inl (.inl e)
    · exact .inl (.inr (.inl e))
    · exact .inl (.inr (.inr (.inl e)))
    · rcases hv k e with q | q
      · exact .inl (.inr (.inr (.inr q)))
      · exact .inr (by omega)
/-- A state handed in, as the walk reads it: its rows, told at the world ahead of all. -/
structure SIn (w0 : World) (T : List ByteArray) (O : List Ob) (X : List Obv) (ta oa : Option Addr) (tc oc : Nat) : Prop where
  t : Rx w0 1 (.slice ta T.length tc) T.length (flt enT T)
  o : Rx w0 6 (.slice oa O.length oc) O.length (flt enO X)
  l : X.length = O.length
  e : ∀ (i : Nat) (o : Ob) (x : Obv), O[i]? = some o → X[i]? = some x → ObV w0 o x
theorem SIn.os {w0 : World} {T : List ByteArray} {O : List Ob} {X : List Obv} {ta oa : Option Addr} {tc oc : Nat} (h : SIn w0 T O X ta oa tc oc) : OsV w0 (.slice oa O.length oc) O :=
  ⟨X, h.l, by rw [h.l]; exact h.o, h.e⟩
/-- The walk's state: the order, the two boxes that the closure has. -/
structure PW (w0 : World) (T : List ByteArray) (O : List Ob) (X : List Obv) (sv : Array Value) (pb qb ob mb : Nat) (tv ov : Value) (w : World) (m : List Nat × List Nat) : Prop where
  or : OrM w0.heap.size T O X ob mb tv ov w m
  bs : w.heap[pb]? = some (.cells sv 26)
  bo : w.heap[qb]? = some (.cells #[.pointer (some ⟨ob, 0, none⟩)] 68)
  np : ¬ orb tv ov ob mb pb
  nq : ¬ orb tv ov ob mb qb
  bl : Below w0.heap.size w0 w
theorem PW.on {w0 : World} {T : List ByteArray} {O : List Ob} {X : List Obv} {sv : Array Value} {pb qb ob mb : Nat} {tv ov tv' ov' : Value} {w w' : World} {m m' : List Nat × List Nat} (h : PW w0 T O X sv pb qb ob mb tv ov w m) (k : OrM w0.heap.size T O X ob mb tv' ov' w' m') (t : OrT ob mb tv ov w tv' ov' w') : PW w0 T O X sv pb qb ob mb tv' ov' w' m' := by
  have hp := (Array.getElem?_eq_some_iff.1 h.bs).1
  have hq := (Array.getElem?_eq_some_iff.1 h.bo).1
  refine ⟨k, (t.1.block pb hp h.np).trans h.bs, (t.1.block qb hq h.nq).trans h.bo, fun e => ?_, fun e => ?_, h.bl.trans (t.below h.bl.size (fun k hk => (h.or.in hk).1))⟩
  · rcases t.2 pb e with q | q
    · exact h.np q
    · omega
  · rcases t.2 qb e with q | q
    · exact h.nq q
    · omega
theorem PW.below {w0 : World} {T : List ByteArray} {O : List Ob} {X : List Obv} {sv : Array Value} {pb qb ob mb : Nat} {tv ov : Value} {w w' : World} {m : List Nat × List Nat} (h : PW w0 T O X sv pb qb ob mb tv ov w m) (f : Below w.heap.size w w') : PW w0 T O X sv pb qb ob mb tv ov w' m :=
  h.on (h.or.fr (Fr.of_below (S := fun _ => False) f) (fun _ _ e => e)) (OrT.of_below f)
/-- Behind a call that meets: this was met. -/
def MeP (w0 : World) (T : List ByteArray) (O : List Ob) (X : List Obv) (sv : Array Value) (pb qb ob mb : Nat) (tv ov : Value) (w : World) (m : List Nat × List Nat) (w' : World) : Prop :=
  ∃ tv' ov', PW w0 T O X sv pb qb ob mb tv' ov' w' m ∧ OrT ob mb tv ov w tv' ov' w'
end Go.Proofs.Ytadgiccfjppnfaa
