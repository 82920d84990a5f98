/-
  The document's Canon: what it finds; the book at its beginning.
-/
import Derived.Test.YtadgiccfjppnfaaBor
namespace Go.Proofs.Ytadgiccfjppnfaa
open Go.RowKit
set_option linter.unusedVariables false
set_option linter.unusedSimpArgs false
theorem bobject_any {w0 : World} {bb nt no : Nat} {c : Nat → Value} {w : World} {m : List Nat × List Nat} {O : List Ob} (h : BkM w0.heap.size bb nt no c w m.1 m.2) {ta oa : Option Addr} {tc oc : Nat} (h0 : c 0 = .slice ta nt tc) (h1 : c 1 = .slice oa no oc) (hO : OsV w0 (.slice oa no oc) O) (hm : MOk nt no m) (hnt : nt ≤ 1048576) (hno : no ≤ 1048576) (hw : Below w0.heap.size w0 w)
    {v : Value} {o : Ob} (ho : ObA w0 v o) (hN : o.its.length ≤ 1048576) (hK : o.keys.length ≤ 1048576) :
    Calls Try.prog 28 #[.pointer (some ⟨bb, 0, none⟩), v] w (ObP w0.heap.size bb nt no c w (metO nt O m o) (numO nt O m o)) := by
  by_cases hk : o.kind = 7
  · exact bobject_rec h h0 h1 hO hm hnt hno hw ho hN hK hk
  · exact bobject_plain h h0 h1 hO hm hnt hno hw ho hN hK hk
/-- Frames, fibers: what is met, and they with new numbers. -/
def metM (nt : Nat) (O : List Ob) (m : List Nat × List Nat) (fs : List Fm) : List Nat × List Nat := fs.foldl (fun m f => metVs nt O m f.sl) m
def numM (nt : Nat) (O : List Ob) : List Nat × List Nat → List Fm → List Fm
  | _, [] => []
  | m, f :: r => { f with sl := numVs nt O m f.sl } :: numM nt O (metVs nt O m f.sl) r
theorem metM_push (nt : Nat) (O : List Ob) (m : List Nat × List Nat) (l : List Fm) (f : Fm) : metM nt O m (l ++ [f]) = metVs nt O (metM nt O m l) f.sl := by simp [metM]
theorem numM_push (nt : Nat) (O : List Ob) : ∀ (l : List Fm) (m : List Nat × List Nat) (f : Fm), numM nt O m (l ++ [f]) = numM nt O m l ++ [{ f with sl := numVs nt O (metM nt O m l) f.sl }]
  | [], m, v => rfl
  | a :: r, m, v => by
    simp only [List.cons_append, numM, numM_push nt O r]
    rfl
theorem numM_length (nt : Nat) (O : List Ob) : ∀ (l : List Fm) (m : List Nat × List Nat), (numM nt O m l).length = l.length
  | [], m => rfl
  | a :: r, m => by simp [numM, numM_length nt O r]
theorem MOk.ms {nt : Nat} {O : List Ob} : ∀ (l : List Fm) {m : List Nat × List Nat}, MOk nt O.length m → MOk nt O.length (metM nt O m l)
  | [], m, h => h
  | a :: r, m, h => MOk.ms r (MOk.vs a.sl h)
def metF (nt : Nat) (O : List Ob) (m : List Nat × List Nat) (fs : List (List Fm)) : List Nat × List Nat := fs.foldl (metM nt O) m
def numF (nt : Nat) (O : List Ob) : List Nat × List Nat → List (List Fm) → List (List Fm)
  | _, [] => []
  | m, f :: r => numM nt O m f :: numF nt O (metM nt O m f) r
theorem metF_push (nt : Nat) (O : List Ob) (m : List Nat × List Nat) (l : List (List Fm)) (f : List Fm) : metF nt O m (l ++ [f]) = metM nt O (metF nt O m l) f := by simp [metF]
theorem numF_push (nt : Nat) (O : List Ob) : ∀ (l : List (List Fm)) (m : List Nat × List Nat) (f : List Fm), numF nt O m (l ++ [f]) = numF nt O m l ++ [numM nt O (metF nt O m l) f]
  | [], m, v => rfl
  | a :: r, m, v => by
    simp only [List.cons_append, numF, numF_push nt O r]
    rfl
theorem numF_length (nt : Nat) (O : List Ob) : ∀ (l : List (List Fm)) (m : List Nat × List Nat), (numF nt O m l).length = l.length
  | [], m => rfl
  | a :: r, m => by simp [numF, numF_length nt O r]
theorem MOk.fs {nt : Nat} {O : List Ob} : ∀ (l : List (List Fm)) {m : List Nat × List Nat}, MOk nt O.length m → MOk nt O.length (metF nt O m l)
  | [], m, h => h
  | a :: r, m, h => MOk.fs r (MOk.ms a h)
/-- The objects that are met, gone through from the first on. -/
def wl (nt : Nat) (O : List Ob) (m : List Nat × List Nat) : Nat → (List Nat × List Nat) × List Ob
  | 0 => (m, [])
  | i + 1 =>
    let s := wl nt O m i
    match (s.1.2[i]?).bind (fun j => O[j]?) with
    | some o => (metO nt O s.1 o, s.2 ++ [numO nt O s.1 o])
    | none => s
theorem wl_some {nt : Nat} {O : List Ob} {m : List Nat × List Nat} {i j : Nat} {o : Ob} (hj : (wl nt O m i).1.2[i]? = some j) (ho : O[j]? = some o) : wl nt O m (i + 1) = (metO nt O (wl nt O m i).1 o, (wl nt O m i).2 ++ [numO nt O (wl nt O m i).1 o]) := by
  simp only [wl, hj, Option.bind_some, ho]
theorem wl_stop {nt : Nat} {O : List Ob} {m : List Nat × List Nat} {i : Nat} (h : (wl nt O m i).1.2.length ≤ i) : ∀ d, wl nt O m (i + d) = wl nt O m i
  | 0 => rfl
  | d + 1 => by
    have ih := wl_stop h d
    rw [← Nat.add_assoc]
    show (match ((wl nt O m (i + d)).1.2[i + d]?).bind (fun j => O[j]?) with | some o => (metO nt O (wl nt O m (i + d)).1 o, (wl nt O m (i + d)).2 ++ [numO nt O (wl nt O m (i + d)).1 o]) | none => wl nt O m (i + d)) = _
    rw [ih, List.getElem?_eq_none (by omega)]
    rfl
theorem MOk.o {nt : Nat} {O : List Ob} {m : List Nat × List Nat} (h : MOk nt O.length m) (o : Ob) : MOk nt O.length (metO nt O m o) := by
  unfold metO
  split
  · exact MOk.recs h _ _ _
  · exact MOk.vs _ h
theorem MOk.wl {nt : Nat} {O : List Ob} {m : List Nat × List Nat} (h : MOk nt O.length m) : ∀ i, MOk nt O.length (wl nt O m i).1
  | 0 => h
  | i + 1 => by
    have ih := MOk.wl h i
    simp only [Ytadgiccfjppnfaa.wl]
    split
    · exact ih.o _
    · exact ih
/-- The state that the document finds. -/
def canD (s : St) : St :=
  let m := metF s.texts.length s.objs ([], []) s.fibs
  let r := wl s.texts.length s.objs m s.objs.length
  { s with texts := r.1.1.map (fun i => s.texts.getD i ByteArray.empty), objs := r.2, fibs := numF s.texts.length s.objs ([], []) s.fibs }
theorem allP_grow (n : Nat) : allP (n + 1) [] = allP n [] ++ [-1] := by
  simp [allP, List.range_succ, posN]
theorem BkM.grow9 {B bb nt no : Nat} {c : Nat → Value} {w Wa w2 : World} (h : BkM B bb nt no c w [] []) (ha : Below w.heap.size w Wa) {v' : Value} {q : Nat} (hr : Ro w2 1 v' q (flt enL (allP nt []) ++ enL (-1))) (hq : q = nt + 1) (hg : Wa.grownBy w2 (c 9).ownBlock) (hat : v'.ownBlock = (c 9).ownBlock ∨ v'.ownBlock = some Wa.heap.size) :
    BkM B bb (nt + 1) no (upd c 9 v') (w2.setCell ⟨bb, 9, none⟩ v') [] [] ∧ w2.heap[bb]? = some (.cells (bkC c) 66) ∧ Fr (bkb c bb) w (w2.setCell ⟨bb, 9, none⟩ v') ∧ ∀ k, bkb (upd c 9 v') bb k → bkb c bb k ∨ w.heap.size ≤ k := by
  subst hq
  have fg : Fr (fun k => (c 9).ownBlock = some k) w w2 := (Fr.of_below (S := fun k => (c 9).ownBlock = some k) ha).trans ((Fr.refl _ Wa).grown hg (fun k e => .inr e))
  have hbb := (Array.getElem?_eq_some_iff.1 h.box).1
  have hsa := ha.size
  have hs2 := fg.size
  have b2 : w2.heap[bb]? = some (.cells (bkC c) 66) := (fg.block bb hbb (fun q => (h.fb 9 bb (by omega) (by omega) q).2 rfl)).trans h.box
  have fb2 : Fr (fun k => k = bb) w2 (w2.setCell ⟨bb, 9, none⟩ v') := (Fr.refl (fun k => k = bb) w2).setCell ⟨bb, 9, none⟩ (.inr rfl) v'
  have hv' : ∀ k, v'.ownBlock = some k → (c 9).ownBlock = some k ∨ w.heap.size ≤ k := fun k hk => by
    rcases hat with q | q
    · exact .inl (q ▸ hk)
    · rw [q] at hk; cases hk; exact .inr hsa
  have hneb : ∀ k, v'.ownBlock = some k → k ≠ bb := fun k hk e => by
    rcases hv' k hk with q | q
    · exact (h.fb 9 k (by omega) (by omega) q).2 e
    · omega
  have hlt : ∀ i k, 7 ≤ i → i ≤ 10 → (c i).ownBlock = some k → k < w.heap.size := fun i k h1 h2 hk => (h.in (.inr ⟨i, h1, h2, hk⟩)).2
  refine ⟨⟨setC b2 9 (by omega) v', h.hb, ?_, ?_, ?_, ?_, fun i k h1 h2 hk => ?_, fun i j k h1 h2 h3 h4 hij hk => ?_⟩, b2, ?_, fun k hk => ?_⟩
  · exact (h.r1.fr fg (fun k hk q => h.ap 7 9 k (by omega) (by omega) (by omega) (by omega) (by omega) hk q)).fr fb2 (fun k hk e => (h.fb 7 k (by omega) (by omega) hk).2 e)
  · exact (h.r2.fr fg (fun k hk q => h.ap 8 9 k (by omega) (by omega) (by omega) (by omega) (by omega) hk q)).fr fb2 (fun k hk e => (h.fb 8 k (by omega) (by omega) hk).2 e)
  · show Ro _ 1 v' _ _
    rw [allP_grow]
    rw [flt_append, flt_one]
    exact hr.fr fb2 (fun k hk e => hneb k hk e)
  · exact (h.r4.fr fg (fun k hk q => h.ap 10 9 k (by omega) (by omega) (by omega) (by omega) (by omega) hk q)).fr fb2 (fun k hk e => (h.fb 10 k (by omega) (by omega) hk).2 e)
  · unfold upd at hk
    by_cases hi : i = 9
    · rw [if_pos hi] at hk
      refine ⟨?_, hneb k hk⟩
      rcases hv' k hk with q | q
      · exact (h.fb 9 k (by omega) (by omega) q).1
      · have := h.hb; omega
    · rw [if_neg hi] at hk
      exact h.fb i k h1 h2 hk
  · unfold upd at hk ⊢
    by_cases hi : i = 9
    · rw [if_pos hi] at hk
      rw [if_neg (by omega)]
      rcases hv' k hk with q | q
      · exact h.ap 9 j k (by omega) (by omega) h3 h4 (by omega) q
      · exact fun e => by have := hlt j k h3 h4 e; omega
    · rw [if_neg hi] at hk
      by_cases hj : j = 9
      · rw [if_pos hj]
        intro e
        rcases hv' k e with q | q
        · exact h.ap i 9 k h1 h2 (by omega) (by omega) hi hk q
        · have := hlt i k h1 h2 hk; omega
      · rw [if_neg hj]
        exact h.ap i j k h1 h2 h3 h4 hij hk
  · refine (fg.mono (fun k _ q => ?_)).trans (fb2.mono (fun k _ q => .inl q))
    exact .inr ⟨9, by omega, by omega, q⟩
  · rcases hk with rfl | ⟨i, h1, h2, hk⟩
    · exact .inl (.inl rfl)
    · unfold upd at hk
      by_cases hi : i = 9
      · rw [if_pos hi] at hk
        rcases hv' k hk with q | q
        · exact .inl (.inr ⟨9, by omega, by omega, q⟩)
        · exact .inr q
      · rw [if_neg hi] at hk
        exact .inl (.inr ⟨i, h1, h2, hk⟩)
theorem BkM.grow10 {B bb nt no : Nat} {c : Nat → Value} {w Wa w2 : World} (h : BkM B bb nt no c w [] []) (ha : Below w.heap.size w Wa) {v' : Value} {q : Nat} (hr : Ro w2 1 v' q (flt enL (allP no []) ++ enL (-1))) (hq : q = no + 1) (hg : Wa.grownBy w2 (c 10).ownBlock) (hat : v'.ownBlock = (c 10).ownBlock ∨ v'.ownBlock = some Wa.heap.size) :
    BkM B bb nt (no + 1) (upd c 10 v') (w2.setCell ⟨bb, 10, none⟩ v') [] [] ∧ w2.heap[bb]? = some (.cells (bkC c) 66) ∧ Fr (bkb c bb) w (w2.setCell ⟨bb, 10, none⟩ v') ∧ ∀ k, bkb (upd c 10 v') bb k → bkb c bb k ∨ w.heap.size ≤ k := by
  subst hq
  have fg : Fr (fun k => (c 10).ownBlock = some k) w w2 := (Fr.of_below (S := fun k => (c 10).ownBlock = some k) ha).trans ((Fr.refl _ Wa).grown hg (fun k e => .inr e))
  have hbb := (Array.getElem?_eq_some_iff.1 h.box).1
  have hsa := ha.size
  have hs2 := fg.size
  have b2 : w2.heap[bb]? = some (.cells (bkC c) 66) := (fg.block bb hbb (fun q => (h.fb 10 bb (by omega) (by omega) q).2 rfl)).trans h.box
  have fb2 : Fr (fun k => k = bb) w2 (w2.setCell ⟨bb, 10, none⟩ v') := (Fr.refl (fun k => k = bb) w2).setCell ⟨bb, 10, none⟩ (.inr rfl) v'
  have hv' : ∀ k, v'.ownBlock = some k → (c 10).ownBlock = some k ∨ w.heap.size ≤ k := fun k hk => by
    rcases hat with q | q
    · exact .inl (q ▸ hk)
    · rw [q] at hk; cases hk; exact .inr hsa
  have hneb : ∀ k, v'.ownBlock = some k → k ≠ bb := fun k hk e => by
    rcases hv' k hk with q | q
    · exact (h.fb 10 k (by omega) (by omega) q).2 e
    · omega
  have hlt : ∀ i k, 7 ≤ i → i ≤ 10 → (c i).ownBlock = some k → k < w.heap.size := fun i k h1 h2 hk => (h.in (.inr ⟨i, h1, h2, hk⟩)).2
  refine ⟨⟨setC b2 10 (by omega) v', h.hb, ?_, ?_, ?_, ?_, fun i k h1 h2 hk => ?_, fun i j k h1 h2 h3 h4 hij hk => ?_⟩, b2, ?_, fun k hk => ?_⟩
  · exact (h.r1.fr fg (fun k hk q => h.ap 7 10 k (by omega) (by omega) (by omega) (by omega) (by omega) hk q)).fr fb2 (fun k hk e => (h.fb 7 k (by omega) (by omega) hk).2 e)
  · exact (h.r2.fr fg (fun k hk q => h.ap 8 10 k (by omega) (by omega) (by omega) (by omega) (by omega) hk q)).fr fb2 (fun k hk e => (h.fb 8 k (by omega) (by omega) hk).2 e)
  · exact (h.r3.fr fg (fun k hk q => h.ap 9 10 k (by omega) (by omega) (by omega) (by omega) (by omega) hk q)).fr fb2 (fun k hk e => (h.fb 9 k (by omega) (by omega) hk).2 e)
  · show Ro _ 1 v' _ _
    rw [allP_grow]
    rw [flt_append, flt_one]
    exact hr.fr fb2 (fun k hk e => hneb k hk e)
  · unfold upd at hk
    by_cases hi : i = 10
    · rw [if_pos hi] at hk
      refine ⟨?_, hneb k hk⟩
      rcases hv' k hk with q | q
      · exact (h.fb 10 k (by omega) (by omega) q).1
      · have := h.hb; omega
    · rw [if_neg hi] at hk
      exact h.fb i k h1 h2 hk
  · unfold upd at hk ⊢
    by_cases hi : i = 10
    · rw [if_pos hi] at hk
      rw [if_neg (by omega)]
      rcases hv' k hk with q | q
      · exact h.ap 10 j k (by omega) (by omega) h3 h4 (by omega) q
      · exact fun e => by have := hlt j k h3 h4 e; omega
    · rw [if_neg hi] at hk
      by_cases hj : j = 10
      · rw [if_pos hj]
        intro e
        rcases hv' k e with q | q
        · exact h.ap i 10 k h1 h2 (by omega) (by omega) hi hk q
        · have := hlt i k h1 h2 hk; omega
      · rw [if_neg hj]
        exact h.ap i j k h1 h2 h3 h4 hij hk
  · refine (fg.mono (fun k _ q => ?_)).trans (fb2.mono (fun k _ q => .inl q))
    exact .inr ⟨10, by omega, by omega, q⟩
  · rcases hk with rfl | ⟨i, h1, h2, hk⟩
    · exact .inl (.inl rfl)
    · unfold upd at hk
      by_cases hi : i = 10
      · rw [if_pos hi] at hk
        rcases hv' k hk with q | q
        · exact .inl (.inr ⟨10, by omega, by omega, q⟩)
        · exact .inr q
      · rw [if_neg hi] at hk
        exact .inl (.inr ⟨i, h1, h2, hk⟩)
end Go.Proofs.Ytadgiccfjppnfaa
