/-
  ApartRegs: the lists of operands and of numbers of codes of one's own.
-/
import Derived.Test.YtiamoinhmkhaoaaLo
import Derived.Test.YtiamoinhmkhaoaaApI
namespace Go.Proofs.Ytiamoinhmkhaoaa
open Go.RowKit
set_option linter.unusedVariables false
set_option linter.unusedSimpArgs false
def blCd (c : TC) (q : Nat) : Prop := c.1.v.ownBlock = some q ∨ ∃ x ∈ c.2, blB x q
/-- A code of one's own. -/
def CdP (w : World) (u : List Bk) (c : TC) : Prop := ∃ Z, OW enTB 3 (PB 0) blB Z w c.1.v u c.2
theorem stayCd : Stays CdP blCd := fun S w w' u c h f hS => by
  obtain ⟨Z, ho⟩ := h
  exact ⟨Z, ho.fr (stayB 0) f (fun k _ hk => hS k hk)⟩
def vI (t : TI) : List Value := t.1.av :: t.2.map ShR.v
def vT (ts : List TI) : List Value := ts.flatMap vI
def vX (X : List TB) : List Value := X.flatMap (fun x => vT x.2)
def vC (cs : List TC) : List Value := cs.flatMap (fun c => vX c.2)
def nX (X : List TB) : List Value := X.map (fun x => x.1.nv)
def nC (cs : List TC) : List Value := cs.flatMap (fun c => nX c.2)
/-- Two lists do not lie in one block. -/
def Ap2 (a b : Value) : Prop := ∀ q, a.ownBlock = some q → b.ownBlock ≠ some q
theorem pw_of {T : Type} {R : T → T → Prop} {l : List T} (h : ∀ (i j : Nat) (x y : T), i ≠ j → l[i]? = some x → l[j]? = some y → R x y) : l.Pairwise R := by
  rw [List.pairwise_iff_getElem]
  intro i j hi hj hij
  exact h i j _ _ (by omega) (List.getElem?_eq_getElem hi) (List.getElem?_eq_getElem hj)
theorem pw_at {T : Type} {R : T → T → Prop} {l : List T} (h : l.Pairwise R) (hs : ∀ x y, R x y → R y x) {i j : Nat} {x y : T} (hij : i ≠ j) (hx : l[i]? = some x) (hy : l[j]? = some y) : R x y := by
  rw [List.pairwise_iff_getElem] at h
  obtain ⟨hi, rfl⟩ := List.getElem?_eq_some_iff.1 hx
  obtain ⟨hj, rfl⟩ := List.getElem?_eq_some_iff.1 hy
  by_cases q : i < j
  · exact h i j hi hj q
  · exact hs _ _ (h j i hj hi (by omega))
theorem Ap2.symm {a b : Value} (h : Ap2 a b) : Ap2 b a := fun q hb ha => h q ha hb
theorem vI_bl {t : TI} {a : Value} (h : a ∈ vI t) {q : Nat} (hq : a.ownBlock = some q) : blT t q := by
  rcases List.mem_cons.1 h with rfl | h
  · exact .inl hq
  · obtain ⟨r, hr, rfl⟩ := List.mem_map.1 h
    exact .inr (.inr ⟨r, hr, hq⟩)
theorem vI_pw {w : World} {u : RIn} {t : TI} (h : InT w u t) : (vI t).Pairwise Ap2 := by
  refine List.pairwise_cons.2 ⟨fun b hb q ha hb2 => ?_, pw_of (fun i j x y hij hx hy q hq => ?_)⟩
  · obtain ⟨r, hr, rfl⟩ := List.mem_map.1 hb
    exact (h.asp r q hr hb2).1 ha
  · rw [List.getElem?_map] at hx hy
    cases hi : t.2[i]? with
    | none => rw [hi] at hx; cases hx
    | some r =>
      cases hj : t.2[j]? with
      | none => rw [hj] at hy; cases hy
      | some p =>
        rw [hi] at hx; rw [hj] at hy
        cases hx; cases hy
        exact h.ss i j r p q hij hi hj hq
theorem vT_bl {ts : List TI} {a : Value} (h : a ∈ vT ts) {q : Nat} (hq : a.ownBlock = some q) : ∃ t ∈ ts, blT t q := by
  obtain ⟨t, ht, h⟩ := List.mem_flatMap.1 h
  exact ⟨t, ht, vI_bl h hq⟩
theorem vT_pw {w : World} {v : Value} {us : List RIn} {ts : List TI} {Z : Nat → Prop} (h : OW enT 8 InT blT Z w v us ts) : (vT ts).Pairwise Ap2 := by
  refine List.pairwise_flatMap.2 ⟨fun t ht => ?_, pw_of (fun i j x y hij hx hy a ha b hb q qa qb => h.ap i j x y q hij hx hy (vI_bl ha qa) (vI_bl hb qb))⟩
  obtain ⟨i, hi, rfl⟩ := List.getElem_of_mem ht
  exact vI_pw (h.el i _ _ (List.getElem?_eq_getElem (by rw [← h.len]; exact hi)) (List.getElem?_eq_getElem hi))
theorem vX_bl {X : List TB} {a : Value} (h : a ∈ vX X) {q : Nat} (hq : a.ownBlock = some q) : ∃ x ∈ X, blB x q := by
  obtain ⟨x, hx, h⟩ := List.mem_flatMap.1 h
  exact ⟨x, hx, .inr (.inl (vT_bl h hq))⟩
theorem vX_pw {w : World} {v : Value} {us : List Bk} {X : List TB} {Z : Nat → Prop} (h : OW enTB 3 (PB 0) blB Z w v us X) : (vX X).Pairwise Ap2 := by
  refine List.pairwise_flatMap.2 ⟨fun x hx => ?_, pw_of (fun i j x y hij hx hy a ha b hb q qa qb => h.ap i j x y q hij hx hy (.inr (.inl (vT_bl ha qa))) (.inr (.inl (vT_bl hb qb))))⟩
  obtain ⟨i, hi, rfl⟩ := List.getElem_of_mem hx
  exact vT_pw (h.el i _ _ (List.getElem?_eq_getElem (by rw [← h.len]; exact hi)) (List.getElem?_eq_getElem hi)).ow
theorem nX_pw {w : World} {v : Value} {us : List Bk} {X : List TB} {Z : Nat → Prop} (h : OW enTB 3 (PB 0) blB Z w v us X) : (nX X).Pairwise Ap2 := by
  refine List.pairwise_map.2 (pw_of (fun i j x y hij hx hy q qa qb => h.ap i j x y q hij hx hy (.inr (.inr qa)) (.inr (.inr qb))))
theorem nX_bl {X : List TB} {a : Value} (h : a ∈ nX X) {q : Nat} (hq : a.ownBlock = some q) : ∃ x ∈ X, blB x q := by
  obtain ⟨x, hx, rfl⟩ := List.mem_map.1 h
  exact ⟨x, hx, .inr (.inr hq)⟩
section
variable {w w' : World} {v : Value} {us : List (List Bk)} {cs : List TC} {Z : Nat → Prop}
abbrev OWC (Z : Nat → Prop) (w : World) (v : Value) (us : List (List Bk)) (cs : List TC) : Prop := OW enTC 3 CdP blCd Z w v us cs
theorem vC_pw (h : OWC Z w v us cs) : (vC cs).Pairwise Ap2 := by
  refine List.pairwise_flatMap.2 ⟨fun c hc => ?_, pw_of (fun i j x y hij hx hy a ha b hb q qa qb => h.ap i j x y q hij hx hy (.inr (vX_bl ha qa)) (.inr (vX_bl hb qb)))⟩
  obtain ⟨i, hi, rfl⟩ := List.getElem_of_mem hc
  obtain ⟨Z', ho⟩ := h.el i _ _ (List.getElem?_eq_getElem (by rw [← h.len]; exact hi)) (List.getElem?_eq_getElem hi)
  exact vX_pw ho
theorem nC_pw (h : OWC Z w v us cs) : (nC cs).Pairwise Ap2 := by
  refine List.pairwise_flatMap.2 ⟨fun c hc => ?_, pw_of (fun i j x y hij hx hy a ha b hb q qa qb => h.ap i j x y q hij hx hy (.inr (nX_bl ha qa)) (.inr (nX_bl hb qb)))⟩
  obtain ⟨i, hi, rfl⟩ := List.getElem_of_mem hc
  obtain ⟨Z', ho⟩ := h.el i _ _ (List.getElem?_eq_getElem (by rw [← h.len]; exact hi)) (List.getElem?_eq_getElem hi)
  exact nX_pw ho
theorem vC_in (h : OWC Z w v us cs) {a : Value} (ha : a ∈ vC cs) {q : Nat} (hq : a.ownBlock = some q) : q < w.heap.size ∧ v.ownBlock ≠ some q ∧ ∃ c ∈ cs, ∃ x ∈ c.2, ∃ t ∈ x.2, a ∈ vI t := by
  obtain ⟨c, hc, ha2⟩ := List.mem_flatMap.1 ha
  obtain ⟨i, hi, rfl⟩ := List.getElem_of_mem hc
  have h1 := h.eb i _ q (List.getElem?_eq_getElem hi) (.inr (vX_bl ha2 hq))
  obtain ⟨x, hx, ha3⟩ := List.mem_flatMap.1 ha2
  obtain ⟨t, ht, ha4⟩ := List.mem_flatMap.1 ha3
  exact ⟨h1.2.1, h1.2.2, _, hc, x, hx, t, ht, ha4⟩
theorem nC_in (h : OWC Z w v us cs) {a : Value} (ha : a ∈ nC cs) {q : Nat} (hq : a.ownBlock = some q) : q < w.heap.size ∧ v.ownBlock ≠ some q ∧ ∃ c ∈ cs, ∃ x ∈ c.2, a = x.1.nv := by
  obtain ⟨c, hc, ha2⟩ := List.mem_flatMap.1 ha
  obtain ⟨i, hi, rfl⟩ := List.getElem_of_mem hc
  have h1 := h.eb i _ q (List.getElem?_eq_getElem hi) (.inr (nX_bl ha2 hq))
  obtain ⟨x, hx, rfl⟩ := List.mem_map.1 ha2
  exact ⟨h1.2.1, h1.2.2, _, hc, x, hx, rfl⟩
/-- The lists can be read. -/
def OkU (us : List (List Bk)) : Prop := ∀ u ∈ us, ∀ b ∈ u, b.nx.length ≤ 1048576 ∧ ∀ x ∈ b.ins, x.args.length ≤ 1048576 ∧ ∀ s ∈ x.ex, s.sl.length ≤ 1048576
theorem vI_ro {u : RIn} {t : TI} (h : InT w u t) (hk : u.args.length ≤ 1048576 ∧ ∀ s ∈ u.ex, s.sl.length ≤ 1048576) {a : Value} (ha : a ∈ vI t) : ∃ l : List Op, l.length ≤ 1048576 ∧ Ro w 2 a l.length (flt enO l) := by
  rcases List.mem_cons.1 ha with rfl | ha
  · exact ⟨_, hk.1, h.a⟩
  · obtain ⟨r, hr, rfl⟩ := List.mem_map.1 ha
    obtain ⟨j, hj, rfl⟩ := List.getElem_of_mem hr
    have hs : u.ex[j]? = some (u.ex[j]'(by rw [← h.len]; exact hj)) := List.getElem?_eq_getElem _
    exact ⟨_, hk.2 _ (List.mem_of_getElem? hs), (h.s j _ _ hs (List.getElem?_eq_getElem hj)).2.2⟩
theorem vC_ro (h : OWC Z w v us cs) (hk : OkU us) {a : Value} (ha : a ∈ vC cs) : ∃ l : List Op, l.length ≤ 1048576 ∧ Ro w 2 a l.length (flt enO l) := by
  obtain ⟨c, hc, ha2⟩ := List.mem_flatMap.1 ha
  obtain ⟨i, hi, rfl⟩ := List.getElem_of_mem hc
  have hu : us[i]? = some (us[i]'(by rw [← h.len]; exact hi)) := List.getElem?_eq_getElem _
  obtain ⟨Z', ho⟩ := h.el i _ _ hu (List.getElem?_eq_getElem hi)
  obtain ⟨x, hx, ha3⟩ := List.mem_flatMap.1 ha2
  obtain ⟨b, hb, rfl⟩ := List.getElem_of_mem hx
  have hb2 : (us[i]'(by rw [← h.len]; exact hi))[b]? = some _ := List.getElem?_eq_getElem (by rw [← ho.len]; exact hb)
  have hP := ho.el b _ _ hb2 (List.getElem?_eq_getElem hb)
  obtain ⟨t, ht, ha4⟩ := List.mem_flatMap.1 ha3
  obtain ⟨n, hn, rfl⟩ := List.getElem_of_mem ht
  have hn2 : (Bk.ins _)[n]? = some _ := List.getElem?_eq_getElem (l := Bk.ins _) (by rw [← hP.ow.len]; exact hn)
  exact vI_ro (hP.ow.el n _ _ hn2 (List.getElem?_eq_getElem hn)) ((hk _ (List.mem_of_getElem? hu) _ (List.mem_of_getElem? hb2)).2 _ (List.mem_of_getElem? hn2)) ha4
theorem nC_ro (h : OWC Z w v us cs) (hk : OkU us) {a : Value} (ha : a ∈ nC cs) : ∃ l : List Int, l.length ≤ 1048576 ∧ Ro w 1 a l.length (flt enI l) := by
  obtain ⟨c, hc, ha2⟩ := List.mem_flatMap.1 ha
  obtain ⟨i, hi, rfl⟩ := List.getElem_of_mem hc
  have hu : us[i]? = some (us[i]'(by rw [← h.len]; exact hi)) := List.getElem?_eq_getElem _
  obtain ⟨Z', ho⟩ := h.el i _ _ hu (List.getElem?_eq_getElem hi)
  obtain ⟨x, hx, rfl⟩ := List.mem_map.1 ha2
  obtain ⟨b, hb, rfl⟩ := List.getElem_of_mem hx
  have hb2 : (us[i]'(by rw [← h.len]; exact hi))[b]? = some _ := List.getElem?_eq_getElem (by rw [← ho.len]; exact hb)
  have hP := ho.el b _ _ hb2 (List.getElem?_eq_getElem hb)
  exact ⟨_, (hk _ (List.mem_of_getElem? hu) _ (List.mem_of_getElem? hb2)).1, hP.nx⟩
/-- Without operands and numbers: what apartLists asks. -/
theorem InT.ie {u : RIn} {t : TI} (h : InT w u t) : IEo w t :=
  ⟨by rw [h.len]; exact h.e, fun j r hr => by
    have hs : u.ex[j]? = some _ := List.getElem?_eq_getElem (by rw [← h.len]; exact (List.getElem?_eq_some_iff.1 hr).1)
    obtain ⟨a, c, e, _⟩ := (h.s j _ r hs hr).2.2.shape
    exact ⟨a, _, c, e⟩, AO.none _ _ _⟩
theorem PB.be {b : Nat} {u : Bk} {x : TB} (h : PB b w u x) : BEo w x :=
  ⟨by rw [h.ow.len]; exact h.ow.row, fun i t ht => (h.ow.el i _ t (List.getElem?_eq_getElem (by rw [← h.ow.len]; exact (List.getElem?_eq_some_iff.1 ht).1)) ht).ie,
    fun i t k ht hk => (h.ow.eb i t k ht (.inr (.inl hk))).2, fun i j t q k hij ht hq hk hk2 => h.ow.ap i j t q k hij ht hq (.inr (.inl hk)) (.inr (.inl hk2))⟩
theorem blF_B {x : TB} {q : Nat} (h : blF x q) : blB x q := by
  rcases h with h | ⟨t, ht, h⟩
  · exact .inl h
  · exact .inr (.inl ⟨t, ht, .inr (.inl h)⟩)
theorem blG_Cd {c : TC} {q : Nat} (h : blG c q) : blCd c q := by
  rcases h with h | ⟨x, hx, h⟩
  · exact .inl h
  · exact .inr ⟨x, hx, blF_B h⟩
theorem CdP.ce {u : List Bk} {c : TC} (h : CdP w u c) : CEo w c := by
  obtain ⟨Z', ho⟩ := h
  exact ⟨by rw [ho.len]; exact ho.row, fun i x hx => (ho.el i _ x (List.getElem?_eq_getElem (by rw [← ho.len]; exact (List.getElem?_eq_some_iff.1 hx).1)) hx).be,
    fun i x k hx hk => (ho.eb i x k hx (blF_B hk)).2, fun i j x y k hij hx hy hk hk2 => ho.ap i j x y k hij hx hy (blF_B hk) (blF_B hk2)⟩
theorem OWC.loc (h : OWC Z w v us cs) : LOC w v cs :=
  ⟨by rw [h.len]; exact h.row, fun i c hc => (h.el i _ c (List.getElem?_eq_getElem (by rw [← h.len]; exact (List.getElem?_eq_some_iff.1 hc).1)) hc).ce,
    fun i c k hc hk => (h.eb i c k hc (blG_Cd hk)).2, fun i j c d k hij hc hd hk hk2 => h.ap i j c d k hij hc hd (blG_Cd hk) (blG_Cd hk2)⟩
end
/-- The lists that are gathered: two rows of slices of one's own. -/
structure GL (w : World) (pO pN : List Value) (gO gN : Value) (wr : World) : Prop where
  o : Ro wr 1 gO pO.length (flt enV pO)
  n : Ro wr 1 gN pN.length (flt enV pN)
  bw : Below w.heap.size w wr
  ob : ∀ q, gO.ownBlock = some q → w.heap.size ≤ q
  nb : ∀ q, gN.ownBlock = some q → w.heap.size ≤ q
  ne : Ap2 gO gN
section
variable {w wr w1 w2 : World} {pO pN : List Value} {gO gN g' a : Value} {n : Nat}
theorem GL.start (w : World) : GL w [] [] (.slice none 0 0) (.slice none 0 0) w :=
  ⟨by simpa [flt] using Ro.nil w 1, by simpa [flt] using Ro.nil w 1, Below.refl _ _, (fun q e => by cases e), (fun q e => by cases e), (fun q e => by cases e)⟩
theorem GL.on (h : GL w pO pN gO gN wr) (f : Below wr.heap.size wr w1) : GL w pO pN gO gN w1 :=
  ⟨h.o.fr (Fr.of_below (S := fun _ => False) f) (fun _ _ e => e), h.n.fr (Fr.of_below (S := fun _ => False) f) (fun _ _ e => e), h.bw.trans (f.mono h.bw.size), h.ob, h.nb, h.ne⟩
theorem GL.pushO (h : GL w pO pN gO gN wr) (hb : Below wr.heap.size wr w1) (hr : Ro w2 1 g' n (flt enV pO ++ enV a)) (hn : n = pO.length + 1) (hg : w1.grownBy w2 gO.ownBlock) (hat : g'.ownBlock = gO.ownBlock ∨ g'.ownBlock = some w1.heap.size) : GL w (pO ++ [a]) pN g' gN w2 := by
  subst hn
  have hs := h.bw.size
  have hbs := hb.size
  have f : Fr (fun q => gO.ownBlock = some q) wr w2 := (Fr.of_below (S := fun q => gO.ownBlock = some q) hb).trans ((Fr.refl _ w1).grown hg (fun k e => .inr e))
  have own : ∀ q, g'.ownBlock = some q → gO.ownBlock = some q ∨ wr.heap.size ≤ q := fun q hq => by
    rcases hat with r | r
    · rw [r] at hq; exact .inl hq
    · rw [r] at hq; cases hq; exact .inr hbs
  refine ⟨by rw [List.length_append, flt_append, flt_one]; exact hr, h.n.fr f (fun q hq e => h.ne q e hq), h.bw.trans (f.below hs (fun k hk e => by have := h.ob k e; omega)), fun q hq => ?_, h.nb, fun q hq e => ?_⟩
  · rcases own q hq with r | r
    · exact h.ob q r
    · omega
  · rcases own q hq with r | r
    · exact h.ne q r e
    · have := h.n.lt q e; omega
theorem GL.pushN (h : GL w pO pN gO gN wr) (hb : Below wr.heap.size wr w1) (hr : Ro w2 1 g' n (flt enV pN ++ enV a)) (hn : n = pN.length + 1) (hg : w1.grownBy w2 gN.ownBlock) (hat : g'.ownBlock = gN.ownBlock ∨ g'.ownBlock = some w1.heap.size) : GL w pO (pN ++ [a]) gO g' w2 := by
  subst hn
  have hs := h.bw.size
  have hbs := hb.size
  have f : Fr (fun q => gN.ownBlock = some q) wr w2 := (Fr.of_below (S := fun q => gN.ownBlock = some q) hb).trans ((Fr.refl _ w1).grown hg (fun k e => .inr e))
  have own : ∀ q, g'.ownBlock = some q → gN.ownBlock = some q ∨ wr.heap.size ≤ q := fun q hq => by
    rcases hat with r | r
    · rw [r] at hq; exact .inl hq
    · rw [r] at hq; cases hq; exact .inr hbs
  refine ⟨h.o.fr f (fun q hq e => h.ne q hq e), by rw [List.length_append, flt_append, flt_one]; exact hr, h.bw.trans (f.below hs (fun k hk e => by have := h.nb k e; omega)), h.ob, fun q hq => ?_, fun q hq e => ?_⟩
  · rcases own q hq with r | r
    · exact h.nb q r
    · exact Nat.le_trans hs r
  · rcases own q e with r | r
    · exact h.ne q hq r
    · have := h.o.lt q hq; omega
end
/-- How long a slice is. -/
def slen : Value → Nat
  | .slice _ n _ => n
  | _ => 0
theorem flt_OP (l : List Op) : flt enO l = flt enP (l.map (fun o => (o.k, o.n))) := by
  induction l with
  | nil => rfl
  | cons p r ih => simp only [flt, List.flatMap_cons, List.map_cons] at ih ⊢; rw [ih]; rfl
end Go.Proofs.Ytiamoinhmkhaoaa
