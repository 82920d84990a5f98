/-
  What the way through a function that takes each place once finds.
-/
import Derived.Test.YtbphddocgdihjaaDoorVFits
import Derived.Test.YtbphddocgdihjaaDoorVInv
namespace Go.Proofs.YtbphddocgdihjaaDoor
open Go.RowKit
set_option linter.unusedVariables false
set_option linter.unusedSimpArgs false
/-- A way that the list itself tells. -/
inductive Wy (f : Fc) (l : List Int) : Nat → Int → Prop
  | zero : l[0]? = some 0 → Wy f l 0 0
  | next {p q : Nat} {h op a v : Int} : Wy f l p h → f.code[p]? = some (op, a) → (q : Int) ∈ nxl f.code.length op a p → v = h - tkI op a + ptI op a → 0 ≤ v → l[q]? = some v → Wy f l q v
  | hand {p q : Nat} {h v : Int} {k : Hd} : Wy f l p h → k ∈ f.hs → k.frm ≤ (p : Int) → (p : Int) < k.to → k.target = (q : Int) → v = k.height + 1 → 0 ≤ v → l[q]? = some v → Wy f l q v
theorem Wy.at {f : Fc} {l : List Int} {p : Nat} {h : Int} (H : Wy f l p h) : l[p]? = some h ∧ 0 ≤ h := by
  cases H with
  | zero e => exact ⟨e, by omega⟩
  | next _ _ _ _ h0 e => exact ⟨e, h0⟩
  | hand _ _ _ _ _ _ h0 e => exact ⟨e, h0⟩
theorem Wy.mono {f : Fc} {l l' : List Int} (hm : ∀ (p : Nat) h, l[p]? = some h → 0 ≤ h → l'[p]? = some h) {p : Nat} {h : Int} (H : Wy f l p h) : Wy f l' p h := by
  induction H with
  | zero e => exact .zero (hm _ _ e (by omega))
  | next _ h1 h2 h3 h4 e ih => exact .next ih h1 h2 h3 h4 (hm _ _ e h4)
  | hand _ h1 h2 h3 h5 h6 h4 e ih => exact .hand ih h1 h2 h3 h5 h6 h4 (hm _ _ e h4)
/-- What is found so far: the list, and the places that are to be looked at or were. -/
structure Gs (f : Fc) (l left : List Int) : Prop where
  len : l.length = f.code.length
  bd : ∀ y ∈ l, -1 ≤ y ∧ y ≤ 100 + 2 * (left.length : Int)
  nd : left.Nodup
  rg : ∀ p ∈ left, ∃ q : Nat, p = (q : Int) ∧ ∃ h, Wy f l q h
  on : ∀ (p : Nat) (h : Int), l[p]? = some h → 0 ≤ h → (p : Int) ∈ left
  st : (0 : Int) ∈ left
theorem Gs.lt {f : Fc} {l left : List Int} (h : Gs f l left) {p : Int} (hp : p ∈ left) : 0 ≤ p ∧ p < (f.code.length : Int) := by
  obtain ⟨q, rfl, v, hw⟩ := h.rg p hp
  have := (List.getElem?_eq_some_iff.1 hw.at.1).1
  rw [h.len] at this
  omega
theorem Gs.le {f : Fc} {l left : List Int} (h : Gs f l left) : left.length ≤ f.code.length := by
  have h1 : (left.map Int.toNat).Nodup := by
    rw [List.nodup_iff_pairwise_ne, List.pairwise_map]
    refine (List.nodup_iff_pairwise_ne.1 h.nd).imp_of_mem (fun {a b} ha hb hne e => hne ?_)
    have := h.lt ha
    have := h.lt hb
    omega
  have := nodup_le (M := f.code.length) h1 (fun x hx => by
    obtain ⟨s, hs, rfl⟩ := List.mem_map.1 hx
    have := h.lt hs
    omega)
  simpa using this
theorem set_up {l : List Int} {q : Nat} {y v : Int} (hy : l[q]? = some y) (hn : y < 0) : ∀ (p : Nat) h, l[p]? = some h → 0 ≤ h → (l.set q v)[p]? = some h := fun p h e h0 => by
  by_cases c : q = p
  · subst c
    rw [hy] at e
    cases e
    omega
  · rw [List.getElem?_set_ne c]
    exact e
theorem set_at {l : List Int} {q : Nat} {y v : Int} (hy : l[q]? = some y) : (l.set q v)[q]? = some v := by
  rw [List.getElem?_set_self (List.getElem?_eq_some_iff.1 hy).1]
theorem Gs.put {f : Fc} {l left : List Int} (h : Gs f l left) {q : Nat} {y v : Int} (hy : l[q]? = some y) (hn : y < 0) (hv : 0 ≤ v) (hvb : v ≤ 102 + 2 * (left.length : Int)) (hw : Wy f (l.set q v) q v) : Gs f (l.set q v) (left ++ [(q : Int)]) := by
  have up := set_up (v := v) hy hn
  refine ⟨by rw [List.length_set]; exact h.len, fun z hz => ?_, ?_, fun p hp => ?_, fun p z hz h0 => ?_, by simp [h.st]⟩
  · rcases List.mem_or_eq_of_mem_set hz with hz | hz
    · have := h.bd z hz
      simp only [List.length_append, List.length_singleton]
      omega
    · subst hz
      simp only [List.length_append, List.length_singleton]
      omega
  · rw [List.nodup_append]
    refine ⟨h.nd, by simp, fun a ha b hb e => ?_⟩
    simp at hb
    subst hb
    obtain ⟨q', e', z, hz⟩ := h.rg a ha
    have : q' = q := by omega
    subst this
    have := hz.at
    rw [hy] at this
    cases this.1
    omega
  · rcases List.mem_append.1 hp with hp | hp
    · obtain ⟨q', e', z, hz⟩ := h.rg p hp
      exact ⟨q', e', z, hz.mono up⟩
    · simp at hp
      exact ⟨q, hp, v, hw⟩
  · by_cases c : q = p
    · subst c; simp
    · rw [List.getElem?_set_ne c] at hz
      exact List.mem_append.2 (.inl (h.on p z hz h0))
/-- All that follows a place is there. -/
def Cl1 (f : Fc) (l : List Int) (p : Nat) (ys : List Int) : Prop := ∀ y ∈ ys, ∃ h, l[y.toNat]? = some h ∧ 0 ≤ h
def Cl2 (f : Fc) (l : List Int) (p : Nat) (ks : List Hd) : Prop := ∀ k ∈ ks, k.frm ≤ (p : Int) → (p : Int) < k.to → ∃ h, l[k.target.toNat]? = some h ∧ 0 ≤ h
def Cl (f : Fc) (l : List Int) (p : Nat) : Prop := (∀ op a, f.code[p]? = some (op, a) → Cl1 f l p (nxl f.code.length op a p)) ∧ Cl2 f l p f.hs
theorem Cl1.mono {f : Fc} {l l' : List Int} {p : Nat} {ys : List Int} (hm : ∀ (p : Nat) h, l[p]? = some h → 0 ≤ h → l'[p]? = some h) (h : Cl1 f l p ys) : Cl1 f l' p ys := fun y hy => by
  obtain ⟨z, h1, h2⟩ := h y hy
  exact ⟨z, hm _ _ h1 h2, h2⟩
theorem Cl2.mono {f : Fc} {l l' : List Int} {p : Nat} {ks : List Hd} (hm : ∀ (p : Nat) h, l[p]? = some h → 0 ≤ h → l'[p]? = some h) (h : Cl2 f l p ks) : Cl2 f l' p ks := fun y hy ha hb => by
  obtain ⟨z, h1, h2⟩ := h y hy ha hb
  exact ⟨z, hm _ _ h1 h2, h2⟩
theorem Cl.mono {f : Fc} {l l' : List Int} {p : Nat} (hm : ∀ (p : Nat) h, l[p]? = some h → 0 ≤ h → l'[p]? = some h) (h : Cl f l p) : Cl f l' p := ⟨fun op a e => (h.1 op a e).mono hm, h.2.mono hm⟩
/-- What is found: a list that was left where a place would lie beneath 0, or one with all that follows. -/
def GuR (f : Fc) (l : List Int) : Prop := l.length = f.code.length ∧ (∀ y ∈ l, -10000 ≤ y ∧ y ≤ 10000) ∧
  ((∃ (p q : Nat) (h op a v : Int), Wy f l p h ∧ f.code[p]? = some (op, a) ∧ (q : Int) ∈ nxl f.code.length op a p ∧ v = h - tkI op a + ptI op a ∧ v < 0 ∧ l[q]? = some v) ∨
   (∃ left, Gs f l left ∧ ∀ p ∈ left, Cl f l p.toNat))
end Go.Proofs.YtbphddocgdihjaaDoor
