/-
  What is found of a program: none where all is right, else the first.
-/
import Derived.Test.YtlogmdldjmkkjaaGreatDoorCheck
namespace Go.Proofs.YtlogmdldjmkkjaaGreatDoor
open Go.RowKit
set_option linter.unusedVariables false
set_option linter.unusedSimpArgs false
set_option maxRecDepth 100000
theorem csG_con {l : List Cn} {i : Nat} {c : Cn} (h : l[i]? = some c) : csG (l.take i) (l.drop i) = if conE c (l.take i) ≠ 0 then some ((i : Int), conE c (l.take i)) else csG (l.take (i + 1)) (l.drop (i + 1)) := by
  rw [csG_at h]
  unfold conE
  by_cases h1 : rfB c = false
  · simp [h1]
  · by_cases h2 : c.text.size > 4096
    · simp [h1, h2]
    · by_cases h3 : c ∈ l.take i
      · simp [h1, h2, h3]
      · simp [h1, h2, h3]
theorem csG_to {l : List Cn} : ∀ (i : Nat), i ≤ l.length → (∀ (j : Nat) (c : Cn), j < i → l[j]? = some c → conE c (l.take j) = 0) → csG [] l = csG (l.take i) (l.drop i)
  | 0, _, _ => by simp
  | i + 1, hi, h => by
    have hl : i < l.length := by omega
    rw [csG_to i (by omega) (fun j c hj hc => h j c (by omega) hc), csG_con (List.getElem?_eq_getElem hl), if_neg]
    simpa using h i _ (by omega) (List.getElem?_eq_getElem hl)
theorem csG_first {l : List Cn} {k : Nat} {c : Cn} (hk : l[k]? = some c) (h : ∀ (j : Nat) (c : Cn), j < k → l[j]? = some c → conE c (l.take j) = 0) (hb : conE c (l.take k) ≠ 0) : csG [] l = some ((k : Int), conE c (l.take k)) := by
  have hl := (List.getElem?_eq_some_iff.1 hk).1
  rw [csG_to k (by omega) h, csG_con hk, if_pos hb]
theorem csG_none {l : List Cn} : csG [] l = none ↔ ∀ (j : Nat) (c : Cn), l[j]? = some c → conE c (l.take j) = 0 := by
  constructor
  · intro h
    have key : ∀ i, i ≤ l.length → ∀ (j : Nat) (c : Cn), j < i → l[j]? = some c → conE c (l.take j) = 0 := by
      intro i
      induction i with
      | zero => intro _ j c hj; omega
      | succ i ih =>
        intro hi j c hj hc
        by_cases q : j < i
        · exact ih (by omega) j c q hc
        · have e : j = i := by omega
          subst e
          refine Classical.byContradiction fun hb => ?_
          rw [csG_first hc (fun j' c' hj' hc' => ih (by omega) j' c' hj' hc') hb] at h
          cases h
    intro j c hc
    exact key l.length (Nat.le_refl _) j c (List.getElem?_eq_some_iff.1 hc).1 hc
  · intro h
    rw [csG_to l.length (Nat.le_refl _) (fun j c _ hc => h j c hc)]
    simp [csG]
theorem fsG_to {p : Pg} {l : List Fc} : ∀ (i : Nat), i ≤ l.length → (∀ (j : Nat) (f : Fc), j < i → l[j]? = some f → fnF p f (decide (j = 0)) (decide (∃ g ∈ l.take j, g.name = f.name)) = none) → fsG p [] l = fsG p (l.take i) (l.drop i)
  | 0, _, _ => by simp
  | i + 1, hi, h => by
    have hl : i < l.length := by omega
    rw [fsG_to i (by omega) (fun j c hj hc => h j c (by omega) hc), fsG_at (List.getElem?_eq_getElem hl), h i _ (by omega) (List.getElem?_eq_getElem hl)]
theorem fsG_first {p : Pg} {l : List Fc} {k : Nat} {f : Fc} (hk : l[k]? = some f) (h : ∀ (j : Nat) (f : Fc), j < k → l[j]? = some f → fnF p f (decide (j = 0)) (decide (∃ g ∈ l.take j, g.name = f.name)) = none) {a y : Int} (hb : fnF p f (decide (k = 0)) (decide (∃ g ∈ l.take k, g.name = f.name)) = some (a, y)) : fsG p [] l = some ((k : Int), a, y) := by
  have hl := (List.getElem?_eq_some_iff.1 hk).1
  rw [fsG_to k (by omega) h, fsG_at hk, hb]
  rfl
theorem fsG_none {p : Pg} {l : List Fc} : fsG p [] l = none ↔ ∀ (j : Nat) (f : Fc), l[j]? = some f → fnF p f (decide (j = 0)) (decide (∃ g ∈ l.take j, g.name = f.name)) = none := by
  constructor
  · intro h
    have key : ∀ i, i ≤ l.length → ∀ (j : Nat) (f : Fc), j < i → l[j]? = some f → fnF p f (decide (j = 0)) (decide (∃ g ∈ l.take j, g.name = f.name)) = none := by
      intro i
      induction i with
      | zero => intro _ j c hj; omega
      | succ i ih =>
        intro hi j c hj hc
        by_cases q : j < i
        · exact ih (by omega) j c q hc
        · have e : j = i := by omega
          subst e
          cases hb : fnF p c (decide (j = 0)) (decide (∃ g ∈ l.take j, g.name = c.name)) with
          | none => rfl
          | some e =>
            obtain ⟨a, y⟩ := e
            rw [fsG_first hc (fun j' c' hj' hc' => ih (by omega) j' c' hj' hc') hb] at h
            cases h
    intro j c hc
    exact key l.length (Nat.le_refl _) j c (List.getElem?_eq_some_iff.1 hc).1 hc
  · intro h
    rw [fsG_to l.length (Nat.le_refl _) (fun j c _ hc => h j c hc)]
    simp [fsG]
/-- Are all constants right? All functions? -/
def GdC (l : List Cn) : Prop := l.length ≤ 512 ∧ ∀ (j : Nat) (c : Cn), l[j]? = some c → conE c (l.take j) = 0
def GdF (p : Pg) (l : List Fc) : Prop := ∀ (j : Nat) (f : Fc), l[j]? = some f → fnF p f (decide (j = 0)) (decide (∃ g ∈ l.take j, g.name = f.name)) = none
theorem csF_none {l : List Cn} : csF l = none ↔ GdC l := by
  unfold csF GdC
  by_cases h : l.length > 512
  · rw [if_pos h]; simp; omega
  · rw [if_neg h, csG_none]; simp; omega
theorem ckF_none {p : Pg} : ckF p = none ↔ GdC p.consts ∧ 0 < p.funcs.length ∧ p.funcs.length ≤ 128 ∧ GdF p p.funcs := by
  unfold ckF
  cases h : csF p.consts with
  | some e =>
    obtain ⟨a, y⟩ := e
    have : ¬ GdC p.consts := fun q => by rw [csF_none.2 q] at h; cases h
    simp [inE, this]
  | none =>
    have hc := csF_none.1 h
    simp only [hc, true_and]
    by_cases h0 : p.funcs.length = 0
    · rw [if_pos h0]; simp; omega
    · rw [if_neg h0]
      by_cases h1 : p.funcs.length > 128
      · rw [if_pos h1]; simp; omega
      · rw [if_neg h1, fsG_none]
        constructor
        · intro q; exact ⟨by omega, by omega, q⟩
        · intro q; exact q.2.2
theorem orE_none {a b : Option (Int × Int)} : orE a b = none ↔ a = none ∧ b = none := by
  cases a <;> simp [orE]
theorem fnF_none {p : Pg} {f : Fc} {m t : Bool} : fnF p f m t = none ↔ nmF f.name t = none ∧ szF f m = none ∧ cdF p f = none ∧ hsF f = none := by
  unfold fnF; rw [orE_none, orE_none, orE_none]
theorem nmF_none {s : ByteArray} {t : Bool} : nmF s t = none ↔ spB s = true ∧ s.size ≤ 32 ∧ t = false := by
  unfold nmF
  by_cases h1 : spB s = false
  · rw [if_pos h1]; simp [h1]
  · rw [if_neg h1]
    by_cases h2 : s.size > 32
    · rw [if_pos h2]; simp; intro _; omega
    · rw [if_neg h2]
      cases t <;> simp_all
theorem szF_none {f : Fc} {m : Bool} : szF f m = none ↔ 0 ≤ f.params ∧ f.params ≤ f.locals ∧ (m = true → f.params = 0) ∧ f.locals ≤ 64 ∧ 0 < f.code.length ∧ f.code.length ≤ 2000 := by
  unfold szF
  by_cases h1 : f.params < 0 ∨ f.locals < f.params ∨ (m = true ∧ f.params ≠ 0)
  · rw [if_pos h1]
    constructor
    · intro q; cases q
    · intro ⟨a1, a2, a3, _⟩
      rcases h1 with h1 | h1 | ⟨h1, h2⟩
      · omega
      · omega
      · exact absurd (a3 h1) h2
  · rw [if_neg h1]
    have h2 : 0 ≤ f.params ∧ f.params ≤ f.locals ∧ (m = true → f.params = 0) := by
      refine ⟨?_, ?_, fun q => ?_⟩
      · refine Classical.byContradiction fun q => h1 (.inl (by omega))
      · refine Classical.byContradiction fun q => h1 (.inr (.inl (by omega)))
      · exact Classical.byContradiction fun q2 => h1 (.inr (.inr ⟨q, q2⟩))
    by_cases h3 : f.locals > 64
    · rw [if_pos h3]; simp; intro _ _ _; omega
    · rw [if_neg h3]
      by_cases h4 : f.code.length = 0
      · rw [if_pos h4]; simp; intro _ _ _ _; omega
      · rw [if_neg h4]
        by_cases h5 : f.code.length > 2000
        · rw [if_pos h5]; simp; intro _ _ _ _ _; omega
        · rw [if_neg h5]
          exact ⟨fun _ => ⟨h2.1, h2.2.1, h2.2.2, by omega, by omega, by omega⟩, fun _ => rfl⟩
theorem cdG_to {p : Pg} {f : Fc} {l : List (Int × Int)} : ∀ (i : Nat), i ≤ l.length → (∀ (j : Nat) (q : Int × Int), j < i → l[j]? = some q → erN q.1 q.2 = 0 ∧ nmB p f q.1 q.2 = true) → cdG p f l 0 = cdG p f (l.drop i) i
  | 0, _, _ => by simp
  | i + 1, hi, h => by
    have hl : i < l.length := by omega
    obtain ⟨h1, h2⟩ := h i _ (by omega) (List.getElem?_eq_getElem hl)
    rw [cdG_to i (by omega) (fun j c hj hc => h j c (by omega) hc), cdG_at (List.getElem?_eq_getElem hl), if_neg (by rw [h1]; simp), if_neg (by rw [h2]; simp)]
theorem cdF_first {p : Pg} {f : Fc} {k : Nat} {q : Int × Int} (hk : f.code[k]? = some q) (h : ∀ (j : Nat) (q : Int × Int), j < k → f.code[j]? = some q → erN q.1 q.2 = 0 ∧ nmB p f q.1 q.2 = true) : cdF p f = if erN q.1 q.2 ≠ 0 then some ((k : Int), erN q.1 q.2) else if nmB p f q.1 q.2 = false then some ((k : Int), 8) else cdG p f (f.code.drop (k + 1)) (k + 1) := by
  have hl := (List.getElem?_eq_some_iff.1 hk).1
  unfold cdF
  rw [cdG_to k (by omega) h, cdG_at hk]
theorem cdF_none {p : Pg} {f : Fc} : cdF p f = none ↔ ∀ (j : Nat) (q : Int × Int), f.code[j]? = some q → erN q.1 q.2 = 0 ∧ nmB p f q.1 q.2 = true := by
  constructor
  · intro h
    have key : ∀ i, i ≤ f.code.length → ∀ (j : Nat) (q : Int × Int), j < i → f.code[j]? = some q → erN q.1 q.2 = 0 ∧ nmB p f q.1 q.2 = true := by
      intro i
      induction i with
      | zero => intro _ j c hj; omega
      | succ i ih =>
        intro hi j c hj hc
        by_cases q : j < i
        · exact ih (by omega) j c q hc
        · have e : j = i := by omega
          subst e
          rw [cdF_first hc (fun j' c' hj' hc' => ih (by omega) j' c' hj' hc')] at h
          by_cases h1 : erN c.1 c.2 ≠ 0
          · rw [if_pos h1] at h; cases h
          · rw [if_neg h1] at h
            by_cases h2 : nmB p f c.1 c.2 = false
            · rw [if_pos h2] at h; cases h
            · exact ⟨by simpa using h1, by simpa using h2⟩
    intro j c hc
    exact key _ (Nat.le_refl _) j c (List.getElem?_eq_some_iff.1 hc).1 hc
  · intro h
    unfold cdF
    rw [cdG_to f.code.length (Nat.le_refl _) (fun j c _ hc => h j c hc)]
    simp [cdG]
theorem hsG_none {n : Int} {l : List Hd} : hsG n l 0 = none ↔ ∀ (j : Nat) (g : Hd), l[j]? = some g → fitB g n = true := by
  constructor
  · have key : ∀ (l : List Hd) (k : Nat), hsG n l k = none → ∀ (j : Nat) (g : Hd), l[j]? = some g → fitB g n = true := by
      intro l
      induction l with
      | nil => intro k _ j g hg; simp at hg
      | cons a r ih =>
        intro k h j g hg
        rw [hsG] at h
        by_cases q : fitB a n = true
        · rw [if_pos q] at h
          cases j with
          | zero => simp at hg; subst hg; exact q
          | succ j => simp at hg; exact ih (k + 1) h j g hg
        · rw [if_neg q] at h; cases h
    exact key l 0
  · exact hsG_ok
theorem hsF_none {f : Fc} : hsF f = none ↔ f.hs.length ≤ 32 ∧ ∀ (j : Nat) (g : Hd), f.hs[j]? = some g → fitB g f.code.length = true := by
  unfold hsF
  by_cases h : f.hs.length > 32
  · rw [if_pos h]; simp; intro _; omega
  · rw [if_neg h, hsG_none]; simp; intro _; omega
end Go.Proofs.YtlogmdldjmkkjaaGreatDoor
