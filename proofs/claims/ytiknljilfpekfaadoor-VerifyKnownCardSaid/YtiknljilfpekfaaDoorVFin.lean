/-
  What is found of a function.
-/
import Derived.Test.YtiknljilfpekfaaDoorVInv
namespace Go.Proofs.YtiknljilfpekfaaDoor
open Go.RowKit
set_option linter.unusedVariables false
set_option linter.unusedSimpArgs false
/-- Wrong by the heights at an instruction. -/
def BadM (f : Fc) (p : Nat) : Prop := ∃ ht op a, Mt f ((p : Int), ht) ∧ f.code[p]? = some (op, a) ∧ ((∃ h2, Mt f ((p : Int), h2) ∧ h2 ≠ ht) ∨ ht - tkI op a < flo f.hs (p : Int) ∨ 64 < ht - tkI op a + ptI op a)
/-- Wrong by no way. -/
def Un (f : Fc) (p : Nat) : Prop := ∃ op a, f.code[p]? = some (op, a) ∧ ((∀ ht, ¬ Mt f ((p : Int), ht)) ∨ (p + 1 = f.code.length ∧ enB op = false))
/-- What is found of a function. -/
def FnR (f : Fc) (hv : Option (List Int)) (pl er : Int) : Prop :=
  (er = 9 ∧ hv = none ∧ ∃ p : Nat, pl = (p : Int) ∧ BadM f p ∧ ∀ q, q < p → ¬ BadM f q) ∨
  (er = 10 ∧ hv = none ∧ (∀ q, ¬ BadM f q) ∧ ∃ p : Nat, pl = (p : Int) ∧ Un f p ∧ ∀ q, q < p → ¬ Un f q) ∨
  (er = 0 ∧ pl = 0 ∧ (∀ q, ¬ BadM f q) ∧ (∀ q, ¬ Un f q) ∧ ∃ hts, hv = some hts ∧ hts.length = f.code.length ∧ ∀ (p : Nat) ht, hts[p]? = some ht ↔ Mt f ((p : Int), ht))
theorem fls_at {n p : Nat} {hs : List Hd} {v : Int} (h : (fls n hs)[p]? = some v) : v = flo hs (p : Int) := by
  unfold fls at h
  rw [List.getElem?_map] at h
  by_cases hp : p < n
  · rw [List.getElem?_range hp] at h
    exact (Option.some.inj h).symm
  · rw [List.getElem?_eq_none (by simp; omega)] at h
    cases h
theorem fls_len (n : Nat) (hs : List Hd) : (fls n hs).length = n := by simp [fls]
section
variable {f : Fc} {A : Sa}
theorem Iv.all {fl : List Int} (h : Iv f fl A) (hl : A.left = []) {s : Spot} : s ∈ A.met ↔ Mt f s := by
  have pd : ∀ t, t ∈ A.met → Pd A t := fun t q => ⟨q, by rw [hl]; simp⟩
  refine ⟨h.snd s, fun q => ?_⟩
  induction q with
  | zero => exact h.st0
  | next _ hi hn ih => exact h.cl _ _ _ _ (pd _ ih) hi _ hn
  | hand _ hm hh ih =>
    obtain ⟨y, hy, hyn⟩ := h.h2 _ _ (pd _ ih)
    exact h.cw _ y hy hyn _ hm hh
theorem Iv.badM (hf : OkF f) (h : Iv f (fls f.code.length f.hs) A) (hl : A.left = []) (p : Nat) : BadM f p ↔ ∃ ht, Pd A ((p : Int), ht) ∧ Bad f (fls f.code.length f.hs) A.hts p ht := by
  have pd : ∀ t, Mt f t → Pd A t := fun t q => ⟨(h.all hl).2 q, by rw [hl]; simp⟩
  constructor
  · rintro ⟨ht, op, a, hm, hi, hb⟩
    have hp : p < f.code.length := (List.getElem?_eq_some_iff.1 hi).1
    obtain ⟨y, hy, hyn⟩ := h.h2 _ _ (pd _ hm)
    obtain ⟨fv, hfv⟩ : ∃ q, (fls f.code.length f.hs)[p]? = some q := ⟨_, List.getElem?_eq_getElem (by rw [fls_len]; exact hp)⟩
    have ef := fls_at hfv
    rcases hb with ⟨h2, hm2, hne⟩ | hb
    · by_cases e : ht = y
      · exact ⟨h2, pd _ hm2, y, fv, op, a, hy, hfv, hi, .inl (by omega)⟩
      · exact ⟨ht, pd _ hm, y, fv, op, a, hy, hfv, hi, .inl e⟩
    · exact ⟨ht, pd _ hm, y, fv, op, a, hy, hfv, hi, .inr (by rw [ef]; exact hb)⟩
  · rintro ⟨ht, hpd, hv, fv, op, a, h1, h2, h3, h4⟩
    have hm := h.snd _ hpd.1
    obtain ⟨y, hy, hyn⟩ := h.h2 _ _ hpd
    rw [h1] at hy
    cases hy
    refine ⟨ht, op, a, hm, h3, ?_⟩
    rcases h4 with h4 | h4
    · exact .inl ⟨hv, h.snd _ (h.h1 p hv h1 hyn).1, fun e => h4 e.symm⟩
    · rw [fls_at h2] at h4
      exact .inr h4
theorem Iv.wrong (hf : OkF f) (h : Iv f (fls f.code.length f.hs) A) (hl : A.left = []) :
    (A.wr = (f.code.length : Int) ∧ ∀ q, ¬ BadM f q) ∨ ∃ p : Nat, A.wr = (p : Int) ∧ p < f.code.length ∧ BadM f p ∧ ∀ q, q < p → ¬ BadM f q := by
  have lt : ∀ q, BadM f q → q < f.code.length := fun q ⟨_, _, _, _, hi, _⟩ => (List.getElem?_eq_some_iff.1 hi).1
  have le : ∀ q, BadM f q → A.wr ≤ (q : Int) := fun q hq => by
    obtain ⟨ht, h1, h2⟩ := (h.badM hf hl q).1 hq
    exact h.w1 q ht h1 h2
  rcases h.w2 with e | ⟨p, ht, h1, h2, h3⟩
  · exact .inl ⟨e, fun q hq => by have := le q hq; have := lt q hq; omega⟩
  · have hb := (h.badM hf hl p).2 ⟨ht, h1, h2⟩
    exact .inr ⟨p, h3, lt p hb, hb, fun q hq hqb => by have := le q hqb; omega⟩
theorem Iv.hts_iff (hf : OkF f) {fl : List Int} (h : Iv f fl A) (hl : A.left = []) {p : Nat} (hp : p < f.code.length) : A.hts[p]? = some (-1) ↔ ∀ ht, ¬ Mt f ((p : Int), ht) := by
  obtain ⟨y, hy⟩ : ∃ q, A.hts[p]? = some q := ⟨_, List.getElem?_eq_getElem (by rw [h.len]; exact hp)⟩
  constructor
  · intro e ht hm
    obtain ⟨z, hz, hzn⟩ := h.h2 p ht ⟨(h.all hl).2 hm, by rw [hl]; simp⟩
    rw [e] at hz
    exact hzn (Option.some.inj hz).symm
  · intro hn
    by_cases e : y = -1
    · rw [hy, e]
    · exact absurd (h.snd _ (h.h1 p y hy e).1) (hn y)
/-- All fits: the heights are those at which the instructions are met. -/
theorem Iv.heights (hf : OkF f) (h : Iv f (fls f.code.length f.hs) A) (hl : A.left = []) (hb : ∀ q, ¬ BadM f q) (hn : ∀ (p : Nat) y, A.hts[p]? = some y → y ≠ -1) (p : Nat) (ht : Int) : A.hts[p]? = some ht ↔ Mt f ((p : Int), ht) := by
  constructor
  · intro e
    exact h.snd _ (h.h1 p ht e (hn p ht e)).1
  · intro hm
    have hbd := hm.bd hf
    simp only at hbd
    have hp : p < f.code.length := by omega
    obtain ⟨y, hy⟩ : ∃ q, A.hts[p]? = some q := ⟨_, List.getElem?_eq_getElem (by rw [h.len]; exact hp)⟩
    obtain ⟨⟨op, a⟩, hi⟩ : ∃ q, f.code[p]? = some q := ⟨_, List.getElem?_eq_getElem hp⟩
    have hmy := h.snd _ (h.h1 p y hy (hn p y hy)).1
    by_cases e : y = ht
    · rw [hy, e]
    · exact absurd ⟨ht, op, a, hm, hi, .inl ⟨y, hmy, e⟩⟩ (hb p)
end
end Go.Proofs.YtiknljilfpekfaaDoor
