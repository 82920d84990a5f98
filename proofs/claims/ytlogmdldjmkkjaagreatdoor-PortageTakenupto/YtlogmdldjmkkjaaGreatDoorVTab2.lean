/-
  The document's table of what is met.
-/
import Derived.Test.YtlogmdldjmkkjaaGreatDoorVOkf
import Derived.Test.YtlogmdldjmkkjaaGreatDoorVTab
namespace Go.Proofs.YtlogmdldjmkkjaaGreatDoor
open Go.RowKit
set_option linter.unusedVariables false
set_option linter.unusedSimpArgs false
theorem VpR.uniq {p : Pg} {L L' : Option (List (List Int))} {k a er k' a' er' : Int} (h : VpR p L k a er) (h' : VpR p L' k' a' er') : L = L' ∧ k = k' ∧ a = a' ∧ er = er' := by
  rcases h with ⟨y, h1, h2, h3, h4⟩ | ⟨h1, i, f, h2, h3, h4, h5, h6, h7⟩ | ⟨h1, h2, h3, h4, Ls, h5, h6, h7⟩
  · rcases h' with ⟨y', d1, d2, d3, d4⟩ | ⟨d1, _⟩ | ⟨d1, _⟩
    · rw [h1] at d1
      cases d1
      exact ⟨by rw [h3, d3], rfl, rfl, by rw [h2, d2]⟩
    · rw [h1] at d1; cases d1
    · rw [h1] at d1; cases d1
  · rcases h' with ⟨y', d1, _⟩ | ⟨d1, j, g, d2, d3, d4, d5, d6, d7⟩ | ⟨d1, d2, d3, d4, Ls, d5, d6, d7⟩
    · rw [h1] at d1; cases d1
    · have hij : i = j := by
        rcases Nat.lt_trichotomy i j with e | e | e
        · obtain ⟨l, hl⟩ := d7 i f e h2
          exact absurd (h6.uniq hl).2.2 h5
        · exact e
        · obtain ⟨l, hl⟩ := h7 j g e d2
          exact absurd (d6.uniq hl).2.2 d5
      subst hij
      rw [h2] at d2
      cases d2
      obtain ⟨_, e1, e2⟩ := h6.uniq d6
      exact ⟨by rw [h4, d4], by rw [h3, d3], e1, e2⟩
    · have hi := (List.getElem?_eq_some_iff.1 h2).1
      obtain ⟨l, hl⟩ : ∃ l, Ls[i]? = some l := ⟨_, List.getElem?_eq_getElem (by rw [d6]; exact hi)⟩
      exact absurd (h6.uniq (d7 i f l h2 hl)).2.2 h5
  · rcases h' with ⟨y', d1, _⟩ | ⟨d1, j, g, d2, d3, d4, d5, d6, d7⟩ | ⟨d1, d2, d3, d4, Ls', d5, d6, d7⟩
    · rw [h1] at d1; cases d1
    · have hi := (List.getElem?_eq_some_iff.1 d2).1
      obtain ⟨l, hl⟩ : ∃ l, Ls[j]? = some l := ⟨_, List.getElem?_eq_getElem (by rw [h6]; exact hi)⟩
      exact absurd (d6.uniq (h7 j g l d2 hl)).2.2 d5
    · refine ⟨?_, by rw [h2, d2], by rw [h3, d3], by rw [h4, d4]⟩
      rw [h5, d5]
      congr 1
      apply List.ext_getElem?
      intro i
      by_cases q : i < p.funcs.length
      · obtain ⟨f, hf⟩ : ∃ f, p.funcs[i]? = some f := ⟨_, List.getElem?_eq_getElem q⟩
        obtain ⟨l, hl⟩ : ∃ l, Ls[i]? = some l := ⟨_, List.getElem?_eq_getElem (by rw [h6]; exact q)⟩
        obtain ⟨l', hl'⟩ : ∃ l, Ls'[i]? = some l := ⟨_, List.getElem?_eq_getElem (by rw [d6]; exact q)⟩
        have := ((h7 i f l hf hl).uniq (d7 i f l' hf hl')).1
        cases this
        rw [hl, hl']
      · rw [List.getElem?_eq_none (by omega), List.getElem?_eq_none (by omega)]
end Go.Proofs.YtlogmdldjmkkjaaGreatDoor
