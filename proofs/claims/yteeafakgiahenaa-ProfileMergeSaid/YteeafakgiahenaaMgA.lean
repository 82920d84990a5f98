/-
  ProfileMerge's law.
-/
import Derived.Test.YteeafakgiahenaaPMg
import Derived.Test.YteeafakgiahenaaPKp
namespace Go.Proofs.Yteeafakgiahenaa
open Go.RowKit
set_option linter.unusedVariables false
set_option linter.unusedSimpArgs false
section
variable {T U : Type} {en : T → List Value} {sz : Nat} {P : World → U → T → Prop} {bl : T → Nat → Prop} {Z : Nat → Prop}
/-- What lies in one thing of a row turns. -/
theorem OW.innerU {w w' : World} {v : Value} {us : List U} {xs : List T} {S : Nat → Prop} (hP : Stays P bl) (h : OW en sz P bl Z w v us xs) (f : Fr S w w') {i : Nat} {u : U} {x : T} (hi : i < us.length) (hx : xs[i]? = some x) (hS : ∀ k, S k → bl x k) (hp : P w' u x) : OW en sz P bl Z w' v (us.set i u) xs := by
  refine ⟨by simp [h.len], by rw [List.length_set]; exact h.row.fr f (fun k hk hs => (h.eb i x k hx (hS k hs)).2.2 hk), h.rb, fun j q z hq hz => ?_, fun j z k hz hk => ⟨(h.eb j z k hz hk).1, Nat.lt_of_lt_of_le (h.eb j z k hz hk).2.1 f.size, (h.eb j z k hz hk).2.2⟩, h.ap⟩
  by_cases hj : j = i
  · subst hj
    rw [hx] at hz
    cases hz
    rw [List.getElem?_set_self hi] at hq
    cases hq
    exact hp
  · rw [List.getElem?_set_ne (fun e => hj e.symm)] at hq
    exact hP _ w _ q z (h.el j q z hq hz) f (fun k hk hs => h.ap j i z x k hj hz hx hk (hS k hs))
end
theorem OW.toS {Z : Nat → Prop} {w : World} {v : Value} {f : List (List Sp)} {vs : List Value} (h : LO Z w v f vs) : SO Z w v f vs :=
  ⟨h.len, h.row, h.rb, fun i l u hl hu => (h.el i l u hl hu).rx, h.eb, h.ap⟩
/-- The same lengths. -/
def Alk (f f' : List (List Sp)) : Prop := f'.map List.length = f.map List.length
theorem Alk.len {f f' : List (List Sp)} (h : Alk f f') : f'.length = f.length := by have := congrArg List.length h; simpa using this
theorem Alk.at {f f' : List (List Sp)} (h : Alk f f') {i : Nat} {l l' : List Sp} (h1 : f[i]? = some l) (h2 : f'[i]? = some l') : l'.length = l.length := by
  have := congrArg (fun q => q[i]?) h
  simpa [h1, h2] using this
theorem Alk.le {f f' : List (List Sp)} (h : Alk f f') {B : Nat} (hB : ∀ l ∈ f, l.length ≤ B) : ∀ l ∈ f', l.length ≤ B := fun l hl => by
  obtain ⟨i, hi, rfl⟩ := List.getElem_of_mem hl
  have hi2 : i < f.length := by have := h.len; omega
  rw [h.at (List.getElem?_eq_getElem hi2) (List.getElem?_eq_getElem hi)]
  exact hB _ (List.getElem_mem hi2)
theorem Alk.set {f f' : List (List Sp)} (h : Alk f f') {i : Nat} {l : List Sp} (hl : f'[i]? = some l) (j : Nat) (s : Sp) : Alk f (f'.set i (l.set j s)) := by
  unfold Alk at h ⊢
  rw [← h, List.map_set, List.length_set]
  refine List.ext_getElem? (fun k => ?_)
  rw [List.getElem?_set]
  split
  · rename_i e
    subst e
    split
    · simp [hl]
    · rename_i q
      rw [List.getElem?_eq_none (by simpa using q)]
  · rfl
theorem OkF.set {f : List (List Sp)} (h : OkF f) {i : Nat} {l : List Sp} (hl : f[i]? = some l) (j : Nat) {s : Sp} (hs : okS s) : OkF (f.set i (l.set j s)) := fun l' hl' s' hs' => by
  rcases List.mem_or_eq_of_mem_set hl' with q | q
  · exact h l' q s' hs'
  · rw [q] at hs'
    rcases List.mem_or_eq_of_mem_set hs' with r | r
    · exact h l (List.mem_of_getElem? hl) s' r
    · rw [r]; exact hs
end Go.Proofs.Yteeafakgiahenaa
