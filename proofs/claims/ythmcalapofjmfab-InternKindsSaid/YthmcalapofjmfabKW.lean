/-
  Four indexes side by side.
-/
import Derived.Test.YthmcalapofjmfabCS
import Derived.Test.YthmcalapofjmfabCP
import Derived.Test.YthmcalapofjmfabCI
import Derived.Test.YthmcalapofjmfabCB
namespace Go.Proofs.Ythmcalapofjmfab
open Go.RowKit Go.Maps
set_option linter.unusedVariables false

def updF {α : Type} (f : Nat → α) (k : Nat) (x : α) : Nat → α := fun j => if j = k then x else f j
theorem updF_at {α : Type} (f : Nat → α) (k : Nat) (x : α) : updF f k x k = x := if_pos rfl
theorem updF_ne {α : Type} (f : Nat → α) {k j : Nat} (x : α) (h : j ≠ k) : updF f k x j = f j := if_neg h

/-- What is each one's own lies apart from what is the others', above all that came in. -/
structure Feet (w0 : World) (P B : Nat → Nat) (V : Nat → Value) (w : World) : Prop where
  dj : ∀ i j, i < 4 → j < 4 → i ≠ j → ∀ x, Foot (P i) (B i) (V i) x → ¬ Foot (P j) (B j) (V j) x
  lo : ∀ i, i < 4 → ∀ x, Foot (P i) (B i) (V i) x → w0.heap.size ≤ x
  hi : ∀ i, i < 4 → ∀ x, Foot (P i) (B i) (V i) x → x < w.heap.size
  bel : Below w0.heap.size w0 w
theorem Feet.step {w0 w w' : World} {P B : Nat → Nat} {V : Nat → Value} (h : Feet w0 P B V w) {i : Nat} (hi : i < 4) {v' : Value} (s : IStep (P i) (B i) w (V i) w' v') (hv : ∀ x, v'.ownBlock = some x → x < w'.heap.size) : Feet w0 P B (updF V i v') w' := by
  have hs := s.fr.size
  have hw := h.bel.size
  have new : ∀ x, Foot (P i) (B i) v' x → Foot (P i) (B i) (V i) x ∨ w.heap.size ≤ x := fun x hx => by
    rcases hx with e | e | e
    · exact .inl (.inl e)
    · exact .inl (.inr (.inl e))
    · rcases s.row with q | q
      · exact .inl (.inr (.inr (q.symm.trans e)))
      · exact .inr (q x e)
  refine ⟨fun a c ha hc hne x h1 h2 => ?_, fun a ha x h1 => ?_, fun a ha x h1 => ?_, h.bel.trans (s.fr.below hw (fun x hx q => by have := h.lo i hi x q; omega))⟩
  · by_cases ea : a = i
    · subst ea
      rw [updF_at] at h1
      rw [updF_ne _ _ (fun e => hne e.symm)] at h2
      rcases new x h1 with q | q
      · exact h.dj a c ha hc hne x q h2
      · have := h.hi c hc x h2; omega
    · rw [updF_ne _ _ ea] at h1
      by_cases ec : c = i
      · subst ec
        rw [updF_at] at h2
        rcases new x h2 with q | q
        · exact h.dj a c ha hc hne x h1 q
        · have := h.hi a ha x h1; omega
      · rw [updF_ne _ _ ec] at h2
        exact h.dj a c ha hc hne x h1 h2
  · by_cases ea : a = i
    · subst ea
      rw [updF_at] at h1
      rcases new x h1 with q | q
      · exact h.lo a ha x q
      · omega
    · rw [updF_ne _ _ ea] at h1
      exact h.lo a ha x h1
  · by_cases ea : a = i
    · subst ea
      rw [updF_at] at h1
      rcases h1 with e | e | e
      · exact Nat.lt_of_lt_of_le (h.hi a ha x (.inl e)) hs
      · exact Nat.lt_of_lt_of_le (h.hi a ha x (.inr (.inl e))) hs
      · exact hv x e
    · rw [updF_ne _ _ ea] at h1
      exact Nat.lt_of_lt_of_le (h.hi a ha x h1) hs
theorem Feet.below {w0 w w' : World} {P B : Nat → Nat} {V : Nat → Value} (h : Feet w0 P B V w) (f : Below w.heap.size w w') : Feet w0 P B V w' :=
  ⟨h.dj, h.lo, fun i hi x hx => Nat.lt_of_lt_of_le (h.hi i hi x hx) f.size, h.bel.trans (f.mono h.bel.size)⟩

/-- The four indexes. -/
structure KW (w0 : World) (P B : Nat → Nat) (V : Nat → Value) (k0 k1 k2 k3 : List Nat) (w : World) : Prop where
  ft : Feet w0 P B V w
  a : IxS w (P 0) (B 0) (V 0) k0
  b : IxP w (P 1) (B 1) (V 1) k1
  c : IxI w (P 2) (B 2) (V 2) k2
  d : IxB w (P 3) (B 3) (V 3) k3
section
variable {w0 w w' : World} {P B : Nat → Nat} {V : Nat → Value} {k0 k1 k2 k3 l : List Nat} {v' : Value}
theorem KW.below (h : KW w0 P B V k0 k1 k2 k3 w) (f : Below w.heap.size w w') : KW w0 P B V k0 k1 k2 k3 w' := ⟨h.ft.below f, h.a.below f, h.b.below f, h.c.below f, h.d.below f⟩
theorem KW.sa (h : KW w0 P B V k0 k1 k2 k3 w) (hI : IxS w' (P 0) (B 0) v' l) (s : IStep (P 0) (B 0) w (V 0) w' v') : KW w0 P B (updF V 0 v') l k1 k2 k3 w' :=
  ⟨h.ft.step (by omega) s hI.vlt, by rw [updF_at]; exact hI, by rw [updF_ne _ _ (by omega)]; exact h.b.keep s.fr (fun x hx => h.ft.dj 1 0 (by omega) (by omega) (by omega) x hx), by rw [updF_ne _ _ (by omega)]; exact h.c.keep s.fr (fun x hx => h.ft.dj 2 0 (by omega) (by omega) (by omega) x hx), by rw [updF_ne _ _ (by omega)]; exact h.d.keep s.fr (fun x hx => h.ft.dj 3 0 (by omega) (by omega) (by omega) x hx)⟩
theorem KW.sb (h : KW w0 P B V k0 k1 k2 k3 w) (hI : IxP w' (P 1) (B 1) v' l) (s : IStep (P 1) (B 1) w (V 1) w' v') : KW w0 P B (updF V 1 v') k0 l k2 k3 w' :=
  ⟨h.ft.step (by omega) s hI.vlt, by rw [updF_ne _ _ (by omega)]; exact h.a.keep s.fr (fun x hx => h.ft.dj 0 1 (by omega) (by omega) (by omega) x hx), by rw [updF_at]; exact hI, by rw [updF_ne _ _ (by omega)]; exact h.c.keep s.fr (fun x hx => h.ft.dj 2 1 (by omega) (by omega) (by omega) x hx), by rw [updF_ne _ _ (by omega)]; exact h.d.keep s.fr (fun x hx => h.ft.dj 3 1 (by omega) (by omega) (by omega) x hx)⟩
theorem KW.sc (h : KW w0 P B V k0 k1 k2 k3 w) (hI : IxI w' (P 2) (B 2) v' l) (s : IStep (P 2) (B 2) w (V 2) w' v') : KW w0 P B (updF V 2 v') k0 k1 l k3 w' :=
  ⟨h.ft.step (by omega) s hI.vlt, by rw [updF_ne _ _ (by omega)]; exact h.a.keep s.fr (fun x hx => h.ft.dj 0 2 (by omega) (by omega) (by omega) x hx), by rw [updF_ne _ _ (by omega)]; exact h.b.keep s.fr (fun x hx => h.ft.dj 1 2 (by omega) (by omega) (by omega) x hx), by rw [updF_at]; exact hI, by rw [updF_ne _ _ (by omega)]; exact h.d.keep s.fr (fun x hx => h.ft.dj 3 2 (by omega) (by omega) (by omega) x hx)⟩
theorem KW.sd (h : KW w0 P B V k0 k1 k2 k3 w) (hI : IxB w' (P 3) (B 3) v' l) (s : IStep (P 3) (B 3) w (V 3) w' v') : KW w0 P B (updF V 3 v') k0 k1 k2 l w' :=
  ⟨h.ft.step (by omega) s hI.vlt, by rw [updF_ne _ _ (by omega)]; exact h.a.keep s.fr (fun x hx => h.ft.dj 0 3 (by omega) (by omega) (by omega) x hx), by rw [updF_ne _ _ (by omega)]; exact h.b.keep s.fr (fun x hx => h.ft.dj 1 3 (by omega) (by omega) (by omega) x hx), by rw [updF_ne _ _ (by omega)]; exact h.c.keep s.fr (fun x hx => h.ft.dj 2 3 (by omega) (by omega) (by omega) x hx), by rw [updF_at]; exact hI⟩

end
end Go.Proofs.Ythmcalapofjmfab
