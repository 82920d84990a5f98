/-
  A row of instructions that grows, each in memory of its own beside the row.
-/
import Derived.Test.YtpbdpejhjdoleaaRgK
namespace Go.Proofs.Ytpbdpejhjdoleaa
open Go.RowKit
set_option linter.unusedVariables false
set_option linter.unusedSimpArgs false
structure GS (w : World) (l : List RIn) (lv : Value) (rs : List InR) (wr : World) : Prop where
  bl : Below w.heap.size w wr
  len : rs.length = l.length
  row : Ro wr 8 lv l.length (flt enIn rs)
  rb : ∀ b, lv.ownBlock = some b → w.heap.size ≤ b
  el : ∀ (i : Nat) (x : RIn) (r : InR), l[i]? = some x → rs[i]? = some r → InP (fun k => w.heap.size ≤ k ∧ lv.ownBlock ≠ some k) wr x r
section
variable {w wr w' : World} {l : List RIn} {lv : Value} {rs : List InR}
theorem GS.on (h : GS w l lv rs wr) (b : Below wr.heap.size wr w') : GS w l lv rs w' := by
  have f : Fr (fun _ => False) wr w' := Fr.of_below b
  exact ⟨bl_past h.bl b, h.len, h.row.fr f (fun _ _ e => e), h.rb, fun i x r hx hr => InP.mv _ _ _ _ _ _ _ (h.el i x r hx hr) f (fun k _ e => ⟨fun q => q, e⟩)⟩
/-- One more: it lies in memory that is newer than the row. -/
theorem GS.push (h : GS w l lv rs wr) {x : RIn} {r : InR} {w1 w2 : World} {v' : Value} {m : Nat} (hb : Below wr.heap.size wr w1) (hx : InP (fun k => wr.heap.size ≤ k) w1 x r) (hr : Ro w2 8 v' m (flt enIn rs ++ enIn r)) (hm : m = l.length + 1) (hg : w1.grownBy w2 lv.ownBlock) (hat : v'.ownBlock = lv.ownBlock ∨ v'.ownBlock = some w1.heap.size) : GS w (l ++ [x]) v' (rs ++ [r]) w2 := by
  subst hm
  have h1 := h.on hb
  have hs := h.bl.size
  have hs1 := hb.size
  have f : Fr (fun k => lv.ownBlock = some k) w1 w2 := (Fr.refl _ w1).grown hg (fun k e => .inr e)
  have hlt : ∀ k, lv.ownBlock = some k → k < wr.heap.size := fun k hk => h.row.lt k hk
  have hmv : ∀ k, k < w1.heap.size → (w.heap.size ≤ k ∧ lv.ownBlock ≠ some k) → ¬ (lv.ownBlock = some k) ∧ (w.heap.size ≤ k ∧ v'.ownBlock ≠ some k) := fun k hk e => ⟨e.2, e.1, fun q => by
    rcases hat with a | a
    · rw [a] at q; exact e.2 q
    · rw [a] at q; have : w1.heap.size = k := Option.some.inj q; omega⟩
  refine ⟨h1.bl.trans (f.below h1.bl.size (fun k hk e => by have := h.rb k e; omega)), by simp [h.len], by rw [List.length_append, flt_append]; simpa [flt] using hr, fun b hb' => ?_, fun i y q hy hq => ?_⟩
  · rcases hat with a | a
    · rw [a] at hb'; exact h.rb b hb'
    · rw [a] at hb'; have : w1.heap.size = b := Option.some.inj hb'; omega
  · have hll := h.len
    by_cases c : i < l.length
    · rw [List.getElem?_append_left c] at hy
      rw [List.getElem?_append_left (by omega)] at hq
      exact InP.mv _ _ _ _ _ _ _ (h1.el i y q hy hq) f hmv
    · rw [List.getElem?_append_right (by omega)] at hy hq
      have hi : i - l.length = 0 := by have := (List.getElem?_eq_some_iff.1 hy).1; simp at this; omega
      rw [hi] at hy
      rw [hll, hi] at hq
      cases hy
      cases hq
      exact InP.mv _ _ _ _ _ _ _ hx f (fun k hk e => hmv k hk ⟨by omega, fun q => by have := hlt k q; omega⟩)
end
end Go.Proofs.Ytpbdpejhjdoleaa
