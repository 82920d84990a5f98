/-
  Two readers, the document's two, and what was handed out.
-/
import Derived.Test.YtnfinplkeefdgaaApart
namespace Go.Proofs.Ytnfinplkeefdgaa
open Go.RowKit

def updF {α : Type} (f : Nat → α) (k : Nat) (x : α) : Nat → α := fun j => if j = k then x else f j
theorem updF_at {α : Type} (f : Nat → α) (k : Nat) (x : α) : updF f k x k = x := if_pos rfl
theorem updF_ne {α : Type} (f : Nat → α) {k j : Nat} (x : α) (h : j ≠ k) : updF f k x j = f j := if_neg h

/-- Where the things lie. -/
structure WC (w W : World) (R RB Q QB : Nat → Nat) (bx : Nat) : Prop where
  rl : ∀ k, k < 2 → w.heap.size ≤ R k ∧ R k < W.heap.size
  ql : ∀ k, k < 2 → w.heap.size ≤ Q k ∧ Q k < W.heap.size
  rbl : ∀ k, k < 2 → RB k < W.heap.size
  qbl : ∀ k, k < 2 → QB k < W.heap.size
  bl : w.heap.size ≤ bx ∧ bx < W.heap.size
  rr : ∀ j k, j < 2 → k < 2 → j ≠ k → R j ≠ R k
  qq : ∀ j k, j < 2 → k < 2 → j ≠ k → Q j ≠ Q k
  rq : ∀ j k, j < 2 → k < 2 → R j ≠ Q k
  rrb : ∀ j k, j < 2 → k < 2 → R j ≠ RB k
  rqb : ∀ j k, j < 2 → k < 2 → R j ≠ QB k
  qrb : ∀ j k, j < 2 → k < 2 → Q j ≠ RB k
  qqb : ∀ j k, j < 2 → k < 2 → Q j ≠ QB k
  br : ∀ k, k < 2 → bx ≠ R k
  bq : ∀ k, k < 2 → bx ≠ Q k

/-- What holds between two calls. -/
structure WR (w W : World) (R RB Q QB : Nat → Nat) (bx : Nat) (U V : Nat → Value) (bs B : Nat → List Int) (pl : Nat → Nat) (eR eQ : Nat → Int) (told : Value) (vs : List Value) (ns : Nat → Nat) (wr : World) : Prop where
  rd : ∀ k, k < 2 → Rdr wr (R k) (RB k) (U k) (bs k) (eR k)
  rf : ∀ k, k < 2 → RefR wr (Q k) (QB k) (V k) (B k) (pl k) (eQ k)
  bxc : ∀ k, k < 2 → wr.cell? ⟨bx, k, none⟩ = some (.pointer (some ⟨Q k, 0, none⟩))
  tow : wr.ownsRow W.heap.size 22 1 told vs.length vs
  rows : ∃ xss, Rws wr W.heap.size vs xss wr ∧ ∀ k', (xss k').length = ns k'
  tap : ∀ j b, j < vs.length → told.ownBlock = some b → (vs.getD j (.slice none 0 0)).ownBlock ≠ some b
  bel : Below w.heap.size w wr
  fr : W.heap.size ≤ wr.heap.size

section
variable {w W wr w' : World} {R RB Q QB : Nat → Nat} {bx : Nat} {U V : Nat → Value} {bs B : Nat → List Int} {pl : Nat → Nat} {eR eQ : Nat → Int} {told : Value} {vs : List Value} {ns : Nat → Nat}

theorem WR.rowl (h : WR w W R RB Q QB bx U V bs B pl eR eQ told vs ns wr) {j b : Nat} (hj : j < vs.length) (hb : (vs.getD j (.slice none 0 0)).ownBlock = some b) : W.heap.size ≤ b ∧ b < wr.heap.size := by
  obtain ⟨xss, h1, _⟩ := h.rows
  exact (h1.own j hj).lt b hb

/-- Nothing of all this is touched. -/
theorem WR.keep (h : WR w W R RB Q QB bx U V bs B pl eR eQ told vs ns wr) (c : WC w W R RB Q QB bx) {S : Nat → Prop} (f : Fr S wr w') (hS : ∀ b, b < W.heap.size → ¬ S b)
    (hT : ∀ b, told.ownBlock = some b → ¬ S b) (hV : ∀ j b, j < vs.length → (vs.getD j (.slice none 0 0)).ownBlock = some b → ¬ S b) (hw : w.heap.size ≤ W.heap.size) : WR w W R RB Q QB bx U V bs B pl eR eQ told vs ns w' := by
  have hfr := h.fr
  refine ⟨fun k hk => (h.rd k hk).keep f (hS _ (c.rl k hk).2) (fun b off len cap e => hS b (by rw [(h.rd k hk).ap b off len cap e]; exact c.rbl k hk)),
    fun k hk => (h.rf k hk).keep f (hS _ (c.ql k hk).2) (fun b off len cap e => hS b (by rw [(h.rf k hk).ap b off len cap e]; exact c.qbl k hk)),
    fun k hk => (f.cell (a := ⟨bx, k, none⟩) (by have := c.bl.2; show bx < _; omega) (hS _ c.bl.2)).trans (h.bxc k hk),
    own_keepT h.tow (fun g hg => f.block g (h.tow.lt g hg).2 (hT g hg)), ?_, h.tap, h.bel.trans (f.below h.bel.size (fun b hb => hS b (by omega))), Nat.le_trans hfr f.size⟩
  obtain ⟨xss, h1, h2⟩ := h.rows
  exact ⟨xss, ⟨fun k hk => own_keepT (h1.own k hk) (fun g hg => f.block g ((h1.own k hk).lt g hg).2 (hV k g hk hg)), h1.ap, Fr.refl _ _⟩, h2⟩
theorem WR.below (h : WR w W R RB Q QB bx U V bs B pl eR eQ told vs ns wr) (c : WC w W R RB Q QB bx) (f : Below wr.heap.size wr w') (hw : w.heap.size ≤ W.heap.size) : WR w W R RB Q QB bx U V bs B pl eR eQ told vs ns w' :=
  h.keep c (Fr.of_below (S := fun _ => False) f) (fun _ _ e => e) (fun _ _ e => e) (fun _ _ _ _ e => e) hw
/-- Behind a call of the document's reader k. -/
theorem WR.asked (h : WR w W R RB Q QB bx U V bs B pl eR eQ told vs ns wr) (c : WC w W R RB Q QB bx) {k : Nat} (hk : k < 2) {pl' : Nat} {e1 : Int} (h2 : RefR w' (Q k) (QB k) (V k) (B k) pl' e1) (f : RFr (Q k) wr w') :
    WR w W R RB Q QB bx U V bs B (updF pl k pl') eR (updF eQ k e1) told vs ns w' := by
  have hfr := h.fr
  have hqk := c.ql k hk
  have f' : Fr (fun b => b = Q k) wr w' := f
  refine ⟨fun j hj => (h.rd j hj).keep f' (c.rq j k hj hk) (fun b off len cap e q => c.qrb k j hk hj (by rw [← (h.rd j hj).ap b off len cap e]; exact q.symm)),
    fun j hj => ?_,
    fun j hj => (f'.cell (a := ⟨bx, j, none⟩) (by have := c.bl.2; show bx < _; omega) (c.bq k hk)).trans (h.bxc j hj),
    own_keepT h.tow (fun g hg => f'.block g (h.tow.lt g hg).2 (fun q => by have := (h.tow.lt g hg).1; omega)), ?_, h.tap, h.bel.trans (f'.below h.bel.size (fun b hb q => by omega)), Nat.le_trans hfr f'.size⟩
  · by_cases e : j = k
    · subst e
      rw [updF_at, updF_at]
      exact h2
    · rw [updF_ne _ _ e, updF_ne _ _ e]
      exact (h.rf j hj).keep f' (c.qq j k hj hk e) (fun b off len cap e q => c.qqb k j hk hj (by rw [← (h.rf j hj).ap b off len cap e]; exact q.symm))
  · obtain ⟨xss, h1, h3⟩ := h.rows
    exact ⟨xss, ⟨fun j hj => own_keepT (h1.own j hj) (fun g hg => f'.block g ((h1.own j hj).lt g hg).2 (fun q => by have := ((h1.own j hj).lt g hg).1; omega)), h1.ap, Fr.refl _ _⟩, h3⟩
/-- Behind a call of the program's reader k. -/
theorem WR.got (h : WR w W R RB Q QB bx U V bs B pl eR eQ told vs ns wr) (c : WC w W R RB Q QB bx) {k : Nat} (hk : k < 2) {v2 : Value} {left : List Int} {e1 : Int} (h2 : Rdr w' (R k) (RB k) v2 left e1) (f : RFr (R k) wr w') :
    WR w W R RB Q QB bx (updF U k v2) V (updF bs k left) B pl (updF eR k e1) eQ told vs ns w' := by
  have hfr := h.fr
  have hqk := c.rl k hk
  have f' : Fr (fun b => b = R k) wr w' := f
  refine ⟨fun j hj => ?_,
    fun j hj => (h.rf j hj).keep f' (fun q => c.rq k j hk hj q.symm) (fun b off len cap e q => c.rqb k j hk hj (by rw [← (h.rf j hj).ap b off len cap e]; exact q.symm)),
    fun j hj => (f'.cell (a := ⟨bx, j, none⟩) (by have := c.bl.2; show bx < _; omega) (c.br k hk)).trans (h.bxc j hj),
    own_keepT h.tow (fun g hg => f'.block g (h.tow.lt g hg).2 (fun q => by have := (h.tow.lt g hg).1; omega)), ?_, h.tap, h.bel.trans (f'.below h.bel.size (fun b hb q => by omega)), Nat.le_trans hfr f'.size⟩
  · by_cases e : j = k
    · subst e
      rw [updF_at, updF_at, updF_at]
      exact h2
    · rw [updF_ne _ _ e, updF_ne _ _ e, updF_ne _ _ e]
      exact (h.rd j hj).keep f' (c.rr j k hj hk e) (fun b off len cap e q => c.rrb k j hk hj (by rw [← (h.rd j hj).ap b off len cap e]; exact q.symm))
  · obtain ⟨xss, h1, h3⟩ := h.rows
    exact ⟨xss, ⟨fun j hj => own_keepT (h1.own j hj) (fun g hg => f'.block g ((h1.own j hj).lt g hg).2 (fun q => by have := ((h1.own j hj).lt g hg).1; omega)), h1.ap, Fr.refl _ _⟩, h3⟩
/-- A row that is handed out is laid behind the others. -/
theorem WR.pushed (h : WR w W R RB Q QB bx U V bs B pl eR eQ told vs ns wr) (c : WC w W R RB Q QB bx) {o : Obj} {told' l : Value} {xs : List Int} (hl : wr.ownsRow W.heap.size 5 1 l xs.length (xs.map By))
    (hlr : ∀ j b, j < vs.length → (vs.getD j (.slice none 0 0)).ownBlock = some b → l.ownBlock ≠ some b) (hlt : ∀ b, told.ownBlock = some b → l.ownBlock ≠ some b)
    (hown : w'.ownsRow W.heap.size 22 1 told' (vs.length + 1) (vs ++ [l])) (hg : (wr.alloc o).grownBy w' told.ownBlock) (hat : told'.ownBlock = told.ownBlock ∨ told'.ownBlock = some (wr.heap.size + 1)) (hw : w.heap.size ≤ W.heap.size) :
    WR w W R RB Q QB bx U V bs B pl eR eQ told' (vs ++ [l]) (updF ns vs.length xs.length) w' := by
  have hfr := h.fr
  have f : Fr (fun b => told.ownBlock = some b) wr w' := (((Fr.refl (fun b => told.ownBlock = some b) wr).alloc o)).grown hg (fun b e => .inr e)
  have hS : ∀ b, b < W.heap.size → ¬ told.ownBlock = some b := fun b hb e => by have := (h.tow.lt b e).1; omega
  have hz : (wr.alloc o).heap.size = wr.heap.size + 1 := by simp
  obtain ⟨xss, h1, h3⟩ := h.rows
  have gl : ∀ j, j < vs.length → (vs ++ [l]).getD j (.slice none 0 0) = vs.getD j (.slice none 0 0) := fun j hj => by
    rw [List.getD_eq_getElem?_getD, List.getElem?_append_left hj, ← List.getD_eq_getElem?_getD]
  have gr : (vs ++ [l]).getD vs.length (.slice none 0 0) = l := by
    rw [List.getD_eq_getElem?_getD, List.getElem?_append_right (Nat.le_refl _)]; simp
  have hlen : (vs ++ [l]).length = vs.length + 1 := by simp
  have hcase : ∀ j, j < (vs ++ [l]).length → (j < vs.length) ∨ j = vs.length := fun j hj => by rw [hlen] at hj; omega
  refine ⟨fun k hk => (h.rd k hk).keep f (hS _ (c.rl k hk).2) (fun b off len cap e => hS b (by rw [(h.rd k hk).ap b off len cap e]; exact c.rbl k hk)),
    fun k hk => (h.rf k hk).keep f (hS _ (c.ql k hk).2) (fun b off len cap e => hS b (by rw [(h.rf k hk).ap b off len cap e]; exact c.qbl k hk)),
    fun k hk => (f.cell (a := ⟨bx, k, none⟩) (by have := c.bl.2; show bx < _; omega) (hS _ c.bl.2)).trans (h.bxc k hk),
    by rw [hlen]; exact hown, ⟨updF xss vs.length xs, ⟨fun j hj => ?_, fun j j' b hj hj' hn e1 e2 => ?_, Fr.refl _ _⟩, fun j => ?_⟩, fun j b hj hb e => ?_, h.bel.trans (f.below h.bel.size (fun b hb => hS b (by omega))), Nat.le_trans hfr f.size⟩
  · rcases hcase j hj with q | rfl
    · rw [gl j q, updF_ne _ _ (by omega)]
      exact own_keepT (h1.own j q) (fun g hg2 => f.block g ((h1.own j q).lt g hg2).2 (fun e => h.tap j g q e hg2))
    · rw [gr, updF_at]
      exact own_keepT hl (fun g hg2 => f.block g (hl.lt g hg2).2 (fun e => hlt g e hg2))
  · rcases hcase j hj with q | rfl
    · rw [gl j q] at e1
      rcases hcase j' hj' with q' | rfl
      · rw [gl j' q'] at e2
        exact h1.ap j j' b q q' hn e1 e2
      · rw [gr] at e2
        exact hlr j b q e1 e2
    · rw [gr] at e1
      rcases hcase j' hj' with q' | rfl
      · rw [gl j' q'] at e2
        exact hlr j' b q' e2 e1
      · exact hn rfl
  · by_cases e : j = vs.length
    · subst e
      rw [updF_at, updF_at]
    · rw [updF_ne _ _ e, updF_ne _ _ e]
      exact h3 j
  · rcases hcase j hj with q | rfl
    · rw [gl j q] at e
      rcases hat with p | p
      · exact h.tap j b q (p.symm.trans hb) e
      · have := ((h1.own j q).lt b e).2
        rw [p] at hb
        simp at hb
        omega
    · rw [gr] at e
      rcases hat with p | p
      · exact hlt b (p.symm.trans hb) e
      · have := (hl.lt b e).2
        rw [p] at hb
        simp at hb
        omega
end
end Go.Proofs.Ytnfinplkeefdgaa
