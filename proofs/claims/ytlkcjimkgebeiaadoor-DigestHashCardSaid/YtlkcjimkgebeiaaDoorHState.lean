/-
  Two hashes, and what was written to each.
-/
import Derived.Test.YtlkcjimkgebeiaaDoorHKit
import Derived.Test.YtlkcjimkgebeiaaDoorSumLaw
namespace Go.Proofs.YtlkcjimkgebeiaaDoor
open Go.RowKit

def upd {α : Type} (f : Nat → α) (k : Nat) (x : α) : Nat → α := fun j => if j = k then x else f j
theorem upd_at {α : Type} (f : Nat → α) (k : Nat) (x : α) : upd f k x k = x := if_pos rfl
theorem upd_ne {α : Type} (f : Nat → α) {k j : Nat} (x : α) (h : j ≠ k) : upd f k x j = f j := if_neg h
theorem upd_self {α : Type} (f : Nat → α) (k : Nat) : upd f k (f k) = f := by
  funext j
  unfold upd
  split
  · rename_i h; rw [h]
  · rfl

/-- Where the things lie: the hashes at P, the rows' box at q. -/
structure HC (w W : World) (q : Nat) (P : Nat → Nat) : Prop where
  pl : ∀ k, k < 2 → w.heap.size ≤ P k ∧ P k < W.heap.size
  pne : P 0 ≠ P 1
  ql : w.heap.size ≤ q ∧ q < W.heap.size
  qne : ∀ k, k < 2 → q ≠ P k
  w0 : 0 < w.heap.size
theorem HC.other {w W : World} {q : Nat} {P : Nat → Nat} (c : HC w W q P) {j k : Nat} (hj : j < 2) (hk : k < 2) (h : j ≠ k) : P j ≠ P k := by
  have := c.pne
  have hj' : j = 0 ∨ j = 1 := by omega
  have hk' : k = 0 ∨ k = 1 := by omega
  rcases hj' with rfl | rfl <;> rcases hk' with rfl | rfl
  · exact absurd rfl h
  · exact this
  · exact fun e => this e.symm
  · exact absurd rfl h

/-- The hash at P k holds H k, the row V k is A k. -/
structure HS (w W : World) (q : Nat) (P : Nat → Nat) (H A : Nat → List Int) (V : Nat → Value) (wr : World) : Prop where
  hp : ∀ k, k < 2 → HP (P k) (H k) wr
  own : ∀ k, k < 2 → wr.ownsRow W.heap.size 5 1 (V k) (A k).length ((A k).map By)
  apart : ∀ j k g, j < 2 → k < 2 → j ≠ k → (V j).ownBlock = some g → (V k).ownBlock ≠ some g
  cell : ∀ k, k < 2 → wr.cell? ⟨q, k, none⟩ = some (V k)
  frz : ∀ k, k < 2 → wr.frozen? ⟨q, k, none⟩ = false
  bel : Below w.heap.size w wr
  fr : W.heap.size ≤ wr.heap.size

theorem HS.fr_of {w W : World} {q : Nat} {P : Nat → Nat} {H A : Nat → List Int} {V : Nat → Value} {wr w' : World} (h : HS w W q P H A V wr) (c : HC w W q P) {S : Nat → Prop} (f : Fr S wr w')
    (hP : ∀ k, k < 2 → ¬ S (P k)) (hq : ¬ S q) (hV : ∀ k g, k < 2 → (V k).ownBlock = some g → ¬ S g) (hw : ∀ b, b < w.heap.size → ¬ S b) : HS w W q P H A V w' := by
  have hfr := h.fr
  have hql := c.ql
  refine ⟨fun k hk => (h.hp k hk).keepB (f.block _ ?_ (hP k hk)), fun k hk => own_keepB (h.own k hk) (fun g hg => f.block g ((h.own k hk).lt g hg).2 (hV k g hk hg)), h.apart,
    fun k hk => (World.cell?_of_block (f.block q (by omega) hq)).trans (h.cell k hk), fun k hk => (World.frozen?_of_block (f.block q (by omega) hq)).trans (h.frz k hk), h.bel.trans (f.below h.bel.size hw), Nat.le_trans hfr f.size⟩
  have := (c.pl k hk).2
  omega
theorem HS.below {w W : World} {q : Nat} {P : Nat → Nat} {H A : Nat → List Int} {V : Nat → Value} {wr w' : World} (h : HS w W q P H A V wr) (c : HC w W q P) (f : Below wr.heap.size wr w') : HS w W q P H A V w' :=
  h.fr_of c (Fr.of_below (S := fun _ => False) f) (fun _ _ e => e) (fun e => e) (fun _ _ _ _ e => e) (fun _ _ e => e)
/-- Behind a call on the hash k. -/
theorem HS.hashed {w W : World} {q : Nat} {P : Nat → Nat} {H A : Nat → List Int} {V : Nat → Value} {wr w' : World} (h : HS w W q P H A V wr) (c : HC w W q P) {k : Nat} (hk : k < 2) {B : List Int} (h2 : HP (P k) B w') (f : Fr (fun b => b = P k) wr w') :
    HS w W q P (upd H k B) A V w' := by
  have hfr := h.fr
  have hql := c.ql
  have hpl := c.pl k hk
  refine ⟨fun j hj => ?_, fun j hj => own_keepB (h.own j hj) (fun g hg => f.block g ((h.own j hj).lt g hg).2 (by have := ((h.own j hj).lt g hg).1; omega)), h.apart,
    fun j hj => (World.cell?_of_block (f.block q (by omega) (c.qne k hk))).trans (h.cell j hj), fun j hj => (World.frozen?_of_block (f.block q (by omega) (c.qne k hk))).trans (h.frz j hj), h.bel.trans (f.below h.bel.size (fun b hb e => by omega)), Nat.le_trans hfr f.size⟩
  by_cases e : j = k
  · subst e
    rw [upd_at]
    exact h2
  · rw [upd_ne _ _ e]
    have hj2 := (c.pl j hj).2
    exact (h.hp j hj).keepB (f.block _ (by omega) (c.other hj hk e))
theorem HS.summed {w W : World} {q : Nat} {P : Nat → Nat} {H A : Nat → List Int} {V : Nat → Value} {wr w' : World} (h : HS w W q P H A V wr) (c : HC w W q P) {k : Nat} (hk : k < 2) (h2 : HP (P k) (H k) w') (f : Fr (fun b => b = P k) wr w') :
    HS w W q P H A V w' := by
  have := h.hashed c hk h2 f
  rwa [upd_self] at this
/-- Behind the append to the row k, and the store of what it gave. -/
theorem HS.appended {w W : World} {q : Nat} {P : Nat → Nat} {H A : Nat → List Int} {V : Nat → Value} {w2 w3 : World} (h : HS w W q P H A V w2) (c : HC w W q P) {k : Nat} (hk : k < 2) {B : List Int} {v' : Value}
    (own : w3.ownsRow W.heap.size 5 1 v' B.length (B.map By)) (hg : w2.grownBy w3 (V k).ownBlock) (hat : v'.ownBlock = (V k).ownBlock ∨ v'.ownBlock = some w2.heap.size) :
    HS w W q P H (upd A k B) (upd V k v') (w3.setCell ⟨q, k, none⟩ v') := by
  have hfr := h.fr
  have hql := c.ql
  have hrow : ∀ g, (V k).ownBlock = some g → W.heap.size ≤ g := fun g e => ((h.own k hk).lt g e).1
  have hblk : ∀ b, b < W.heap.size → w3.heap[b]? = w2.heap[b]? := fun b hb => hg.block b (by omega) (fun e => by have := hrow b e.symm; omega)
  have hsz := hg.size
  have hq3 : ∀ b, b ≠ q → (w3.setCell ⟨q, k, none⟩ v').heap[b]? = w3.heap[b]? := fun b hb => Below.heap_setCell _ _ _ _ (fun e => hb e)
  have hcell3 : ∀ j, j < 2 → w3.cell? ⟨q, j, none⟩ = some (V j) := fun j hj => (World.cell?_of_block (hblk q hql.2)).trans (h.cell j hj)
  have hfrz3 : ∀ j, j < 2 → w3.frozen? ⟨q, j, none⟩ = false := fun j hj => (World.frozen?_of_block (hblk q hql.2)).trans (h.frz j hj)
  refine ⟨fun j hj => ?_, fun j hj => ?_, fun i j g hi hj hij hig hjg => ?_, fun j hj => ?_, fun j hj => ?_, ?_, ?_⟩
  · have := c.pl j hj
    exact (h.hp j hj).keepB ((hq3 _ (fun e => c.qne j hj e.symm)).trans (hblk _ this.2))
  · by_cases e : j = k
    · subst e
      rw [upd_at, upd_at]
      exact own_keepB own (fun g hg2 => hq3 g (by have := (own.lt g hg2).1; omega))
    · rw [upd_ne _ _ e, upd_ne _ _ e]
      refine own_keepB (h.own j hj) (fun g hg2 => ?_)
      have hl := (h.own j hj).lt g hg2
      rw [hq3 g (by omega), hg.block g hl.2 (fun e2 => h.apart j k g hj hk e hg2 e2.symm)]
  · by_cases e : i = k
    · subst e
      rw [upd_at] at hig
      rw [upd_ne _ _ (fun e2 => hij e2.symm)] at hjg
      rcases hat with q1 | q1
      · exact h.apart i j g hi hj hij (q1.symm.trans hig) hjg
      · have := ((h.own j hj).lt g hjg).2
        rw [q1] at hig
        simp at hig
        omega
    · rw [upd_ne _ _ e] at hig
      by_cases e2 : j = k
      · subst e2
        rw [upd_at] at hjg
        rcases hat with q1 | q1
        · exact h.apart i j g hi hj hij hig (q1.symm.trans hjg)
        · have := ((h.own i hi).lt g hig).2
          rw [q1] at hjg
          simp at hjg
          omega
      · rw [upd_ne _ _ e2] at hjg
        exact h.apart i j g hi hj hij hig hjg
  · by_cases e : j = k
    · subst e
      rw [upd_at]
      exact World.cell?_setCell_same _ _ _ (hcell3 j hj)
    · rw [upd_ne _ _ e]
      rw [World.cell?_setCell_other _ _ _ _ (fun e2 => by simp at e2 <;> omega)]
      exact hcell3 j hj
  · rw [World.frozen?_setCell]
    exact hfrz3 j hj
  · have f3 : Below w.heap.size w w3 := ⟨hg.os.trans h.bel.os, hg.tape.trans h.bel.tape, hg.output.trans h.bel.output, Nat.le_trans h.bel.size hsz, fun b hb => (hblk b (by omega)).trans (h.bel.block b hb)⟩
    exact f3.setCell (p := ⟨q, k, none⟩) hql.1 _
  · have : (w3.setCell ⟨q, k, none⟩ v').heap.size = w3.heap.size := by simp [World.setCell]
    omega

/-- Ahead of the first call. -/
theorem hs_start {w w1 w2 : World} {P : Nat → Nat} (hb : Below w.heap.size w w2) (ha : HP (P 0) [] w2) (hbb : HP (P 1) [] w2) (hal : P 0 < w1.heap.size) (hpa : w.heap.size ≤ P 0) (hpb : w1.heap.size ≤ P 1) (h0 : 0 < w.heap.size) (hs : w.heap.size ≤ w1.heap.size) :
    HC w (w2.alloc (.cells #[.slice none 0 0, .slice none 0 0] 33)) w2.heap.size P ∧ HS w (w2.alloc (.cells #[.slice none 0 0, .slice none 0 0] 33)) w2.heap.size P (fun _ => []) (fun _ => []) (fun _ => .slice none 0 0) (w2.alloc (.cells #[.slice none 0 0, .slice none 0 0] 33)) := by
  have hz : (w2.alloc (.cells #[.slice none 0 0, .slice none 0 0] 33)).heap.size = w2.heap.size + 1 := by simp
  have hal2 := ha.lt
  have hbl := hbb.lt
  have hcase : ∀ k, k < 2 → k = 0 ∨ k = 1 := fun k hk => by omega
  have hsz := hb.size
  have hs1 := hs
  refine ⟨⟨fun k hk => ?_, by omega, ⟨hsz, by omega⟩, fun k hk => ?_, h0⟩, ⟨fun k hk => ?_, fun k hk => World.ownsRow_nil _ _ _ _, fun j k g _ _ _ hj => by simp [Value.ownBlock] at hj, fun k hk => ?_, fun k hk => ?_, hb.alloc hsz _, Nat.le_refl _⟩⟩
  · rcases hcase k hk with rfl | rfl <;> omega
  · rcases hcase k hk with rfl | rfl <;> omega
  · rcases hcase k hk with rfl | rfl
    · exact ha.keepB (Below.heap_alloc _ _ _ hal2)
    · exact hbb.keepB (Below.heap_alloc _ _ _ hbl)
  · rw [cell_of_row _ _ k _ 33 (0, 0) (heap_alloc_last w2 _)]
    rcases hcase k hk with rfl | rfl <;> rfl
  · unfold World.frozen?
    rw [heap_alloc_last w2 _]
    simp

/-- append of a piece onto a row of one's own, as one step. -/
theorem step_append_pc {w : World} {ops : Array Oper} {o : Oper} {a : Act} {K : Act → World → Prop} {Q : Exit → Act → World → Prop} {E : Prop} (hgd : o.guard = none) (s x : Operand)
    (ho : o.op = .call { callee := .builtin .append, args := #[s, x], argTypes := #[22, 22] })
    (base : Nat) (v vb : Value) (all bs : List Int) (hs : a.eval s = v) (hx : a.eval x = vb) (hown : w.ownsRow base 5 1 v all.length (all.map By)) (hR : PR w vb bs)
    (hl : all.length + bs.length ≤ 140737488355328) (hbase : base ≤ w.heap.size)
    (h : ∀ v' w', w'.ownsRow base 5 1 v' (all ++ bs).length ((all ++ bs).map By) → w.grownBy w' v.ownBlock → (v'.ownBlock = v.ownBlock ∨ v'.ownBlock = some w.heap.size) → K (a.put o.dst v') w') :
    if Region.wanted o (yielded ops a.tmps) = true then Oper.wp Tryd.prog o a w K Q else E := by
  rw [if_pos (by simp [Region.wanted, hgd])]
  obtain ⟨i0, hi0, hz0, hz1, hz2⟩ := info_parts Tryd.info5
  rcases hR with (⟨rfl, rfl⟩ | ⟨b, off, cap, rfl, h1, h2, h3, h4⟩) | ⟨ax, rfl, rfl⟩
  · have hrun := run_append_owned_none (P := Tryd.prog) (w := w) base 22 o.type 5 i0 1 Tryd.underlying22 hi0 v all.length (all.map By) hown
    unfold Oper.wp
    simp [execOp, ho, resolve, invoke, builtin, hs, hx, hrun, Result.andThen]
    exact h v w (by rw [List.append_nil]; exact hown) ⟨rfl, rfl, rfl, Nat.le_refl _, fun _ _ _ => rfl⟩ (.inl rfl)
  · obtain ⟨v', w', hr, k2, k3, k4, k5⟩ := run_append_own_at (P := Tryd.prog) w base 22 o.type 5 i0 (.int .u8 0) 1 1 Tryd.underlying22 hi0 hz0 hz1 hz2 rfl (by decide) v all.length (all.map By) hown ⟨b, off, none⟩ bs.length cap (bs.map By) (by simp) (by
        intro j u hj
        rw [List.getElem?_map, Option.map_eq_some_iff] at hj
        obtain ⟨y, hy, rfl⟩ := hj
        obtain ⟨hjl, rfl⟩ := List.getElem?_eq_some_iff.1 hy
        rw [addr_add, h4 j hjl]
        simp [By, List.getD, hjl]) (by
        intro u hu
        obtain ⟨y, _, rfl⟩ := List.mem_map.1 hu
        rfl) (by unfold maxLen; omega) (by omega) hbase
    unfold Oper.wp execOp
    simp only [ho, resolve, invoke, builtin, Sem.run_bind, Sem.run_pure, Result.andThen_ok, List.map_toArray, List.map_cons, List.map_nil, hs, hx, hr]
    exact h v' w' (by rw [List.length_append, List.map_append]; exact k2) k3 k5
  · obtain ⟨v', w', hr, k2, k3, k4, k5⟩ := run_append_own_at (P := Tryd.prog) w base 22 o.type 5 i0 (.int .u8 0) 1 1 Tryd.underlying22 hi0 hz0 hz1 hz2 rfl (by decide) v all.length (all.map By) hown ax 0 0 [] rfl (fun j u hj => by simp at hj) (fun u hu => by simp at hu) (by unfold maxLen; simp at hl; omega) (by simp at hl; omega) hbase
    unfold Oper.wp execOp
    simp only [ho, resolve, invoke, builtin, Sem.run_bind, Sem.run_pure, Result.andThen_ok, List.map_toArray, List.map_cons, List.map_nil, hs, hx, hr]
    rw [List.append_nil] at k2
    exact h v' w' (by rw [List.append_nil]; exact k2) k3 k5
end Go.Proofs.YtlkcjimkgebeiaaDoor
