/-
  Two indexes, the document's two rows, what was handed out and what is held against it.
-/
import Derived.Test.YthmcalapofjmfaaApart
import Derived.Test.YthmcalapofjmfaaCut
namespace Go.Proofs.Ythmcalapofjmfaa
open Go.RowKit Go.Maps
set_option linter.unusedVariables false

def updF {α : Type} (f : Nat → α) (k : Nat) (x : α) : Nat → α := fun j => if j = k then x else f j
theorem updF_at {α : Type} (f : Nat → α) (k : Nat) (x : α) : updF f k x k = x := if_pos rfl
theorem updF_ne {α : Type} (f : Nat → α) {k j : Nat} (x : α) (h : j ≠ k) : updF f k x j = f j := if_neg h
theorem updF_range {α : Type} (f : Nat → α) (m k : Nat) (x : α) (h : m ≤ k) : (List.range m).map (updF f k x) = (List.range m).map f := by
  apply List.map_congr_left
  intro j hj
  exact updF_ne _ _ (by have := List.mem_range.1 hj; omega)

/-- One call of a script. -/
structure OpD where
  on : Int
  kind : Int
  n : Int
  s : ByteArray
  lv : Value

/-- What there is: the two arrays, the indexes' blocks and rows, the document's rows, the rows of what was handed out and of what is held against it. -/
structure Dat where
  bx : Nat
  br : Nat
  P : Nat → Nat
  B : Nat → Nat
  V : Nat → Value
  A : Nat → Value
  O : Value
  T : Value
  n : Nat
  m : Nat
  R : Nat → Value
  Q : Nat → Value
  rs : Nat → List ByteArray
  dr : Nat → List ByteArray
  xss : Nat → List ByteArray
  gb : Option Nat
  op : OpD

/-- The blocks of all that. -/
def fam (d : Dat) (c k : Nat) : Option Nat :=
  match c with
  | 0 => if k = 0 then some d.bx else none
  | 1 => if k = 0 then some d.br else none
  | 2 => if k < 2 then some (d.P k) else none
  | 3 => if k < 2 then some (d.B k) else none
  | 4 => if k < 2 then (d.V k).ownBlock else none
  | 5 => if k < 2 then (d.A k).ownBlock else none
  | 6 => if k = 0 then d.O.ownBlock else none
  | 7 => if k = 0 then d.T.ownBlock else none
  | 8 => if k < d.n then (d.R k).ownBlock else none
  | 9 => if k < d.m then (d.Q k).ownBlock else none
  | 10 => if k = 0 then d.gb else none
  | _ => none

/-- No two lie in one block. -/
def Ap (f : Nat → Nat → Option Nat) : Prop := ∀ c k c' k' b, ¬ (c = c' ∧ k = k') → f c k = some b → f c' k' ≠ some b

structure SC (w : World) (d : Dat) (wr : World) : Prop where
  ix : ∀ k, k < 2 → Ix wr (d.P k) (d.B k) (d.V k) (d.rs k)
  ar : ∀ k, k < 2 → Rt wr (d.A k) (d.dr k)
  bxc : ∀ k, k < 2 → wr.cell? ⟨d.bx, k, none⟩ = some (.pointer (some ⟨d.P k, 0, none⟩))
  bxf : ∀ k, k < 2 → wr.frozen? ⟨d.bx, k, none⟩ = false
  brc : ∀ k, k < 2 → wr.cell? ⟨d.br, k, none⟩ = some (d.A k)
  brf : ∀ k, k < 2 → wr.frozen? ⟨d.br, k, none⟩ = false
  oo : wr.ownsRow 0 26 1 d.O d.n ((List.range d.n).map d.R)
  tt : wr.ownsRow 0 26 1 d.T d.m ((List.range d.m).map d.Q)
  rr : ∀ j, j < d.n → wr.ownsRow 0 9 1 (d.R j) (d.xss j).length ((d.xss j).map Value.string)
  qq : ∀ j, j < d.m → Rt wr (d.Q j) (d.xss j)
  xl : ∀ j, (d.xss j).length ≤ 11999999999900
  gc : ∀ x, d.gb = some x → wr.cell? ⟨x, 0, none⟩ = some (.int .i64 d.op.on) ∧ wr.cell? ⟨x, 1, none⟩ = some (.int .i64 d.op.kind) ∧ wr.cell? ⟨x, 2, none⟩ = some (.int .i64 d.op.n) ∧ wr.cell? ⟨x, 3, none⟩ = some (.string d.op.s) ∧ wr.cell? ⟨x, 4, none⟩ = some d.op.lv
  ap : Ap (fam d)
  lo : ∀ c k b, fam d c k = some b → w.heap.size ≤ b
  hi : ∀ c k b, fam d c k = some b → b < wr.heap.size
  bel : Below w.heap.size w wr

section
variable {w wr w' : World} {d : Dat}

theorem f0 : fam d 0 0 = some d.bx := rfl
theorem f1 : fam d 1 0 = some d.br := rfl
theorem f2 {k : Nat} (h : k < 2) : fam d 2 k = some (d.P k) := if_pos h
theorem f3 {k : Nat} (h : k < 2) : fam d 3 k = some (d.B k) := if_pos h
theorem f4 {k : Nat} (h : k < 2) : fam d 4 k = (d.V k).ownBlock := if_pos h
theorem f5 {k : Nat} (h : k < 2) : fam d 5 k = (d.A k).ownBlock := if_pos h
theorem f6 : fam d 6 0 = d.O.ownBlock := rfl
theorem f7 : fam d 7 0 = d.T.ownBlock := rfl
theorem f8 {k : Nat} (h : k < d.n) : fam d 8 k = (d.R k).ownBlock := if_pos h
theorem f9 {k : Nat} (h : k < d.m) : fam d 9 k = (d.Q k).ownBlock := if_pos h
theorem f10 : fam d 10 0 = d.gb := rfl

theorem Rt.keepB {w w' : World} {v : Value} {rs : List ByteArray} (h : Rt w v rs) (hs : w.heap.size ≤ w'.heap.size) (hb : ∀ g, v.ownBlock = some g → w'.heap[g]? = w.heap[g]?) : Rt w' v rs := h.keep hs hb

/-- All is as it was where the blocks are as they were. -/
theorem Ix.keepB {w w' : World} {p b : Nat} {v : Value} {rs : List ByteArray} (h : Ix w p b v rs) (hb : ∀ k, Foot p b v k → w'.heap[k]? = w.heap[k]?) : Ix w' p b v rs :=
  ⟨(World.cell?_of_block (a := ⟨p, 0, none⟩) (hb p (.inl rfl))).trans h.c0, (World.cell?_of_block (a := ⟨p, 1, none⟩) (hb p (.inl rfl))).trans h.c1, (World.frozen?_of_block (a := ⟨p, 0, none⟩) (hb p (.inl rfl))).trans h.f0,
    own_keep h.own (fun g hg => hb g (.inr (.inr hg))), h.mp.keep (hb b (.inr (.inl rfl))), h.pb, h.vp, h.vb, h.nd, h.ok⟩

/-- What becomes of the blocks where some of them are new ones or written. -/
theorem SC.change (h : SC w d wr) (d' : Dat) (X : Nat → Nat → Prop) {S : Nat → Prop} (f : Fr S wr w') (hS : ∀ b, S b → ∃ c k, X c k ∧ fam d c k = some b)
    (hsame : ∀ c k, ¬ X c k → fam d' c k = fam d c k) (hnew : ∀ c k b, X c k → fam d' c k = some b → fam d c k = some b ∨ (wr.heap.size ≤ b ∧ b < w'.heap.size))
    (hfr : ∀ c k c' k' b, X c k → X c' k' → ¬ (c = c' ∧ k = k') → fam d' c k = some b → fam d' c' k' = some b → b < wr.heap.size) :
    Ap (fam d') ∧ (∀ c k b, fam d' c k = some b → w.heap.size ≤ b) ∧ (∀ c k b, fam d' c k = some b → b < w'.heap.size) ∧ Below w.heap.size w w' ∧ (∀ c k b, ¬ X c k → fam d c k = some b → w'.heap[b]? = wr.heap[b]?) := by
  have hz := f.size
  have hwz := h.bel.size
  have old : ∀ c k b, fam d' c k = some b → b < wr.heap.size → fam d c k = some b := fun c k b e hb => by
    by_cases x : X c k
    · rcases hnew c k b x e with q | q
      · exact q
      · omega
    · rw [← hsame c k x]; exact e
  refine ⟨fun c k c' k' b hne e1 e2 => ?_, fun c k b e => ?_, fun c k b e => ?_, h.bel.trans (f.below hwz (fun b hb q => ?_)), fun c k b hx e => f.block b (h.hi c k b e) (fun q => ?_)⟩
  · by_cases hb : b < wr.heap.size
    · exact h.ap c k c' k' b hne (old c k b e1 hb) (old c' k' b e2 hb)
    · by_cases x1 : X c k
      · by_cases x2 : X c' k'
        · exact hb (hfr c k c' k' b x1 x2 hne e1 e2)
        · rw [hsame c' k' x2] at e2
          exact hb (h.hi c' k' b e2)
      · rw [hsame c k x1] at e1
        exact hb (h.hi c k b e1)
  · by_cases hb : b < wr.heap.size
    · exact h.lo c k b (old c k b e hb)
    · omega
  · by_cases x : X c k
    · rcases hnew c k b x e with q | q
      · have := h.hi c k b q; omega
      · exact q.2
    · rw [hsame c k x] at e
      have := h.hi c k b e
      omega
  · obtain ⟨c, k, _, e⟩ := hS b q
    have := h.lo c k b e
    omega
  · obtain ⟨c', k', x, e'⟩ := hS b q
    exact h.ap c k c' k' b (fun hh => hx (by rw [hh.1, hh.2]; exact x)) e e'

/-- What stays where the blocks of the tags outside X are as they were: one lemma a part. -/
theorem SC.kIx {k : Nat} (h : SC w d wr) (hb : ∀ b, (∃ c, (c = 2 ∨ c = 3 ∨ c = 4) ∧ fam d c k = some b) → w'.heap[b]? = wr.heap[b]?) (hk : k < 2) : Ix w' (d.P k) (d.B k) (d.V k) (d.rs k) :=
  (h.ix k hk).keepB (fun b hf => hb b (by
    rcases hf with e | e | e
    · exact ⟨2, .inl rfl, by rw [f2 hk, e]⟩
    · exact ⟨3, .inr (.inl rfl), by rw [f3 hk, e]⟩
    · exact ⟨4, .inr (.inr rfl), by rw [f4 hk]; exact e⟩))
theorem SC.kAr {k : Nat} (h : SC w d wr) (hs : wr.heap.size ≤ w'.heap.size) (hk : k < 2) (hb : ∀ b, fam d 5 k = some b → w'.heap[b]? = wr.heap[b]?) : Rt w' (d.A k) (d.dr k) :=
  (h.ar k hk).keep hs (fun g hg => hb g (by rw [f5 hk]; exact hg))
theorem SC.kBx (h : SC w d wr) (hb : w'.heap[d.bx]? = wr.heap[d.bx]?) {k : Nat} (hk : k < 2) : w'.cell? ⟨d.bx, k, none⟩ = some (.pointer (some ⟨d.P k, 0, none⟩)) ∧ w'.frozen? ⟨d.bx, k, none⟩ = false :=
  ⟨(World.cell?_of_block (a := ⟨d.bx, k, none⟩) hb).trans (h.bxc k hk), (World.frozen?_of_block (a := ⟨d.bx, k, none⟩) hb).trans (h.bxf k hk)⟩
theorem SC.kBr (h : SC w d wr) (hb : w'.heap[d.br]? = wr.heap[d.br]?) {k : Nat} (hk : k < 2) : w'.cell? ⟨d.br, k, none⟩ = some (d.A k) ∧ w'.frozen? ⟨d.br, k, none⟩ = false :=
  ⟨(World.cell?_of_block (a := ⟨d.br, k, none⟩) hb).trans (h.brc k hk), (World.frozen?_of_block (a := ⟨d.br, k, none⟩) hb).trans (h.brf k hk)⟩
theorem SC.kO (h : SC w d wr) (hb : ∀ b, fam d 6 0 = some b → w'.heap[b]? = wr.heap[b]?) : w'.ownsRow 0 26 1 d.O d.n ((List.range d.n).map d.R) := own_keep h.oo (fun g hg => hb g hg)
theorem SC.kT (h : SC w d wr) (hb : ∀ b, fam d 7 0 = some b → w'.heap[b]? = wr.heap[b]?) : w'.ownsRow 0 26 1 d.T d.m ((List.range d.m).map d.Q) := own_keep h.tt (fun g hg => hb g hg)
theorem SC.kR (h : SC w d wr) {j : Nat} (hj : j < d.n) (hb : ∀ b, fam d 8 j = some b → w'.heap[b]? = wr.heap[b]?) : w'.ownsRow 0 9 1 (d.R j) (d.xss j).length ((d.xss j).map Value.string) := own_keep (h.rr j hj) (fun g hg => hb g (by rw [f8 hj]; exact hg))
theorem SC.kQ (h : SC w d wr) (hs : wr.heap.size ≤ w'.heap.size) {j : Nat} (hj : j < d.m) (hb : ∀ b, fam d 9 j = some b → w'.heap[b]? = wr.heap[b]?) : Rt w' (d.Q j) (d.xss j) := (h.qq j hj).keep hs (fun g hg => hb g (by rw [f9 hj]; exact hg))
theorem SC.kG (h : SC w d wr) (hb : ∀ b, fam d 10 0 = some b → w'.heap[b]? = wr.heap[b]?) : ∀ x, d.gb = some x → w'.cell? ⟨x, 0, none⟩ = some (.int .i64 d.op.on) ∧ w'.cell? ⟨x, 1, none⟩ = some (.int .i64 d.op.kind) ∧ w'.cell? ⟨x, 2, none⟩ = some (.int .i64 d.op.n) ∧ w'.cell? ⟨x, 3, none⟩ = some (.string d.op.s) ∧ w'.cell? ⟨x, 4, none⟩ = some d.op.lv := fun x hx => by
  have e := hb x hx
  obtain ⟨h1, h2, h3, h4, h5⟩ := h.gc x hx
  exact ⟨(World.cell?_of_block (a := ⟨x, 0, none⟩) e).trans h1, (World.cell?_of_block (a := ⟨x, 1, none⟩) e).trans h2, (World.cell?_of_block (a := ⟨x, 2, none⟩) e).trans h3, (World.cell?_of_block (a := ⟨x, 3, none⟩) e).trans h4, (World.cell?_of_block (a := ⟨x, 4, none⟩) e).trans h5⟩

/-- Nothing of all this is touched. -/
theorem SC.keep (h : SC w d wr) {S : Nat → Prop} (f : Fr S wr w') (hF : ∀ c k b, fam d c k = some b → ¬ S b) (hw : ∀ b, b < w.heap.size → ¬ S b) : SC w d w' := by
  have hb : ∀ c k b, fam d c k = some b → w'.heap[b]? = wr.heap[b]? := fun c k b e => f.block b (h.hi c k b e) (hF c k b e)
  exact ⟨fun k hk => h.kIx (fun b ⟨c, _, e⟩ => hb c k b e) hk, fun k hk => h.kAr f.size hk (hb 5 k), fun k hk => (h.kBx (hb 0 0 _ f0) hk).1, fun k hk => (h.kBx (hb 0 0 _ f0) hk).2, fun k hk => (h.kBr (hb 1 0 _ f1) hk).1, fun k hk => (h.kBr (hb 1 0 _ f1) hk).2,
    h.kO (hb 6 0), h.kT (hb 7 0), fun j hj => h.kR hj (hb 8 j), fun j hj => h.kQ f.size hj (hb 9 j), h.xl, h.kG (hb 10 0), h.ap, h.lo, fun c k b e => Nat.lt_of_lt_of_le (h.hi c k b e) f.size, h.bel.trans (f.below h.bel.size hw)⟩
theorem SC.below (h : SC w d wr) (f : Below wr.heap.size wr w') : SC w d w' := h.keep (Fr.of_below (S := fun _ => False) f) (fun _ _ _ _ e => e) (fun _ _ e => e)
theorem SC.drewN (h : SC w d wr) (k : Nat) : SC w d (wr.drewN k) := h.keep (Fr.drewN (S := fun _ => False) k) (fun _ _ _ _ e => e) (fun _ _ e => e)
theorem SC.drew (h : SC w d wr) : SC w d wr.drew := h.below ((Below.refl _ _).drew)
theorem SC.alloc (h : SC w d wr) (o : Obj) : SC w d (wr.alloc o) := h.below ((Below.refl _ _).alloc (Nat.le_refl _) o)

/-- The call that is taken lies in a box of its own. -/
theorem SC.taken (h : SC w d wr) (g : OpD) : SC w { d with gb := some wr.heap.size, op := g } (wr.alloc (.cells #[.int .i64 g.on, .int .i64 g.kind, .int .i64 g.n, .string g.s, g.lv] 30)) := by
  have f : Fr (fun _ => False) wr (wr.alloc (.cells #[.int .i64 g.on, .int .i64 g.kind, .int .i64 g.n, .string g.s, g.lv] 30)) := (Fr.refl _ _).alloc _
  have hz : (wr.alloc (.cells #[.int .i64 g.on, .int .i64 g.kind, .int .i64 g.n, .string g.s, g.lv] 30)).heap.size = wr.heap.size + 1 := by simp
  obtain ⟨c1, c2, c3, c4, c5⟩ := h.change { d with gb := some wr.heap.size, op := g } (fun c k => c = 10 ∧ k = 0) f (fun b e => e.elim) (fun c k hx => by
      unfold fam
      split <;> try rfl
      by_cases e : k = 0
      · exact absurd ⟨rfl, e⟩ hx
      · rw [if_neg e, if_neg e]) (fun c k b hx e => by
      obtain ⟨rfl, rfl⟩ := hx
      have e2 : some wr.heap.size = some b := e
      cases e2
      right; omega) (fun c k c' k' b hx hx' hne => absurd ⟨hx.1.trans hx'.1.symm, hx.2.trans hx'.2.symm⟩ hne)
  have h1 := h.alloc (.cells #[.int .i64 g.on, .int .i64 g.kind, .int .i64 g.n, .string g.s, g.lv] 30)
  have hg := heap_alloc_new wr (.cells #[.int .i64 g.on, .int .i64 g.kind, .int .i64 g.n, .string g.s, g.lv] 30)
  refine ⟨h1.ix, h1.ar, h1.bxc, h1.bxf, h1.brc, h1.brf, h1.oo, h1.tt, h1.rr, h1.qq, h1.xl, fun x hx => ?_, c1, c2, c3, c4⟩
  cases hx
  refine ⟨?_, ?_, ?_, ?_, ?_⟩ <;> (simp only [World.cell?, hg]; rfl)

/-- Behind a call of the index k. -/
theorem SC.called (h : SC w d wr) {k : Nat} (hk : k < 2) {v' : Value} {rs' : List ByteArray} (h2 : Ix w' (d.P k) (d.B k) v' rs') (s : IStep (d.P k) (d.B k) wr (d.V k) w' v') :
    SC w { d with V := updF d.V k v', rs := updF d.rs k rs' } w' := by
  obtain ⟨c1, c2, c3, c4, c5⟩ := h.change { d with V := updF d.V k v', rs := updF d.rs k rs' } (fun c j => j = k ∧ (c = 2 ∨ c = 3 ∨ c = 4)) s.fr (fun b hf => by
      rcases hf with e | e | e
      · exact ⟨2, k, ⟨rfl, .inl rfl⟩, by rw [f2 hk, e]⟩
      · exact ⟨3, k, ⟨rfl, .inr (.inl rfl)⟩, by rw [f3 hk, e]⟩
      · exact ⟨4, k, ⟨rfl, .inr (.inr rfl)⟩, by rw [f4 hk]; exact e⟩) (fun c j hx => by
      unfold fam
      split <;> try rfl
      by_cases e : j = k
      · exact absurd ⟨e, .inr (.inr rfl)⟩ hx
      · simp only [updF_ne _ _ e]) (fun c j b hx e => by
      obtain ⟨rfl, rfl | rfl | rfl⟩ := hx
      · exact .inl e
      · exact .inl e
      · rw [f4 hk] at e ⊢
        have e2 : v'.ownBlock = some b := by rw [← e]; show _ = (updF d.V j v' j).ownBlock; rw [updF_at]
        rcases s.row with q | q
        · exact .inl (q ▸ e2)
        · exact .inr ⟨q b e2, h2.vlt b e2⟩) (fun c j c' j' b hx hx' hne e e' => by
      obtain ⟨rfl, hc⟩ := hx
      obtain ⟨rfl, hc'⟩ := hx'
      rcases hc with rfl | rfl | rfl
      · exact h.hi 2 _ b e
      · exact h.hi 3 _ b e
      · rcases hc' with rfl | rfl | rfl
        · exact h.hi 2 _ b e'
        · exact h.hi 3 _ b e'
        · exact absurd ⟨rfl, rfl⟩ hne)
  have hs := s.fr.size
  have oth : ∀ c j, ¬ (j = k ∧ (c = 2 ∨ c = 3 ∨ c = 4)) → ∀ b, fam d c j = some b → w'.heap[b]? = wr.heap[b]? := fun c j hx b e => c5 c j b hx e
  refine ⟨fun j hj => ?_, fun j hj => h.kAr hs hj (oth 5 j (by simp)), fun j hj => (h.kBx (oth 0 0 (by simp) _ f0) hj).1, fun j hj => (h.kBx (oth 0 0 (by simp) _ f0) hj).2, fun j hj => (h.kBr (oth 1 0 (by simp) _ f1) hj).1, fun j hj => (h.kBr (oth 1 0 (by simp) _ f1) hj).2,
    h.kO (oth 6 0 (by simp)), h.kT (oth 7 0 (by simp)), fun j hj => h.kR hj (oth 8 j (by simp)), fun j hj => h.kQ hs hj (oth 9 j (by simp)), h.xl, h.kG (oth 10 0 (by simp)), c1, c2, c3, c4⟩
  show Ix w' (d.P j) (d.B j) (updF d.V k v' j) (updF d.rs k rs' j)
  by_cases e : j = k
  · subst e
    rw [updF_at, updF_at]
    exact h2
  · rw [updF_ne _ _ e, updF_ne _ _ e]
    exact h.kIx (fun b ⟨c, _, q⟩ => oth c j (fun hh => e hh.1) b q) hj
end
end Go.Proofs.Ythmcalapofjmfaa
