/-
  The state of InternWalk.
-/
import Derived.Test.YthmcalapofjmfaaGone
import Derived.Test.YthmcalapofjmfaaRWalk
import Derived.Test.YthmcalapofjmfaaSame
import Derived.Test.YthmcalapofjmfaaItems
namespace Go.Proofs.Ythmcalapofjmfaa
open Go.RowKit Go.Maps
set_option linter.unusedVariables false

/-- Between the loops: the boxes, the index (holding rs), the document's row (holding ls). -/
structure TS (w : World) (tv : List Value) (q ab : Nat) (dd : Nat × Obj) (p : Nat) (rs ls : List ByteArray) (vr : Value) (X : World) : Prop where
  bel : Below w.heap.size w X
  tb : ∀ j v, tv[j]? = some v → X.cell? ⟨w.heap.size, j, none⟩ = some v
  rb : Bx X (w.heap.size + 1) (.bool false)
  xb : Bx X q (.pointer (some ⟨p, 0, none⟩))
  wb : Bx X ab (.pointer (some ⟨p, 0, none⟩))
  row : Rt X vr ls
  rlt : ∀ k, vr.ownBlock = some k → k < X.heap.size
  dk : X.heap[dd.1]? = some dd.2
  ix : ∃ b v, Ix X p b v rs ∧ ∀ x, Foot p b v x → w.heap.size + 1 < x ∧ x ≠ q ∧ x ≠ ab ∧ vr.ownBlock ≠ some x ∧ x ≠ dd.1
section
variable {w X Y : World} {tv : List Value} {q ab p : Nat} {dd : Nat × Obj} {rs ls : List ByteArray} {vr : Value}
theorem blk_lt {X : World} {k : Nat} {o : Obj} (h : X.heap[k]? = some o) : k < X.heap.size := (Array.getElem?_eq_some_iff.1 h).1
theorem tb_keep {S : Nat → Prop} {k : Nat} (h : ∀ j v, tv[j]? = some v → X.cell? ⟨k, j, none⟩ = some v) (f : Fr S X Y) (hn : ¬ S k) : ∀ j v, tv[j]? = some v → Y.cell? ⟨k, j, none⟩ = some v := fun j v hv =>
  (f.cell (a := ⟨k, j, none⟩) (World.block_lt_of_cell? _ _ (h j v hv)) hn).trans (h j v hv)
theorem TS.keep {S : Nat → Prop} (h : TS w tv q ab dd p rs ls vr X) (f : Fr S X Y) (h0 : ∀ x, x ≤ w.heap.size + 1 → ¬ S x) (hq : ¬ S q) (ha : ¬ S ab) (hd : ¬ S dd.1) (hr : ∀ k, vr.ownBlock = some k → ¬ S k) {b : Nat} {v' : Value} {rs' : List ByteArray} (hI : Ix Y p b v' rs') (hf : ∀ x, Foot p b v' x → w.heap.size + 1 < x ∧ x ≠ q ∧ x ≠ ab ∧ vr.ownBlock ≠ some x ∧ x ≠ dd.1) : TS w tv q ab dd p rs' ls vr Y :=
  ⟨h.bel.trans (f.below h.bel.size (fun k hk e => h0 k (by omega) e)), tb_keep h.tb f (h0 _ (by omega)), h.rb.keep f (h0 _ (by omega)), h.xb.keep f hq, h.wb.keep f ha,
    h.row.keep f.size (fun g hg => f.block g (h.rlt g hg) (hr g hg)), fun k hk => Nat.lt_of_lt_of_le (h.rlt k hk) f.size, (f.block _ (blk_lt h.dk) hd).trans h.dk, b, v', hI, hf⟩
theorem TS.below (h : TS w tv q ab dd p rs ls vr X) (f : Below X.heap.size X Y) : TS w tv q ab dd p rs ls vr Y := by
  obtain ⟨b, v, i1, i2⟩ := h.ix
  exact h.keep (S := fun _ => False) (Fr.of_below f) (fun _ _ e => e) (fun e => e) (fun e => e) (fun e => e) (fun _ _ e => e) (i1.below f) i2
theorem TS.istep (h : TS w tv q ab dd p rs ls vr X) {b : Nat} {v v' : Value} {rs' : List ByteArray} (i2 : ∀ x, Foot p b v x → w.heap.size + 1 < x ∧ x ≠ q ∧ x ≠ ab ∧ vr.ownBlock ≠ some x ∧ x ≠ dd.1) (hI : Ix Y p b v' rs') (s : IStep p b X v Y v') : TS w tv q ab dd p rs' ls vr Y := by
  refine h.keep s.fr (fun x hx e => by have := (i2 x e).1; omega) (fun e => (i2 q e).2.1 rfl) (fun e => (i2 ab e).2.2.1 rfl) (fun e => (i2 _ e).2.2.2.2 rfl) (fun k hk e => (i2 k e).2.2.2.1 hk) hI (fun x hx => ?_)
  rcases hx with e | e | e
  · exact i2 x (.inl e)
  · exact i2 x (.inr (.inl e))
  · rcases s.row with r | r
    · exact i2 x (.inr (.inr (r.symm.trans e)))
    · have h1 := r x e
      have h2 := h.rb.lt
      have h3 := h.xb.lt
      have h4 := h.wb.lt
      have h5 := blk_lt h.dk
      exact ⟨by omega, by omega, by omega, fun e2 => by have := h.rlt x e2; omega, by omega⟩
theorem TS.add (h : TS w tv q ab dd p rs ls vr X) (s : ByteArray) (hs : s.size ≤ maxLen) (hl : rs.length < 11999999999999) : Calls Try.prog 20 #[.pointer (some ⟨p, 0, none⟩), .string s] X fun e Y => e = .returned (.int .i64 ((num rs s : Nat) : Int)) ∧ TS w tv q ab dd p (ins rs s) ls vr Y := by
  obtain ⟨b, v, i1, i2⟩ := h.ix
  exact (add_any i1 s hs hl).mono fun e Y ⟨he, v', j1, j2⟩ => ⟨he, h.istep i2 j1 j2⟩
theorem TS.done (h : TS w tv q ab dd p rs ls vr X) (a : AcD) (hs : a.s.size ≤ maxLen) (hl : rs.length < 11999999999999) : Calls Try.prog 24 #[.pointer (some ⟨p, 0, none⟩), a.val] X fun e Y => e = .returned (.tuple #[]) ∧ TS w tv q ab dd p (acts rs a) ls vr Y := by
  obtain ⟨b, v, i1, i2⟩ := h.ix
  exact (done_any i1 a hs hl).mono fun e Y ⟨he, v', j1, j2⟩ => ⟨he, h.istep i2 j1 j2⟩
theorem TS.len (h : TS w tv q ab dd p rs ls vr X) : Calls Try.prog 23 #[.pointer (some ⟨p, 0, none⟩)] X fun e Y => e = .returned (.int .i64 (rs.length : Int)) ∧ Y = X := by
  obtain ⟨b, v, i1, i2⟩ := h.ix
  exact len_any i1
/-- Another row. -/
theorem TS.rowTo (h : TS w tv q ab dd p rs ls vr X) {u : Value} {l' : List ByteArray} (hR : Rt Y u l') (f : Below X.heap.size X Y) (ho : u.ownBlock = vr.ownBlock ∨ ∀ k, u.ownBlock = some k → X.heap.size ≤ k ∧ k < Y.heap.size) : TS w tv q ab dd p rs l' u Y := by
  have h1 := h.below f
  obtain ⟨b, v, i1, i2⟩ := h.ix
  refine ⟨h1.bel, h1.tb, h1.rb, h1.xb, h1.wb, hR, fun k hk => ?_, h1.dk, b, v, i1.below f, fun x hx => ⟨(i2 x hx).1, (i2 x hx).2.1, (i2 x hx).2.2.1, fun e => ?_, (i2 x hx).2.2.2.2⟩⟩
  · rcases ho with q | q
    · exact Nat.lt_of_lt_of_le (h.rlt k (q ▸ hk)) f.size
    · exact (q k hk).2
  · rcases ho with q | q
    · exact (i2 x hx).2.2.2.1 (q ▸ e)
    · have := (q x e).1; have := i1.foot x hx; omega
theorem TS.newAb (h : TS w tv q q dd p rs ls vr X) : TS w tv q X.heap.size dd p rs ls vr (X.alloc (.cells #[.pointer (some ⟨p, 0, none⟩)] 23)) := by
  have h1 := h.below ((Below.refl _ X).alloc (Nat.le_refl _) (.cells #[.pointer (some ⟨p, 0, none⟩)] 23))
  obtain ⟨b, v, i1, i2⟩ := h.ix
  exact ⟨h1.bel, h1.tb, h1.rb, h1.xb, Bx.new _ _ _, h1.row, h1.rlt, h1.dk, b, v, i1.below ((Below.refl _ X).alloc (Nat.le_refl _) _), fun x hx => ⟨(i2 x hx).1, (i2 x hx).2.1, (by have := i1.foot x hx; omega), (i2 x hx).2.2.2.1, (i2 x hx).2.2.2.2⟩⟩
end
end Go.Proofs.Ythmcalapofjmfaa
