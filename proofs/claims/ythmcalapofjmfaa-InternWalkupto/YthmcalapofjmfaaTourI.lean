/-
  InternWalk: a walk's state.
-/
import Derived.Test.YthmcalapofjmfaaTour
import Derived.Test.YthmcalapofjmfaaRng2
namespace Go.Proofs.Ythmcalapofjmfaa
open Go.RowKit Go.Maps
set_option linter.unusedVariables false

theorem Ra.below {w w' : World} {v : Value} {ac : List AcD} (h : Ra w v ac) (f : Below w.heap.size w w') : Ra w' v ac := by
  obtain ⟨a, cap, rfl, h1, h2⟩ := h
  refine ⟨a, cap, rfl, h1, fun i hi => ?_⟩
  obtain ⟨b, off, rfl, hb, k1, k2, k3, k4⟩ := h2 i hi
  exact ⟨b, off, rfl, Nat.lt_of_lt_of_le hb f.size, (f.cell (p := ⟨b, off + i * 3, none⟩) hb).trans k1, (f.cell (p := ⟨b, off + i * 3 + 1, none⟩) hb).trans k2, (f.cell (p := ⟨b, off + i * 3 + 2, none⟩) hb).trans k3, k4⟩
theorem pcs_length (rw : Nat → List ByteArray) : ∀ m, (pcs rw m).length = m * 2
  | 0 => rfl
  | m + 1 => by unfold pcs; rw [List.length_append, pcs_length rw m]; simp; omega
theorem pcs_at (rw : Nat → List ByteArray) : ∀ m k, k < m → (pcs rw m)[k * 2]? = some (.int .i64 (k : Int)) ∧ (pcs rw m)[k * 2 + 1]? = some (.string (tx (rw k) k))
  | m + 1, k, h => by
    have hl := pcs_length rw m
    unfold pcs
    by_cases e : k < m
    · rw [List.getElem?_append_left (by omega), List.getElem?_append_left (by omega)]
      exact pcs_at rw m k e
    · obtain rfl : k = m := by omega
      rw [List.getElem?_append_right (by omega), List.getElem?_append_right (by omega), hl]
      simp

/-- What stands still during a walk. -/
structure LC (w wq : World) (tv : List Value) (q ab : Nat) (dd : Nat × Obj) (p b : Nat) (vq : Value) (wb nb : Nat) (u g vr : Value) (R : List ByteArray) (I : List AcD) (stop : Int) (m : Nat) : Prop where
  ts : TS w tv q ab dd p R R vr wq
  ix : Ix wq p b vq R
  ft : ∀ x, Foot p b vq x → w.heap.size + 1 < x ∧ x ≠ q ∧ x ≠ ab ∧ x ≠ wb ∧ x ≠ nb ∧ u.ownBlock ≠ some x ∧ g.ownBlock ≠ some x ∧ x ≠ dd.1
  wbx : Bx wq wb g
  got : wq.ownsRow 0 60 2 g m (pcs (rwk R I) m)
  nx : Rt wq u (rwk R I m)
  nlt : ∀ k, u.ownBlock = some k → k < wq.heap.size
  nbx : Bx wq nb (.int .i64 0)
  nne : w.heap.size + 1 < nb ∧ nb ≠ q ∧ nb ≠ ab ∧ nb ≠ wb ∧ u.ownBlock ≠ some nb ∧ g.ownBlock ≠ some nb
  over : Over (rwk R I) stop m
  dne : dd.1 ≠ nb

/-- Behind k rounds. -/
structure LJ (wq : World) (p b : Nat) (vq : Value) (nb : Nat) (R : List ByteArray) (I : List AcD) (m k : Nat) (X : World) : Prop where
  ix : ∃ v', Ix X p b v' (rwk R I k) ∧ (v'.ownBlock = vq.ownBlock ∨ ∀ j, v'.ownBlock = some j → wq.heap.size + 2 ≤ j)
  fr : Fr (fun x => Foot p b vq x ∨ x = nb) wq X
  nbx : Bx X nb (.int .i64 (k : Int))
  le : k ≤ m
section
variable {w wq X Y : World} {tv : List Value} {q ab p b wb nb m k : Nat} {dd : Nat × Obj} {vq u g vr : Value} {R : List ByteArray} {I : List AcD} {stop : Int}
theorem LC.feet (c : LC w wq tv q ab dd p b vq wb nb u g vr R I stop m) : ∀ x, Foot p b vq x → x < wq.heap.size := c.ix.foot
theorem LC.start (c : LC w wq tv q ab dd p b vq wb nb u g vr R I stop m) : LJ wq p b vq nb R I m 0 wq := ⟨⟨vq, c.ix, .inl rfl⟩, Fr.refl _ _, c.nbx, Nat.zero_le _⟩
theorem LJ.now (c : LC w wq tv q ab dd p b vq wb nb u g vr R I stop m) {v' : Value} (hv : v'.ownBlock = vq.ownBlock ∨ ∀ j, v'.ownBlock = some j → wq.heap.size + 2 ≤ j) : ∀ x, Foot p b v' x → Foot p b vq x ∨ wq.heap.size + 2 ≤ x := by
  rintro x (e | e | e)
  · exact .inl (.inl e)
  · exact .inl (.inr (.inl e))
  · rcases hv with r | r
    · exact .inl (.inr (.inr (r.symm.trans e)))
    · exact .inr (r x e)
theorem LJ.keep (c : LC w wq tv q ab dd p b vq wb nb u g vr R I stop m) (h : LJ wq p b vq nb R I m k X) (f : Fr (two2 wq.heap.size) X Y) : LJ wq p b vq nb R I m k Y := by
  obtain ⟨v', i1, i2⟩ := h.ix
  have hs := h.fr.size
  refine ⟨⟨v', i1.keep f (fun x hx e => ?_), i2⟩, ⟨f.os.trans h.fr.os, f.tape.trans h.fr.tape, f.output.trans h.fr.output, Nat.le_trans hs f.size, fun x hx hn => (f.block x (by omega) (by unfold two2; omega)).trans (h.fr.block x hx hn)⟩, h.nbx.keep f (by have := c.nbx.lt; unfold two2; omega), h.le⟩
  rcases LJ.now c i2 x hx with r | r
  · have := c.feet x r; unfold two2 at e; omega
  · unfold two2 at e; omega
/-- A step of the index, or none. -/
theorem LJ.turn (c : LC w wq tv q ab dd p b vq wb nb u g vr R I stop m) (h : LJ wq p b vq nb R I m k X) (hD : wq.heap.size + 1 < X.heap.size) {v1 v' : Value} {rs : List ByteArray} (hv1 : v1.ownBlock = vq.ownBlock ∨ ∀ j, v1.ownBlock = some j → wq.heap.size + 2 ≤ j) (hI : Ix Y p b v' rs) (s : IStep p b X v1 Y v') :
    (v'.ownBlock = vq.ownBlock ∨ ∀ j, v'.ownBlock = some j → wq.heap.size + 2 ≤ j) ∧ Fr (fun x => Foot p b vq x ∨ x = nb) wq Y ∧ Bx Y nb (.int .i64 (k : Int)) ∧ Stay wq.heap.size X Y := by
  have hs := h.fr.size
  have nf : ∀ x, x < wq.heap.size + 2 → ¬ Foot p b vq x → ¬ Foot p b v1 x := fun x hx hn e => by
    rcases LJ.now c hv1 x e with r | r
    · exact hn r
    · omega
  have nD : ∀ x, wq.heap.size ≤ x → ¬ Foot p b vq x := fun x hx e => by have := c.feet x e; omega
  refine ⟨?_, ⟨s.fr.os.trans h.fr.os, s.fr.tape.trans h.fr.tape, s.fr.output.trans h.fr.output, Nat.le_trans hs s.fr.size, fun x hx hn => (s.fr.block x (by omega) (nf x (by omega) (fun e => hn (.inl e)))).trans (h.fr.block x hx hn)⟩, h.nbx.keep s.fr (nf nb (by have := c.nbx.lt; omega) (fun e => (c.ft nb e).2.2.2.2.1 rfl)), s.fr.block _ (by omega) (nf _ (by omega) (nD _ (Nat.le_refl _))), s.fr.block _ hD (nf _ (by omega) (nD _ (by omega)))⟩
  rcases s.row with r | r
  · rw [r]; exact hv1
  · exact .inr (fun j hj => by have := r j hj; omega)
theorem LJ.cell (c : LC w wq tv q ab dd p b vq wb nb u g vr R I stop m) (h : LJ wq p b vq nb R I m k X) {x o : Nat} (hx : x < wq.heap.size) (hn : ¬ Foot p b vq x) (hb : x ≠ nb) : X.cell? ⟨x, o, none⟩ = wq.cell? ⟨x, o, none⟩ :=
  h.fr.cell (a := ⟨x, o, none⟩) hx (fun e => e.elim hn hb)
theorem LJ.block (c : LC w wq tv q ab dd p b vq wb nb u g vr R I stop m) (h : LJ wq p b vq nb R I m k X) {x : Nat} (hx : x < wq.heap.size) (hn : ¬ Foot p b vq x) (hb : x ≠ nb) : X.heap[x]? = wq.heap[x]? :=
  h.fr.block x hx (fun e => e.elim hn hb)
/-- Between the loops again. -/
theorem LJ.ts (c : LC w wq tv q ab dd p b vq wb nb u g vr R I stop m) (h : LJ wq p b vq nb R I m m X) : TS w tv q ab dd p (rwk R I m) (rwk R I m) u X := by
  obtain ⟨v', i1, i2⟩ := h.ix
  have n0 : ∀ x, x ≤ w.heap.size + 1 → ¬ (Foot p b vq x ∨ x = nb) := fun x hx e => e.elim (fun e => by have := (c.ft x e).1; omega) (fun e => by have := c.nne.1; omega)
  have nq : ¬ (Foot p b vq q ∨ q = nb) := fun e => e.elim (fun e => (c.ft q e).2.1 rfl) (fun e => c.nne.2.1 e.symm)
  have na : ¬ (Foot p b vq ab ∨ ab = nb) := fun e => e.elim (fun e => (c.ft ab e).2.2.1 rfl) (fun e => c.nne.2.2.1 e.symm)
  have nu : ∀ k, u.ownBlock = some k → ¬ (Foot p b vq k ∨ k = nb) := fun k hk e => e.elim (fun e => (c.ft k e).2.2.2.2.2.1 hk) (fun e => c.nne.2.2.2.2.1 (e ▸ hk))
  have lt := c.ts.rb.lt
  have lq := c.ts.xb.lt
  have la := c.ts.wb.lt
  refine ⟨c.ts.bel.trans (h.fr.below c.ts.bel.size (fun x hx e => n0 x (by omega) e)), tb_keep c.ts.tb h.fr (n0 _ (by omega)), c.ts.rb.keep h.fr (n0 _ (by omega)), c.ts.xb.keep h.fr nq, c.ts.wb.keep h.fr na, c.nx.keep h.fr.size (fun x hx => h.fr.block x (c.nlt x hx) (nu x hx)), fun k hk => Nat.lt_of_lt_of_le (c.nlt k hk) h.fr.size, (h.fr.block _ (blk_lt c.ts.dk) (fun e => e.elim (fun e => (c.ft _ e).2.2.2.2.2.2.2 rfl) (fun e => c.dne e))).trans c.ts.dk, b, v', i1, fun x hx => ?_⟩
  rcases LJ.now c i2 x hx with r | r
  · have := c.ft x r
    exact ⟨this.1, this.2.1, this.2.2.1, this.2.2.2.2.2.1, this.2.2.2.2.2.2.2⟩
  · have ld := blk_lt c.ts.dk
    exact ⟨by omega, by omega, by omega, fun e => by have := c.nlt x e; omega, by omega⟩
/-- Between the loops again, holding on to the walk's own mark. -/
theorem LJ.ts2 (c : LC w wq tv q ab dd p b vq wb nb u g vr R I stop m) (h : LJ wq p b vq nb R I m m X) {o : Obj} (ho : X.heap[wq.heap.size]? = some o) : TS w tv q ab (wq.heap.size, o) p (rwk R I m) (rwk R I m) u X := by
  have t := LJ.ts c h
  obtain ⟨v', i1, i2⟩ := h.ix
  have ld := blk_lt c.ts.dk
  have lt := c.ts.rb.lt
  have lq := c.ts.xb.lt
  have la := c.ts.wb.lt
  refine ⟨t.bel, t.tb, t.rb, t.xb, t.wb, t.row, t.rlt, ho, b, v', i1, fun x hx => ?_⟩
  rcases LJ.now c i2 x hx with r | r
  · have := c.ft x r
    have hl := c.feet x r
    exact ⟨this.1, this.2.1, this.2.2.1, this.2.2.2.2.2.1, by show x ≠ wq.heap.size; omega⟩
  · exact ⟨by omega, by omega, by omega, fun e => by have := c.nlt x e; omega, by show x ≠ wq.heap.size; omega⟩
/-- A round comes: there is a pair for it. -/
theorem LC.lt (c : LC w wq tv q ab dd p b vq wb nb u g vr R I stop m) (hk : k ≤ m) (hA : Ac (rwk R I) k) (hno : 0 < k → (k : Int) ≠ stop) : k < m := by
  rcases Nat.lt_or_ge k m with h | h
  · exact h
  · obtain rfl : k = m := by omega
    rcases c.over.2.2 with ⟨h1, h2⟩ | h1
    · exact absurd h2 (hno h1)
    · exact absurd hA h1
theorem LC.done (c : LC w wq tv q ab dd p b vq wb nb u g vr R I stop m) (hk : k ≤ m) (hE : Ec (rwk R I) k) : k = m := by
  rcases Nat.lt_or_ge k m with h | h
  · have hA := c.over.1 k h
    have h1 := hA.1
    have h2 := hA.2
    have := hE.2 h1
    omega
  · omega
theorem LC.halt (c : LC w wq tv q ab dd p b vq wb nb u g vr R I stop m) (hk : k ≤ m) (h0 : 0 < k) (hs : (k : Int) = stop) : k = m := by
  rcases Nat.lt_or_ge k m with h | h
  · exact absurd hs (c.over.2.1 k h0 h)
  · omega
theorem LJ.next (c : LC w wq tv q ab dd p b vq wb nb u g vr R I stop m) {v' : Value} (hv : v'.ownBlock = vq.ownBlock ∨ ∀ j, v'.ownBlock = some j → wq.heap.size + 2 ≤ j) (hI : Ix Y p b v' (rwk R I (k + 1))) (hfr : Fr (fun x => Foot p b vq x ∨ x = nb) wq Y) (hnb : Bx Y nb (.int .i64 (k : Int))) (hlt : k < m) :
    LJ wq p b vq nb R I m (k + 1) (Y.setCell ⟨nb, 0, none⟩ (.int .i64 ((k : Int) + 1))) ∧ Stay wq.heap.size Y (Y.setCell ⟨nb, 0, none⟩ (.int .i64 ((k : Int) + 1))) := by
  have hn := c.nbx.lt
  have hf : Fr (fun x => x = nb) Y (Y.setCell ⟨nb, 0, none⟩ (.int .i64 ((k : Int) + 1))) := (Fr.refl (fun x => x = nb) Y).setCell ⟨nb, 0, none⟩ (.inr rfl) _
  refine ⟨⟨⟨v', hI.keep hf (fun x hx e => ?_), hv⟩, ⟨hf.os.trans hfr.os, hf.tape.trans hfr.tape, hf.output.trans hfr.output, Nat.le_trans hfr.size hf.size, fun x hx hnx => (hf.block x (Nat.lt_of_lt_of_le hx hfr.size) (fun e => hnx (.inr e))).trans (hfr.block x hx hnx)⟩, hnb.set _, hlt⟩, Below.heap_setCell _ _ _ _ (by show _ ≠ nb; omega), Below.heap_setCell _ _ _ _ (by show _ ≠ nb; omega)⟩
  subst e
  rcases LJ.now c hv x hx with r | r
  · exact (c.ft x r).2.2.2.2.1 rfl
  · omega
theorem own_low {X : World} {base sz n : Nat} {e : TypeId} {v : Value} {xs : List Value} (h : X.ownsRow base e sz v n xs) : X.ownsRow 0 e sz v n xs := by
  obtain ⟨h1, h2⟩ := h
  refine ⟨h1, ?_⟩
  rcases h2 with h2 | ⟨g, cap, cur, hv, hg, r⟩
  · exact .inl h2
  · exact .inr ⟨g, cap, cur, hv, Nat.zero_le _, r⟩
theorem own_form {X : World} {base sz n : Nat} {e : TypeId} {v : Value} {xs : List Value} (h : X.ownsRow base e sz v n xs) : ∃ a cap, v = .slice a n cap := by
  rcases h.2 with ⟨e, h0⟩ | ⟨g, cap, cur, e, _⟩
  · exact ⟨none, 0, by rw [e, h0]⟩
  · exact ⟨_, cap, e⟩
/-- The walk begins. -/
theorem LC.make {w3 : World} (h : TS w tv q ab dd p R R vr X) (hW : WkR X vr R I stop m u g w3) : ∃ b vq, LC w ((w3.alloc (.cells #[g] 56)).alloc (.cells #[.int .i64 0] 3)) tv q ab dd p b vq w3.heap.size (w3.heap.size + 1) u g vr R I stop m := by
  have s1 : (w3.alloc (.cells #[g] 56)).heap.size = w3.heap.size + 1 := by simp
  have s2 : ((w3.alloc (.cells #[g] 56)).alloc (.cells #[.int .i64 0] 3)).heap.size = w3.heap.size + 2 := by simp
  have hs := hW.bel.size
  have hB : Below w3.heap.size w3 ((w3.alloc (.cells #[g] 56)).alloc (.cells #[.int .i64 0] 3)) := ((Below.refl _ _).alloc (Nat.le_refl _) _).alloc (by omega) _
  obtain ⟨b, vq, i1, i2⟩ := h.ix
  have h1 := h.rb.lt
  have h2 := h.xb.lt
  have h3 := h.wb.lt
  have hu : ∀ x, u.ownBlock = some x → x < w3.heap.size := hW.lt
  refine ⟨b, vq, (h.below hW.bel).below hB, (i1.below hW.bel).below hB, fun x hx => ?_, (Bx.new w3 g 56).alloc _, own_low (own_keep2 hW.got (fun y hy => (Fr.of_below (S := fun _ => False) hB).block y (hW.got.lt y hy).2 (fun e => e))), hW.row.below hB, fun k hk => by have := hu k hk; omega, ?_, ⟨by omega, by omega, by omega, by omega, fun e => by have := hu _ e; omega, fun e => by have := (hW.got.lt _ e).2; omega⟩, hW.over, by have := blk_lt h.dk; omega⟩
  · have hf := i1.foot x hx
    have := i2 x hx
    refine ⟨this.1, this.2.1, this.2.2.1, by omega, by omega, fun e => ?_, fun e => by have := (hW.got.lt x e).1; omega, this.2.2.2.2⟩
    rcases hW.ob with r | r
    · exact this.2.2.2.1 (r ▸ e)
    · have := r x e; omega
  · have := Bx.new (w3.alloc (.cells #[g] 56)) (.int .i64 0) 3
    rw [s1] at this
    exact this
end
end Go.Proofs.Ythmcalapofjmfaa
