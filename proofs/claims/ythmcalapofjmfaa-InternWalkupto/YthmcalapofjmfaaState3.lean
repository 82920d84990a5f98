/-
  An index and its row, both turned.
-/
import Derived.Test.YthmcalapofjmfaaState2
namespace Go.Proofs.Ythmcalapofjmfaa
open Go.RowKit Go.Maps
set_option linter.unusedVariables false

theorem IStep.after {p b : Nat} {w w1 w2 : World} {v v' : Value} (hB : Below w.heap.size w w1) (h : IStep p b w1 v w2 v') : IStep p b w v w2 v' :=
  ⟨(Fr.of_below hB).trans h.fr, by
    rcases h.row with q | q
    · exact .inl q
    · exact .inr fun k hk => Nat.le_trans hB.size (q k hk)⟩
theorem IStep.ahead {p b : Nat} {w w1 w2 : World} {v v' : Value} (h : IStep p b w v w1 v') (hB : Below w1.heap.size w1 w2) : IStep p b w v w2 v' :=
  ⟨h.fr.trans (Fr.of_below hB), h.row⟩

section
variable {w wr w' : World} {d : Dat}

def Dat.put (d : Dat) (k p b : Nat) (v : Value) (l : List ByteArray) (u : Value) (l' : List ByteArray) : Dat :=
  { d with P := updF d.P k p, B := updF d.B k b, V := updF d.V k v, rs := updF d.rs k l, A := updF d.A k u, dr := updF d.dr k l' }

theorem SC.core (h : SC w d wr) {k : Nat} (hk : k < 2) {p b : Nat} {v : Value} {l : List ByteArray} {u : Value} {l' : List ByteArray} (f : Fr (fun x => Foot (d.P k) (d.B k) (d.V k) x ∨ x = d.bx ∨ x = d.br) wr w')
    (hI : Ix w' p b v l) (hR : Rt w' u l') (hbx : ∀ j, j < 2 → w'.cell? ⟨d.bx, j, none⟩ = some (.pointer (some ⟨updF d.P k p j, 0, none⟩)) ∧ w'.frozen? ⟨d.bx, j, none⟩ = false) (hbr : ∀ j, j < 2 → w'.cell? ⟨d.br, j, none⟩ = some (updF d.A k u j) ∧ w'.frozen? ⟨d.br, j, none⟩ = false)
    (hp : p = d.P k ∨ wr.heap.size ≤ p) (hb : b = d.B k ∨ wr.heap.size ≤ b) (hv : v.ownBlock = (d.V k).ownBlock ∨ ∀ x, v.ownBlock = some x → wr.heap.size ≤ x) (hu : u.ownBlock = (d.A k).ownBlock ∨ ∀ x, u.ownBlock = some x → wr.heap.size ≤ x ∧ x < w'.heap.size)
    (hne : ∀ x, u.ownBlock = some x → Foot p b v x → x < wr.heap.size) : SC w (d.put k p b v l u l') w' := by
  have hpb := hI.pb
  have hvp := hI.vp
  have hvb := hI.vb
  have g2 : ∀ {c : Nat}, c = 2 → fam (d.put k p b v l u l') c k = some p := fun e => by subst e; rw [f2 hk]; show some (updF d.P k p k) = _; rw [updF_at]
  have g3 : ∀ {c : Nat}, c = 3 → fam (d.put k p b v l u l') c k = some b := fun e => by subst e; rw [f3 hk]; show some (updF d.B k b k) = _; rw [updF_at]
  have g4 : ∀ {c : Nat}, c = 4 → fam (d.put k p b v l u l') c k = v.ownBlock := fun e => by subst e; rw [f4 hk]; show (updF d.V k v k).ownBlock = _; rw [updF_at]
  have g5 : ∀ {c : Nat}, c = 5 → fam (d.put k p b v l u l') c k = u.ownBlock := fun e => by subst e; rw [f5 hk]; show (updF d.A k u k).ownBlock = _; rw [updF_at]
  have old : ∀ c x, (c = 2 ∨ c = 3 ∨ c = 4 ∨ c = 5) → fam (d.put k p b v l u l') c k = some x → fam d c k = some x ∨ (wr.heap.size ≤ x ∧ x < w'.heap.size) := fun c x hc e => by
    rcases hc with hc | hc | hc | hc
    · rw [g2 hc] at e; cases e
      rcases hp with q | q
      · left; rw [hc, f2 hk, q]
      · exact .inr ⟨q, hI.lt⟩
    · rw [g3 hc] at e; cases e
      rcases hb with q | q
      · left; rw [hc, f3 hk, q]
      · exact .inr ⟨q, hI.blt⟩
    · rw [g4 hc] at e
      rcases hv with q | q
      · left; rw [hc, f4 hk]; exact q.symm.trans e
      · exact .inr ⟨q x e, hI.vlt x e⟩
    · rw [g5 hc] at e
      rcases hu with q | q
      · left; rw [hc, f5 hk]; exact q.symm.trans e
      · exact .inr (q x e)
  have ft : ∀ c x, (c = 2 ∨ c = 3 ∨ c = 4) → fam (d.put k p b v l u l') c k = some x → Foot p b v x := fun c x hc e => by
    rcases hc with hc | hc | hc
    · rw [g2 hc] at e; cases e; exact .inl rfl
    · rw [g3 hc] at e; cases e; exact .inr (.inl rfl)
    · rw [g4 hc] at e; exact .inr (.inr e)
  obtain ⟨c1, c2, c3, c4, c5⟩ := h.change (d.put k p b v l u l') (fun c j => (j = k ∧ (c = 2 ∨ c = 3 ∨ c = 4 ∨ c = 5)) ∨ (c = 0 ∧ j = 0) ∨ (c = 1 ∧ j = 0)) f (fun x hx => by
      rcases hx with (e | e | e) | e | e
      · exact ⟨2, k, .inl ⟨rfl, by simp⟩, by rw [f2 hk, e]⟩
      · exact ⟨3, k, .inl ⟨rfl, by simp⟩, by rw [f3 hk, e]⟩
      · exact ⟨4, k, .inl ⟨rfl, by simp⟩, by rw [f4 hk]; exact e⟩
      · exact ⟨0, 0, .inr (.inl ⟨rfl, rfl⟩), by rw [f0, e]⟩
      · exact ⟨1, 0, .inr (.inr ⟨rfl, rfl⟩), by rw [f1, e]⟩) (fun c j hx => by
      unfold fam Dat.put
      split <;> try rfl
      all_goals
        by_cases e : j = k
        · exact absurd (.inl ⟨e, by omega⟩) hx
        · simp only [updF_ne _ _ e]) (fun c j x hx e => by
      rcases hx with ⟨rfl, hc⟩ | ⟨rfl, rfl⟩ | ⟨rfl, rfl⟩
      · exact old c x hc e
      · exact .inl e
      · exact .inl e) (fun c j c' j' x hx hx' hn e e' => by
      rcases hx with ⟨rfl, hc⟩ | ⟨rfl, rfl⟩ | ⟨rfl, rfl⟩
      · rcases hx' with ⟨rfl, hc'⟩ | ⟨rfl, rfl⟩ | ⟨rfl, rfl⟩
        · by_cases c5e : c = 5
          · by_cases c5e' : c' = 5
            · exact absurd ⟨c5e.trans c5e'.symm, rfl⟩ hn
            · exact hne x (by rw [← g5 c5e]; exact e) (ft c' x (by omega) e')
          · by_cases c5e' : c' = 5
            · exact hne x (by rw [← g5 c5e']; exact e') (ft c x (by omega) e)
            · exfalso
              have hc2 : c = 2 ∨ c = 3 ∨ c = 4 := by omega
              have hc2' : c' = 2 ∨ c' = 3 ∨ c' = 4 := by omega
              rcases hc2 with hc | hc | hc <;> rcases hc2' with hc' | hc' | hc'
              · exact hn ⟨hc.trans hc'.symm, rfl⟩
              · rw [g2 hc] at e; rw [g3 hc'] at e'; cases e; cases e'; exact hpb rfl
              · rw [g2 hc] at e; rw [g4 hc'] at e'; cases e; exact hvp e'
              · rw [g3 hc] at e; rw [g2 hc'] at e'; cases e; cases e'; exact hpb rfl
              · exact hn ⟨hc.trans hc'.symm, rfl⟩
              · rw [g3 hc] at e; rw [g4 hc'] at e'; cases e; exact hvb e'
              · rw [g4 hc] at e; rw [g2 hc'] at e'; cases e'; exact hvp e
              · rw [g4 hc] at e; rw [g3 hc'] at e'; cases e'; exact hvb e
              · exact hn ⟨hc.trans hc'.symm, rfl⟩
        · exact h.hi 0 0 x e'
        · exact h.hi 1 0 x e'
      · exact h.hi 0 0 x e
      · exact h.hi 1 0 x e)
  have hs := f.size
  have oth : ∀ c j, ¬ ((j = k ∧ (c = 2 ∨ c = 3 ∨ c = 4 ∨ c = 5)) ∨ (c = 0 ∧ j = 0) ∨ (c = 1 ∧ j = 0)) → ∀ x, fam d c j = some x → w'.heap[x]? = wr.heap[x]? := fun c j hx x e => c5 c j x hx e
  refine ⟨fun j hj => ?_, fun j hj => ?_, fun j hj => (hbx j hj).1, fun j hj => (hbx j hj).2, fun j hj => (hbr j hj).1, fun j hj => (hbr j hj).2,
    h.kO (oth 6 0 (by simp)), h.kT (oth 7 0 (by simp)), fun j hj => h.kR hj (oth 8 j (by simp)), fun j hj => h.kQ hs hj (oth 9 j (by simp)), h.xl, h.kG (oth 10 0 (by simp)), c1, c2, c3, c4⟩
  · show Ix _ (updF d.P k p j) (updF d.B k b j) (updF d.V k v j) (updF d.rs k l j)
    by_cases e : j = k
    · subst e
      rw [updF_at, updF_at, updF_at, updF_at]
      exact hI
    · rw [updF_ne _ _ e, updF_ne _ _ e, updF_ne _ _ e, updF_ne _ _ e]
      exact h.kIx (fun b ⟨c, hc, q⟩ => oth c j (by omega) b q) hj
  · show Rt _ (updF d.A k u j) (updF d.dr k l' j)
    by_cases e : j = k
    · subst e
      rw [updF_at, updF_at]
      exact hR
    · rw [updF_ne _ _ e, updF_ne _ _ e]
      exact h.kAr hs hj (oth 5 j (by omega))

theorem updF_self {α : Type} (f : Nat → α) (k j : Nat) : updF f k (f k) j = f j := by
  unfold updF
  split
  · rename_i e; rw [e]
  · rfl

/-- A call of the index k and of the document's row k, whose answer is laid in. -/
theorem SC.both (h : SC w d wr) {k : Nat} (hk : k < 2) {v : Value} {l : List ByteArray} {u : Value} {l' : List ByteArray} (hI : Ix w' (d.P k) (d.B k) v l) (s : IStep (d.P k) (d.B k) wr (d.V k) w' v) (hR : Rt w' u l')
    (hu : u.ownBlock = (d.A k).ownBlock ∨ ∀ x, u.ownBlock = some x → wr.heap.size ≤ x ∧ x < w'.heap.size) (hne : ∀ x, u.ownBlock = some x → v.ownBlock = some x → x < wr.heap.size) :
    w'.cell? ⟨d.br, k, none⟩ = some (d.A k) ∧ w'.frozen? ⟨d.br, k, none⟩ = false ∧ SC w (d.put k (d.P k) (d.B k) v l u l') (w'.setCell ⟨d.br, k, none⟩ u) := by
  have hz : (w'.setCell ⟨d.br, k, none⟩ u).heap.size = w'.heap.size := by simp [World.setCell]
  have hwz := s.fr.size
  have nf : ∀ x c j, (c = 0 ∨ c = 1) → fam d c j = some x → ¬ Foot (d.P k) (d.B k) (d.V k) x := fun x c j hc e hf => by
    rcases hf with q | q | q
    · exact h.ap c j 2 k x (by omega) e (by rw [f2 hk, q])
    · exact h.ap c j 3 k x (by omega) e (by rw [f3 hk, q])
    · exact h.ap c j 4 k x (by omega) e (by rw [f4 hk]; exact q)
  have hbr := h.hi 1 0 _ f1
  have hbx := h.hi 0 0 _ f0
  have kr : ∀ j, j < 2 → w'.cell? ⟨d.br, j, none⟩ = some (d.A j) ∧ w'.frozen? ⟨d.br, j, none⟩ = false := fun j hj =>
    ⟨(s.fr.cell (a := ⟨d.br, j, none⟩) hbr (nf _ 1 0 (.inr rfl) f1)).trans (h.brc j hj), (s.fr.frozen (a := ⟨d.br, j, none⟩) hbr (nf _ 1 0 (.inr rfl) f1)).trans (h.brf j hj)⟩
  have kx : ∀ j, j < 2 → w'.cell? ⟨d.bx, j, none⟩ = some (.pointer (some ⟨d.P j, 0, none⟩)) ∧ w'.frozen? ⟨d.bx, j, none⟩ = false := fun j hj =>
    ⟨(s.fr.cell (a := ⟨d.bx, j, none⟩) hbx (nf _ 0 0 (.inl rfl) f0)).trans (h.bxc j hj), (s.fr.frozen (a := ⟨d.bx, j, none⟩) hbx (nf _ 0 0 (.inl rfl) f0)).trans (h.bxf j hj)⟩
  have hxr : d.bx ≠ d.br := h.ne (c := 0) (k := 0) (c' := 1) (k' := 0) (by simp) f0 f1
  have hfb : ∀ x, Foot (d.P k) (d.B k) v x → x ≠ d.br := fun x hf e => by
    subst e
    rcases hf with q | q | q
    · exact nf _ 1 0 (.inr rfl) f1 (.inl q)
    · exact nf _ 1 0 (.inr rfl) f1 (.inr (.inl q))
    · rcases s.row with r | r
      · exact nf _ 1 0 (.inr rfl) f1 (.inr (.inr (r.symm.trans q)))
      · have := r _ q; omega
  have hub : ∀ x, u.ownBlock = some x → x ≠ d.br := fun x hx e => by
    subst e
    rcases hu with q | q
    · exact h.ap 5 k 1 0 d.br (by simp) (by rw [f5 hk]; exact q.symm.trans hx) f1
    · have := (q _ hx).1; omega
  refine ⟨(kr k hk).1, (kr k hk).2, h.core hk ((s.fr.mono (fun x _ q => .inl q)).setCell ⟨d.br, k, none⟩ (.inr (.inr (.inr rfl))) u) (hI.keepB (fun x hf => Below.heap_setCell _ _ _ _ (hfb x hf))) (hR.keep (by rw [hz]; exact Nat.le_refl _) (fun g hg => Below.heap_setCell _ _ _ _ (hub g hg)))
    (fun j hj => ?_) (fun j hj => ?_) (.inl rfl) (.inl rfl) s.row (hu.imp id (fun q x hx => by rw [hz]; exact q x hx)) (fun x hx hf => ?_)⟩
  · rw [updF_self, World.frozen?_setCell, World.cell?_setCell_other _ _ _ _ (fun e => hxr (by simpa using (congrArg Addr.block e).symm))]
    exact kx j hj
  · rw [World.frozen?_setCell]
    refine ⟨?_, (kr j hj).2⟩
    by_cases e : j = k
    · subst e
      rw [updF_at]
      exact World.cell?_setCell_same _ _ _ (kr j hj).1
    · rw [updF_ne _ _ e, World.cell?_setCell_other _ _ _ _ (fun e2 => e (by simpa using e2.symm))]
      exact (kr j hj).1
  · rcases hf with q | q | q
    · rw [q]; exact h.hi 2 k _ (f2 hk)
    · rw [q]; exact h.hi 3 k _ (f3 hk)
    · exact hne x hx q

/-- A new index, and a new row of the document's. -/
theorem SC.anew (h : SC w d wr) {k : Nat} (hk : k < 2) {p b : Nat} {v : Value} {l : List ByteArray} {u : Value} {l' : List ByteArray} (hB : Below wr.heap.size wr w') (hI : Ix w' p b v l) (hf : ∀ x, Foot p b v x → wr.heap.size ≤ x) (hR : Rt w' u l')
    (hu : ∀ x, u.ownBlock = some x → wr.heap.size ≤ x ∧ x < w'.heap.size) (hne : ∀ x, u.ownBlock = some x → ¬ Foot p b v x) :
    w'.cell? ⟨d.bx, k, none⟩ = some (.pointer (some ⟨d.P k, 0, none⟩)) ∧ w'.frozen? ⟨d.bx, k, none⟩ = false ∧ (w'.setCell ⟨d.bx, k, none⟩ (.pointer (some ⟨p, 0, none⟩))).cell? ⟨d.br, k, none⟩ = some (d.A k) ∧ (w'.setCell ⟨d.bx, k, none⟩ (.pointer (some ⟨p, 0, none⟩))).frozen? ⟨d.br, k, none⟩ = false ∧
    SC w (d.put k p b v l u l') ((w'.setCell ⟨d.bx, k, none⟩ (.pointer (some ⟨p, 0, none⟩))).setCell ⟨d.br, k, none⟩ u) := by
  have hbr := h.hi 1 0 _ f1
  have hbx := h.hi 0 0 _ f0
  have hxr : d.bx ≠ d.br := h.ne (c := 0) (k := 0) (c' := 1) (k' := 0) (by simp) f0 f1
  have kr : ∀ j, j < 2 → w'.cell? ⟨d.br, j, none⟩ = some (d.A j) ∧ w'.frozen? ⟨d.br, j, none⟩ = false := fun j hj =>
    ⟨(hB.cell (p := ⟨d.br, j, none⟩) hbr).trans (h.brc j hj), (hB.frozen (p := ⟨d.br, j, none⟩) hbr).trans (h.brf j hj)⟩
  have kx : ∀ j, j < 2 → w'.cell? ⟨d.bx, j, none⟩ = some (.pointer (some ⟨d.P j, 0, none⟩)) ∧ w'.frozen? ⟨d.bx, j, none⟩ = false := fun j hj =>
    ⟨(hB.cell (p := ⟨d.bx, j, none⟩) hbx).trans (h.bxc j hj), (hB.frozen (p := ⟨d.bx, j, none⟩) hbx).trans (h.bxf j hj)⟩
  have k2 : ∀ j, j < 2 → (w'.setCell ⟨d.bx, k, none⟩ (.pointer (some ⟨p, 0, none⟩))).cell? ⟨d.br, j, none⟩ = some (d.A j) ∧ (w'.setCell ⟨d.bx, k, none⟩ (.pointer (some ⟨p, 0, none⟩))).frozen? ⟨d.br, j, none⟩ = false := fun j hj => by
    rw [World.frozen?_setCell, World.cell?_setCell_other _ _ _ _ (fun e => hxr (by simpa using congrArg Addr.block e))]
    exact kr j hj
  have hz : ((w'.setCell ⟨d.bx, k, none⟩ (.pointer (some ⟨p, 0, none⟩))).setCell ⟨d.br, k, none⟩ u).heap.size = w'.heap.size := by simp [World.setCell]
  have blk : ∀ x, wr.heap.size ≤ x → ((w'.setCell ⟨d.bx, k, none⟩ (.pointer (some ⟨p, 0, none⟩))).setCell ⟨d.br, k, none⟩ u).heap[x]? = w'.heap[x]? := fun x hx => by
    rw [Below.heap_setCell _ _ _ _ (by show x ≠ d.br; omega), Below.heap_setCell _ _ _ _ (by show x ≠ d.bx; omega)]
  refine ⟨(kx k hk).1, (kx k hk).2, (k2 k hk).1, (k2 k hk).2, h.core hk (((Fr.of_below hB).setCell ⟨d.bx, k, none⟩ (.inr (.inr (.inl rfl))) _).setCell ⟨d.br, k, none⟩ (.inr (.inr (.inr rfl))) u) (hI.keepB (fun x hx => blk x (hf x hx))) (hR.keep (by rw [hz]; exact Nat.le_refl _) (fun g hg => blk g (hu g hg).1))
    (fun j hj => ?_) (fun j hj => ?_) (.inr (hf p (.inl rfl))) (.inr (hf b (.inr (.inl rfl)))) (.inr (fun x hx => hf x (.inr (.inr hx)))) (.inr (fun x hx => by rw [hz]; exact hu x hx)) (fun x hx hx2 => absurd hx2 (hne x hx))⟩
  · rw [World.frozen?_setCell, World.frozen?_setCell, World.cell?_setCell_other _ _ _ _ (fun e => hxr (by simpa using (congrArg Addr.block e).symm))]
    refine ⟨?_, (kx j hj).2⟩
    by_cases e : j = k
    · subst e
      rw [updF_at]
      exact World.cell?_setCell_same _ _ _ (kx j hj).1
    · rw [updF_ne _ _ e, World.cell?_setCell_other _ _ _ _ (fun e2 => e (by simpa using e2.symm))]
      exact (kx j hj).1
  · rw [World.frozen?_setCell]
    refine ⟨?_, (k2 j hj).2⟩
    by_cases e : j = k
    · subst e
      rw [updF_at]
      exact World.cell?_setCell_same _ _ _ (k2 j hj).1
    · rw [updF_ne _ _ e, World.cell?_setCell_other _ _ _ _ (fun e2 => e (by simpa using e2.symm))]
      exact (k2 j hj).1
end
end Go.Proofs.Ythmcalapofjmfaa
