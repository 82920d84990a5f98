/-
  The steps of a script, and what stands at its end.
-/
import Derived.Test.YthmcalapofjmfaaState
namespace Go.Proofs.Ythmcalapofjmfaa
open Go.RowKit Go.Maps
set_option linter.unusedVariables false
section
variable {w wr w' : World} {d : Dat}

theorem SC.ne (h : SC w d wr) {c k c' k' b b' : Nat} (hne : ¬ (c = c' ∧ k = k')) (e : fam d c k = some b) (e' : fam d c' k' = some b') : b ≠ b' := fun q => h.ap c k c' k' b hne e (q ▸ e')

/-- The document's row k is another one. -/
theorem SC.rowed (h : SC w d wr) {k : Nat} (hk : k < 2) {u : Value} {l : List ByteArray} (hB : Below wr.heap.size wr w') (hR : Rt w' u l) (hu : u.ownBlock = (d.A k).ownBlock ∨ ∀ b, u.ownBlock = some b → wr.heap.size ≤ b ∧ b < w'.heap.size) :
    SC w { d with A := updF d.A k u, dr := updF d.dr k l } (w'.setCell ⟨d.br, k, none⟩ u) := by
  have hz : (w'.setCell ⟨d.br, k, none⟩ u).heap.size = w'.heap.size := by simp [World.setCell]
  have hbs := hB.size
  have f : Fr (fun b => b = d.br) wr (w'.setCell ⟨d.br, k, none⟩ u) := (Fr.of_below (S := fun b => b = d.br) hB).setCell ⟨d.br, k, none⟩ (.inr rfl) u
  obtain ⟨c1, c2, c3, c4, c5⟩ := h.change { d with A := updF d.A k u, dr := updF d.dr k l } (fun c j => (c = 5 ∧ j = k) ∨ (c = 1 ∧ j = 0)) f (fun b e => ⟨1, 0, .inr ⟨rfl, rfl⟩, by rw [f1, e]⟩) (fun c j hx => by
      unfold fam
      split <;> try rfl
      by_cases e : j = k
      · exact absurd (.inl ⟨rfl, e⟩) hx
      · simp only [updF_ne _ _ e]) (fun c j b hx e => by
      rcases hx with ⟨rfl, rfl⟩ | ⟨rfl, rfl⟩
      · rw [f5 hk] at e ⊢
        have e2 : u.ownBlock = some b := by rw [← e]; show _ = (updF d.A j u j).ownBlock; rw [updF_at]
        rcases hu with q | q
        · exact .inl (q ▸ e2)
        · exact .inr ⟨(q b e2).1, by rw [hz]; exact (q b e2).2⟩
      · exact .inl e) (fun c j c' j' b hx hx' hne e e' => by
      rcases hx with ⟨rfl, rfl⟩ | ⟨rfl, rfl⟩
      · rcases hx' with ⟨rfl, rfl⟩ | ⟨rfl, rfl⟩
        · exact absurd ⟨rfl, rfl⟩ hne
        · exact h.hi 1 0 b e'
      · exact h.hi 1 0 b e)
  have hs := f.size
  have oth : ∀ c j, ¬ ((c = 5 ∧ j = k) ∨ (c = 1 ∧ j = 0)) → ∀ b, fam d c j = some b → (w'.setCell ⟨d.br, k, none⟩ u).heap[b]? = wr.heap[b]? := fun c j hx b e => c5 c j b hx e
  have hub : u.ownBlock ≠ some d.br := fun e => by
    rcases hu with q | q
    · exact h.ap 5 k 1 0 d.br (by simp) (by rw [f5 hk]; exact q ▸ e) f1
    · have := (q _ e).1; have := h.hi 1 0 _ f1; omega
  have kc : ∀ j, j < 2 → w'.cell? ⟨d.br, j, none⟩ = some (d.A j) := fun j hj => (hB.cell (p := ⟨d.br, j, none⟩) (h.hi 1 0 _ f1)).trans (h.brc j hj)
  have kf : ∀ j, j < 2 → w'.frozen? ⟨d.br, j, none⟩ = false := fun j hj => (hB.frozen (p := ⟨d.br, j, none⟩) (h.hi 1 0 _ f1)).trans (h.brf j hj)
  refine ⟨fun j hj => h.kIx (fun b ⟨c, hc, e⟩ => oth c j (by omega) b e) hj, fun j hj => ?_, fun j hj => (h.kBx (oth 0 0 (by simp) _ f0) hj).1, fun j hj => (h.kBx (oth 0 0 (by simp) _ f0) hj).2, fun j hj => ?_, fun j hj => ?_,
    h.kO (oth 6 0 (by simp)), h.kT (oth 7 0 (by simp)), fun j hj => h.kR hj (oth 8 j (by simp)), fun j hj => h.kQ hs hj (oth 9 j (by simp)), h.xl, h.kG (oth 10 0 (by simp)), c1, c2, c3, c4⟩
  · show Rt _ (updF d.A k u j) (updF d.dr k l j)
    by_cases e : j = k
    · subst e
      rw [updF_at, updF_at]
      exact hR.keep (by rw [hz]; exact Nat.le_refl _) (fun g hg => Below.heap_setCell _ _ _ _ (fun e => hub (by have e2 : g = d.br := e; rw [← e2]; exact hg)))
    · rw [updF_ne _ _ e, updF_ne _ _ e]
      exact h.kAr hs hj (oth 5 j (by omega))
  · show _ = some (updF d.A k u j)
    by_cases e : j = k
    · subst e
      rw [updF_at]
      exact World.cell?_setCell_same _ _ _ (kc j hj)
    · rw [updF_ne _ _ e, World.cell?_setCell_other _ _ _ _ (fun e2 => e (by simpa using e2.symm))]
      exact kc j hj
  · show World.frozen? _ _ = false
    rw [World.frozen?_setCell]
    exact kf j hj

/-- The index k is another one. -/
theorem SC.renewed (h : SC w d wr) {k : Nat} (hk : k < 2) {p b : Nat} {v : Value} {l : List ByteArray} (hB : Below wr.heap.size wr w') (hI : Ix w' p b v l) (hf : ∀ g, Foot p b v g → wr.heap.size ≤ g) :
    SC w { d with P := updF d.P k p, B := updF d.B k b, V := updF d.V k v, rs := updF d.rs k l } (w'.setCell ⟨d.bx, k, none⟩ (.pointer (some ⟨p, 0, none⟩))) := by
  have hz : (w'.setCell ⟨d.bx, k, none⟩ (.pointer (some ⟨p, 0, none⟩))).heap.size = w'.heap.size := by simp [World.setCell]
  have hbs := hB.size
  have f : Fr (fun b => b = d.bx) wr (w'.setCell ⟨d.bx, k, none⟩ (.pointer (some ⟨p, 0, none⟩))) := (Fr.of_below (S := fun b => b = d.bx) hB).setCell ⟨d.bx, k, none⟩ (.inr rfl) _
  have hpb := hI.pb
  have hvp := hI.vp
  have hvb := hI.vb
  have g2 : ∀ {c : Nat}, c = 2 → fam { d with P := updF d.P k p, B := updF d.B k b, V := updF d.V k v, rs := updF d.rs k l } c k = some p := fun e => by subst e; rw [f2 hk]; show some (updF d.P k p k) = _; rw [updF_at]
  have g3 : ∀ {c : Nat}, c = 3 → fam { d with P := updF d.P k p, B := updF d.B k b, V := updF d.V k v, rs := updF d.rs k l } c k = some b := fun e => by subst e; rw [f3 hk]; show some (updF d.B k b k) = _; rw [updF_at]
  have g4 : ∀ {c : Nat}, c = 4 → fam { d with P := updF d.P k p, B := updF d.B k b, V := updF d.V k v, rs := updF d.rs k l } c k = v.ownBlock := fun e => by subst e; rw [f4 hk]; show (updF d.V k v k).ownBlock = _; rw [updF_at]
  obtain ⟨c1, c2, c3, c4, c5⟩ := h.change { d with P := updF d.P k p, B := updF d.B k b, V := updF d.V k v, rs := updF d.rs k l } (fun c j => (j = k ∧ (c = 2 ∨ c = 3 ∨ c = 4)) ∨ (c = 0 ∧ j = 0)) f (fun b e => ⟨0, 0, .inr ⟨rfl, rfl⟩, by rw [f0, e]⟩) (fun c j hx => by
      unfold fam
      split <;> try rfl
      all_goals
        by_cases e : j = k
        · exact absurd (.inl ⟨e, by omega⟩) hx
        · simp only [updF_ne _ _ e]) (fun c j x hx e => by
      rcases hx with ⟨rfl, hc⟩ | ⟨rfl, rfl⟩
      · right
        rw [hz]
        rcases hc with hc | hc | hc
        · rw [g2 hc] at e; cases e
          exact ⟨hf p (.inl rfl), hI.lt⟩
        · rw [g3 hc] at e; cases e
          exact ⟨hf b (.inr (.inl rfl)), hI.blt⟩
        · rw [g4 hc] at e
          exact ⟨hf x (.inr (.inr e)), hI.vlt x e⟩
      · exact .inl e) (fun c j c' j' x hx hx' hne e e' => by
      rcases hx with ⟨rfl, hc⟩ | ⟨rfl, rfl⟩
      · rcases hx' with ⟨rfl, hc'⟩ | ⟨rfl, rfl⟩
        · exfalso
          rcases hc with hc | hc | hc <;> rcases hc' with hc' | hc' | hc'
          · exact hne ⟨hc.trans hc'.symm, rfl⟩
          · rw [g2 hc] at e; rw [g3 hc'] at e'; cases e; cases e'; exact hpb rfl
          · rw [g2 hc] at e; rw [g4 hc'] at e'; cases e; exact hvp e'
          · rw [g3 hc] at e; rw [g2 hc'] at e'; cases e; cases e'; exact hpb rfl
          · exact hne ⟨hc.trans hc'.symm, rfl⟩
          · rw [g3 hc] at e; rw [g4 hc'] at e'; cases e; exact hvb e'
          · rw [g4 hc] at e; rw [g2 hc'] at e'; cases e'; exact hvp e
          · rw [g4 hc] at e; rw [g3 hc'] at e'; cases e'; exact hvb e
          · exact hne ⟨hc.trans hc'.symm, rfl⟩
        · exact h.hi 0 0 x e'
      · exact h.hi 0 0 x e)
  have hs := f.size
  have oth : ∀ c j, ¬ ((j = k ∧ (c = 2 ∨ c = 3 ∨ c = 4)) ∨ (c = 0 ∧ j = 0)) → ∀ b, fam d c j = some b → (w'.setCell ⟨d.bx, k, none⟩ (.pointer (some ⟨p, 0, none⟩))).heap[b]? = wr.heap[b]? := fun c j hx b e => c5 c j b hx e
  have kc : ∀ j, j < 2 → w'.cell? ⟨d.bx, j, none⟩ = some (.pointer (some ⟨d.P j, 0, none⟩)) := fun j hj => (hB.cell (p := ⟨d.bx, j, none⟩) (h.hi 0 0 _ f0)).trans (h.bxc j hj)
  have kf : ∀ j, j < 2 → w'.frozen? ⟨d.bx, j, none⟩ = false := fun j hj => (hB.frozen (p := ⟨d.bx, j, none⟩) (h.hi 0 0 _ f0)).trans (h.bxf j hj)
  refine ⟨fun j hj => ?_, fun j hj => h.kAr hs hj (oth 5 j (by simp)), fun j hj => ?_, fun j hj => ?_, fun j hj => (h.kBr (oth 1 0 (by simp) _ f1) hj).1, fun j hj => (h.kBr (oth 1 0 (by simp) _ f1) hj).2,
    h.kO (oth 6 0 (by simp)), h.kT (oth 7 0 (by simp)), fun j hj => h.kR hj (oth 8 j (by simp)), fun j hj => h.kQ hs hj (oth 9 j (by simp)), h.xl, h.kG (oth 10 0 (by simp)), c1, c2, c3, c4⟩
  · show Ix _ (updF d.P k p j) (updF d.B k b j) (updF d.V k v j) (updF d.rs k l j)
    by_cases e : j = k
    · subst e
      rw [updF_at, updF_at, updF_at, updF_at]
      exact hI.keepB (fun g hg => Below.heap_setCell _ _ _ _ (fun e => by have := hf g hg; have := h.hi 0 0 _ f0; have e2 : g = d.bx := e; omega))
    · rw [updF_ne _ _ e, updF_ne _ _ e, updF_ne _ _ e, updF_ne _ _ e]
      exact h.kIx (fun b ⟨c, hc, q⟩ => oth c j (by omega) b q) hj
  · show _ = some (Value.pointer (some ⟨updF d.P k p j, 0, none⟩))
    by_cases e : j = k
    · subst e
      rw [updF_at]
      exact World.cell?_setCell_same _ _ _ (kc j hj)
    · rw [updF_ne _ _ e, World.cell?_setCell_other _ _ _ _ (fun e2 => e (by simpa using e2.symm))]
      exact kc j hj
  · show World.frozen? _ _ = false
    rw [World.frozen?_setCell]
    exact kf j hj

/-- A row was handed out, and laid behind the others. -/
theorem SC.handed (h : SC w d wr) {w1 : World} {r O' : Value} {xs : List ByteArray} {o : Obj} (hd : w1.ownsRow wr.heap.size 9 1 r xs.length (xs.map Value.string)) (hB : Below wr.heap.size wr w1) (hx : xs.length ≤ 11999999999900)
    (hown : w'.ownsRow 0 26 1 O' (d.n + 1) ((List.range d.n).map d.R ++ [r])) (hg : (w1.alloc o).grownBy w' d.O.ownBlock) (hat : O'.ownBlock = d.O.ownBlock ∨ O'.ownBlock = some (w1.heap.size + 1)) (hmn : d.m ≤ d.n) :
    SC w { d with O := O', R := updF d.R d.n r, n := d.n + 1, xss := updF d.xss d.n xs } w' := by
  have hz1 : (w1.alloc o).heap.size = w1.heap.size + 1 := by simp
  have hgs := hg.size
  have hbs := hB.size
  have f : Fr (fun b => d.O.ownBlock = some b) wr w' := ((Fr.of_below (S := fun b => d.O.ownBlock = some b) hB).alloc o).grown hg (fun b e => .inr e)
  have hrO : ∀ b, r.ownBlock = some b → wr.heap.size ≤ b ∧ b < w1.heap.size := fun b e => ⟨(hd.lt b e).1, (hd.lt b e).2⟩
  have e8 : ∀ j, fam { d with O := O', R := updF d.R d.n r, n := d.n + 1, xss := updF d.xss d.n xs } 8 j = if j = d.n then r.ownBlock else fam d 8 j := fun j => by
    show (if j < d.n + 1 then (updF d.R d.n r j).ownBlock else none) = _
    by_cases e : j = d.n
    · rw [if_pos e, if_pos (by omega), e, updF_at]
    · rw [if_neg e, updF_ne _ _ e]
      show _ = (if j < d.n then _ else none)
      by_cases q : j < d.n
      · rw [if_pos q, if_pos (by omega)]
      · rw [if_neg q, if_neg (by omega)]
  obtain ⟨c1, c2, c3, c4, c5⟩ := h.change { d with O := O', R := updF d.R d.n r, n := d.n + 1, xss := updF d.xss d.n xs } (fun c j => (c = 6 ∧ j = 0) ∨ (c = 8 ∧ j = d.n)) f (fun b e => ⟨6, 0, .inl ⟨rfl, rfl⟩, e⟩) (fun c j hx => by
      by_cases e8c : c = 8
      · subst e8c
        rw [e8, if_neg (fun e => hx (.inr ⟨rfl, e⟩))]
      · unfold fam
        split <;> first | rfl | exact absurd rfl e8c | skip
        by_cases e : j = 0
        · exact absurd (.inl ⟨rfl, e⟩) hx
        · rw [if_neg e, if_neg e]) (fun c j b hx e => by
      rcases hx with ⟨rfl, rfl⟩ | ⟨rfl, rfl⟩
      · have e2 : O'.ownBlock = some b := e
        rcases hat with q | q
        · exact .inl (q.symm.trans e2)
        · rw [q] at e2; cases e2
          exact .inr ⟨by omega, (hown.lt _ q).2⟩
      · rw [e8, if_pos rfl] at e
        have := hrO b e
        right; omega) (fun c j c' j' b hx hx' hne e e' => by
      rcases hx with ⟨rfl, rfl⟩ | ⟨rfl, rfl⟩ <;> rcases hx' with ⟨rfl, rfl⟩ | ⟨rfl, rfl⟩
      · exact absurd ⟨rfl, rfl⟩ hne
      · have e2 : O'.ownBlock = some b := e
        rw [e8, if_pos rfl] at e'
        have := hrO b e'
        rcases hat with q | q
        · exact h.hi 6 0 b (q.symm.trans e2)
        · rw [q] at e2; cases e2; omega
      · have e2 : O'.ownBlock = some b := e'
        rw [e8, if_pos rfl] at e
        have := hrO b e
        rcases hat with q | q
        · exact h.hi 6 0 b (q.symm.trans e2)
        · rw [q] at e2; cases e2; omega
      · exact absurd ⟨rfl, rfl⟩ hne)
  have hs := f.size
  have oth : ∀ c j, ¬ ((c = 6 ∧ j = 0) ∨ (c = 8 ∧ j = d.n)) → ∀ b, fam d c j = some b → w'.heap[b]? = wr.heap[b]? := fun c j hx b e => c5 c j b hx e
  refine ⟨fun j hj => h.kIx (fun b ⟨c, hc, e⟩ => oth c j (by omega) b e) hj, fun j hj => h.kAr hs hj (oth 5 j (by simp)), fun j hj => (h.kBx (oth 0 0 (by simp) _ f0) hj).1, fun j hj => (h.kBx (oth 0 0 (by simp) _ f0) hj).2, fun j hj => (h.kBr (oth 1 0 (by simp) _ f1) hj).1, fun j hj => (h.kBr (oth 1 0 (by simp) _ f1) hj).2,
    ?_, h.kT (oth 7 0 (by simp)), fun j hj => ?_, fun j hj => ?_, fun j => ?_, h.kG (oth 10 0 (by simp)), c1, c2, c3, c4⟩
  · show w'.ownsRow 0 26 1 O' (d.n + 1) ((List.range (d.n + 1)).map (updF d.R d.n r))
    rw [List.range_succ, List.map_append, updF_range _ _ _ _ (Nat.le_refl _)]
    simp only [List.map_cons, List.map_nil, updF_at]
    exact hown
  · show w'.ownsRow 0 9 1 (updF d.R d.n r j) (updF d.xss d.n xs j).length ((updF d.xss d.n xs j).map Value.string)
    by_cases e : j = d.n
    · subst e
      rw [updF_at, updF_at]
      have h0 : w1.ownsRow 0 9 1 r xs.length (xs.map Value.string) := by
        refine ⟨hd.1, ?_⟩
        rcases hd.2 with q | ⟨g, cap, cur, q1, q2, q3⟩
        · exact .inl q
        · exact .inr ⟨g, cap, cur, q1, Nat.zero_le _, q3⟩
      refine own_keep h0 (fun g hgr => ?_)
      have hr := hrO g hgr
      rw [hg.block g (by omega) (fun e => by have := h.hi 6 0 g e.symm; omega), Below.heap_alloc _ _ _ hr.2]
    · rw [updF_ne _ _ e, updF_ne _ _ e]
      have hj2 : j < d.n := by have : j < d.n + 1 := hj; omega
      exact h.kR hj2 (oth 8 j (by omega))
  · have hj2 : j < d.m := hj
    show Rt w' (d.Q j) (updF d.xss d.n xs j)
    rw [updF_ne _ _ (by omega)]
    exact h.kQ hs hj2 (oth 9 j (by simp))
  · show (updF d.xss d.n xs j).length ≤ _
    by_cases e : j = d.n
    · rw [e, updF_at]; exact hx
    · rw [updF_ne _ _ e]; exact h.xl j

/-- What is held against it, laid behind the others. -/
theorem SC.held (h : SC w d wr) {w1 : World} {r T' : Value} {o : Obj} (hd : Nw wr r (d.xss d.m) w1)
    (hown : w'.ownsRow 0 26 1 T' (d.m + 1) ((List.range d.m).map d.Q ++ [r])) (hg : (w1.alloc o).grownBy w' d.T.ownBlock) (hat : T'.ownBlock = d.T.ownBlock ∨ T'.ownBlock = some (w1.heap.size + 1)) :
    SC w { d with T := T', Q := updF d.Q d.m r, m := d.m + 1 } w' := by
  have hz1 : (w1.alloc o).heap.size = w1.heap.size + 1 := by simp
  have hB := hd.2
  have hgs := hg.size
  have hbs := hB.size
  have f : Fr (fun b => d.T.ownBlock = some b) wr w' := ((Fr.of_below (S := fun b => d.T.ownBlock = some b) hB).alloc o).grown hg (fun b e => .inr e)
  have hrO : ∀ b, r.ownBlock = some b → wr.heap.size ≤ b ∧ b < w1.heap.size := fun b e => ⟨(hd.1.lt b e).1, (hd.1.lt b e).2⟩
  have e9 : ∀ j, fam { d with T := T', Q := updF d.Q d.m r, m := d.m + 1 } 9 j = if j = d.m then r.ownBlock else fam d 9 j := fun j => by
    show (if j < d.m + 1 then (updF d.Q d.m r j).ownBlock else none) = _
    by_cases e : j = d.m
    · rw [if_pos e, if_pos (by omega), e, updF_at]
    · rw [if_neg e, updF_ne _ _ e]
      show _ = (if j < d.m then _ else none)
      by_cases q : j < d.m
      · rw [if_pos q, if_pos (by omega)]
      · rw [if_neg q, if_neg (by omega)]
  obtain ⟨c1, c2, c3, c4, c5⟩ := h.change { d with T := T', Q := updF d.Q d.m r, m := d.m + 1 } (fun c j => (c = 7 ∧ j = 0) ∨ (c = 9 ∧ j = d.m)) f (fun b e => ⟨7, 0, .inl ⟨rfl, rfl⟩, e⟩) (fun c j hx => by
      by_cases e9c : c = 9
      · subst e9c
        rw [e9, if_neg (fun e => hx (.inr ⟨rfl, e⟩))]
      · unfold fam
        split <;> first | rfl | exact absurd rfl e9c | skip
        by_cases e : j = 0
        · exact absurd (.inl ⟨rfl, e⟩) hx
        · rw [if_neg e, if_neg e]) (fun c j b hx e => by
      rcases hx with ⟨rfl, rfl⟩ | ⟨rfl, rfl⟩
      · have e2 : T'.ownBlock = some b := e
        rcases hat with q | q
        · exact .inl (q.symm.trans e2)
        · rw [q] at e2; cases e2
          exact .inr ⟨by omega, (hown.lt _ q).2⟩
      · rw [e9, if_pos rfl] at e
        have := hrO b e
        right; omega) (fun c j c' j' b hx hx' hne e e' => by
      rcases hx with ⟨rfl, rfl⟩ | ⟨rfl, rfl⟩ <;> rcases hx' with ⟨rfl, rfl⟩ | ⟨rfl, rfl⟩
      · exact absurd ⟨rfl, rfl⟩ hne
      · have e2 : T'.ownBlock = some b := e
        rw [e9, if_pos rfl] at e'
        have := hrO b e'
        rcases hat with q | q
        · exact h.hi 7 0 b (q.symm.trans e2)
        · rw [q] at e2; cases e2; omega
      · have e2 : T'.ownBlock = some b := e'
        rw [e9, if_pos rfl] at e
        have := hrO b e
        rcases hat with q | q
        · exact h.hi 7 0 b (q.symm.trans e2)
        · rw [q] at e2; cases e2; omega
      · exact absurd ⟨rfl, rfl⟩ hne)
  have hs := f.size
  have oth : ∀ c j, ¬ ((c = 7 ∧ j = 0) ∨ (c = 9 ∧ j = d.m)) → ∀ b, fam d c j = some b → w'.heap[b]? = wr.heap[b]? := fun c j hx b e => c5 c j b hx e
  refine ⟨fun j hj => h.kIx (fun b ⟨c, hc, e⟩ => oth c j (by omega) b e) hj, fun j hj => h.kAr hs hj (oth 5 j (by simp)), fun j hj => (h.kBx (oth 0 0 (by simp) _ f0) hj).1, fun j hj => (h.kBx (oth 0 0 (by simp) _ f0) hj).2, fun j hj => (h.kBr (oth 1 0 (by simp) _ f1) hj).1, fun j hj => (h.kBr (oth 1 0 (by simp) _ f1) hj).2,
    h.kO (oth 6 0 (by simp)), ?_, fun j hj => h.kR hj (oth 8 j (by simp)), fun j hj => ?_, h.xl, h.kG (oth 10 0 (by simp)), c1, c2, c3, c4⟩
  · show w'.ownsRow 0 26 1 T' (d.m + 1) ((List.range (d.m + 1)).map (updF d.Q d.m r))
    rw [List.range_succ, List.map_append, updF_range _ _ _ _ (Nat.le_refl _)]
    simp only [List.map_cons, List.map_nil, updF_at]
    exact hown
  · show Rt w' (updF d.Q d.m r j) (d.xss j)
    by_cases e : j = d.m
    · subst e
      rw [updF_at]
      refine hd.rt.keep (by omega) (fun g hgr => ?_)
      have hr := hrO g hgr
      rw [hg.block g (by omega) (fun e => by have := h.hi 7 0 g e.symm; omega), Below.heap_alloc _ _ _ hr.2]
    · rw [updF_ne _ _ e]
      have hj2 : j < d.m := by have : j < d.m + 1 := hj; omega
      exact h.kQ hs hj2 (oth 9 j (by omega))

/-- What Apart is told. -/
theorem SC.forApart (h : SC w d wr) : RdV wr d.O ((List.range d.n).map d.R) ∧ Mkd wr 0 ((List.range d.n).map d.R) (fun j => (d.xss j).length) 0 0 wr ∧
    (∀ j b, j < ((List.range d.n).map d.R).length → (((List.range d.n).map d.R).getD j (.slice none 0 0)).ownBlock = some b → b < wr.heap.size) ∧ (∀ j, j < d.n → ((List.range d.n).map d.R).getD j (.slice none 0 0) = d.R j) ∧ ((List.range d.n).map d.R).length = d.n := by
  have hl : ((List.range d.n).map d.R).length = d.n := by simp
  have hg : ∀ j, j < d.n → ((List.range d.n).map d.R).getD j (.slice none 0 0) = d.R j := fun j hj => by
    rw [List.getD_eq_getElem?_getD, List.getElem?_map, List.getElem?_range hj]
    rfl
  refine ⟨?_, ⟨d.xss, ⟨fun k hk => ?_, fun k k' b hk hk' hne e1 e2 => ?_, Fr.refl _ _⟩, fun _ => rfl, fun k' hk' => by omega, fun j hj => by omega⟩, fun j b hj e => ?_, hg, hl⟩
  · have ht := h.oo
    rcases ht.2 with ⟨q1, q2⟩ | ⟨g, cap, cu, q1, _⟩
    · refine ⟨none, 0, by rw [q1, hl, q2], fun i hi => by rw [hl] at hi; omega⟩
    · refine ⟨some ⟨g, 0, none⟩, cap, by rw [q1, hl], fun i hi => ⟨g, 0, rfl, (ht.lt g (by rw [q1]; rfl)).2, ?_, fun k hk e => ?_⟩⟩
      · have := ht.cells (g := g) (by rw [q1]; rfl) i (((List.range d.n).map d.R).getD i (.slice none 0 0)) (by rw [List.getD_eq_getElem?_getD, List.getElem?_eq_getElem hi]; rfl)
        rw [addr_add0] at this
        rw [Nat.zero_add]
        exact this
      · rw [hl] at hk
        rw [hg k hk] at e
        exact h.ap 8 k 6 0 g (by simp) (by rw [f8 hk]; exact e) (by rw [f6, q1]; rfl)
  · rw [hl] at hk
    rw [hg k hk]
    exact h.rr k hk
  · rw [hl] at hk hk'
    rw [hg k hk] at e1
    rw [hg k' hk'] at e2
    exact h.ap 8 k 8 k' b (fun hh => hne hh.2) (by rw [f8 hk]; exact e1) (by rw [f8 hk']; exact e2)
  · rw [hl] at hj
    rw [hg j hj] at e
    exact h.hi 8 j b (by rw [f8 hj]; exact e)

/-- Behind Apart: what was handed out is written over, the rest stands. -/
theorem SC.spent (h : SC w d wr) {S : Nat → Prop} (f : Fr S wr w') (hS : ∀ b, S b → ∃ j, j < d.n ∧ (d.R j).ownBlock = some b) :
    (∀ k, k < 2 → Ix w' (d.P k) (d.B k) (d.V k) (d.rs k) ∧ Rt w' (d.A k) (d.dr k) ∧ w'.cell? ⟨d.bx, k, none⟩ = some (.pointer (some ⟨d.P k, 0, none⟩)) ∧ w'.cell? ⟨d.br, k, none⟩ = some (d.A k)) ∧ Below w.heap.size w w' := by
  have hoff : ∀ c k b, c ≠ 8 → fam d c k = some b → w'.heap[b]? = wr.heap[b]? := fun c k b hc e => f.block b (h.hi c k b e) (fun q => by
    obtain ⟨j, hj, e'⟩ := hS b q
    exact h.ap c k 8 j b (fun hh => hc hh.1) e (by rw [f8 hj]; exact e'))
  refine ⟨fun k hk => ⟨h.kIx (fun b ⟨c, hc, e⟩ => hoff c k b (by omega) e) hk, h.kAr f.size hk (fun b => hoff 5 k b (by simp)), (h.kBx (hoff 0 0 _ (by simp) f0) hk).1, (h.kBr (hoff 1 0 _ (by simp) f1) hk).1⟩, h.bel.trans (f.below h.bel.size (fun b hb q => ?_))⟩
  obtain ⟨j, hj, e⟩ := hS b q
  have := h.lo 8 j b (by rw [f8 hj]; exact e)
  omega
end
end Go.Proofs.Ythmcalapofjmfaa
