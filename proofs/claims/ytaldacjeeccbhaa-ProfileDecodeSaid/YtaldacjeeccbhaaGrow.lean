/-
  Rows of one's own that are grown, one by one, while the old ones still read.
-/
import Derived.Test.YtaldacjeeccbhaaKeep
namespace Go.Proofs.Ytaldacjeeccbhaa
open Go.RowKit

def updV (f : Nat → Value) (k : Nat) (x : Value) : Nat → Value := fun j => if j = k then x else f j
theorem updV_at (f : Nat → Value) (k : Nat) (x : Value) : updV f k x k = x := if_pos rfl
theorem updV_ne (f : Nat → Value) {k j : Nat} (x : Value) (h : j ≠ k) : updV f k x j = f j := if_neg h
theorem updV_range (f : Nat → Value) (k : Nat) (x : Value) : (List.range k).map (updV f k x) = (List.range k).map f := by
  apply List.map_congr_left
  intro j hj
  rw [List.mem_range] at hj
  exact updV_ne f x (by omega)

/-- How long row j is. -/
def gln (ns : Nat → Nat) (k i j : Nat) : Nat := if j < k then ns j + 64 else if j = k then ns j + i else ns j
theorem gln_at (ns : Nat → Nat) (k i : Nat) : gln ns k i k = ns k + i := by unfold gln; rw [if_neg (by omega), if_pos rfl]
theorem gln_next (ns : Nat → Nat) (k j : Nat) : gln ns k 64 j = gln ns (k + 1) 0 j := by
  unfold gln
  by_cases h : j < k
  · rw [if_pos h, if_pos (by omega)]
  · by_cases e : j = k
    · rw [if_neg h, if_pos e, if_pos (by omega)]
    · rw [if_neg h, if_neg e, if_neg (by omega)]
      split <;> omega
theorem gln_step (ns : Nat → Nat) (k i j : Nat) (h : j ≠ k) : gln ns k (i + 1) j = gln ns k i j := by
  unfold gln
  by_cases h1 : j < k
  · rw [if_pos h1, if_pos h1]
  · rw [if_neg h1, if_neg h1, if_neg h, if_neg h]

/-- What stays so: the rows that came in, and where they lie. -/
structure GC (w0 : World) (vs : List Value) (ns : Nat → Nat) : Prop where
  lt : ∀ j b, j < vs.length → (vs.getD j (.slice none 0 0)).ownBlock = some b → b < w0.heap.size
  ap : ∀ j j' b, j < vs.length → j' < vs.length → j ≠ j' → (vs.getD j (.slice none 0 0)).ownBlock = some b → (vs.getD j' (.slice none 0 0)).ownBlock ≠ some b
  sh : ∀ j, j < vs.length → (vs.getD j (.slice none 0 0) = .slice none 0 0 ∧ ns j = 0) ∨ ∃ g cap, vs.getD j (.slice none 0 0) = .slice (some ⟨g, 0, none⟩) (ns j) cap ∧ ns j ≤ cap ∧ cap ≤ maxLen

/-- The rows up to k are grown, row k by i. -/
structure Gr (w0 : World) (base : Nat) (vs : List Value) (ns : Nat → Nat) (k i : Nat) (cur : Nat → Value) (gs : Value) (w : World) : Prop where
  own : ∀ j, j < vs.length → w.ownsRow base 5 1 (cur j) (gln ns k i j) ((mrks j (gln ns k i j)).map By)
  ap : ∀ j j' b, j < vs.length → j' < vs.length → j ≠ j' → (cur j).ownBlock = some b → (cur j').ownBlock ≠ some b
  old : ∀ j, j < vs.length → Rd w (vs.getD j (.slice none 0 0)) (mrks j (ns j))
  cor : ∀ j b, j < vs.length → (cur j).ownBlock = some b → (vs.getD j (.slice none 0 0)).ownBlock = some b ∨ w0.heap.size ≤ b
  gown : w.ownsRow w0.heap.size 33 1 gs k ((List.range k).map cur)
  gap : ∀ j b, j < vs.length → gs.ownBlock = some b → (cur j).ownBlock ≠ some b
  fr : Fr (fun b => ∃ j, j < vs.length ∧ (vs.getD j (.slice none 0 0)).ownBlock = some b) w0 w

theorem own_keepT {w w' : World} {base : Nat} {e : TypeId} {v : Value} {n : Nat} {xs : List Value} (h : w.ownsRow base e 1 v n xs) (hb : ∀ g, v.ownBlock = some g → w'.heap[g]? = w.heap[g]?) : w'.ownsRow base e 1 v n xs := by
  obtain ⟨h1, h2⟩ := h
  refine ⟨h1, ?_⟩
  rcases h2 with h2 | ⟨g, cap, cur, hv, hg, hh, r⟩
  · exact Or.inl h2
  · exact Or.inr ⟨g, cap, cur, hv, hg, by rw [hb g (by rw [hv]; rfl)]; exact hh, r⟩

theorem Gr.vap {w0 w : World} {base : Nat} {vs : List Value} {ns : Nat → Nat} {k i : Nat} {cur : Nat → Value} {gs : Value} (h : Gr w0 base vs ns k i cur gs w) (c : GC w0 vs ns) {j j' b : Nat} (hj : j < vs.length) (hj' : j' < vs.length) (hn : j ≠ j')
    (hb : (vs.getD j (.slice none 0 0)).ownBlock = some b) : (cur j').ownBlock ≠ some b := by
  intro e
  have hl := c.lt j b hj hb
  rcases h.cor j' b hj' e with q | q
  · exact c.ap j j' b hj hj' hn hb q
  · omega

/-- What a row grown in place, or moved, leaves of the others. -/
theorem Gr.step {w0 w w2 : World} {base : Nat} {vs : List Value} {ns : Nat → Nat} {k i : Nat} {cur : Nat → Value} {gs v' : Value} {o : Obj} (h : Gr w0 base vs ns k i cur gs w) (c : GC w0 vs ns) (hk : k < vs.length)
    (hown : w2.ownsRow base 5 1 v' (ns k + (i + 1)) ((mrks k (ns k + (i + 1))).map By)) (hg : (w.alloc o).grownBy w2 (cur k).ownBlock) (hat : v'.ownBlock = (cur k).ownBlock ∨ v'.ownBlock = some (w.heap.size + 1))
    (hR : Rd w2 (cur k) (mrks k (ns k + i))) : Gr w0 base vs ns k (i + 1) (updV cur k v') gs w2 := by
  have hz : (w.alloc o).heap.size = w.heap.size + 1 := by simp
  have hsz := hg.size
  have hblk : ∀ b, b < w.heap.size → (cur k).ownBlock ≠ some b → w2.heap[b]? = w.heap[b]? := fun b hb hn =>
    (hg.block b (by omega) (fun e => hn e.symm)).trans (Below.heap_alloc _ _ _ hb)
  refine ⟨fun j hj => ?_, fun j j' b hj hj' hn h1 h2 => ?_, fun j hj => ?_, fun j b hj hb => ?_, ?_, fun j b hj hb e => ?_, ?_⟩
  · by_cases e : j = k
    · subst e
      rw [updV_at, gln_at]
      exact hown
    · rw [updV_ne _ _ e, gln_step _ _ _ _ e]
      exact own_keepT (h.own j hj) (fun g hg2 => hblk g ((h.own j hj).lt g hg2).2 (fun e2 => h.ap j k g hj hk e hg2 e2))
  · by_cases e : j = k
    · subst e
      rw [updV_at] at h1
      rw [updV_ne _ _ (fun e => hn e.symm)] at h2
      rcases hat with q | q
      · exact h.ap j j' b hj hj' hn (q.symm.trans h1) h2
      · have := ((h.own j' hj').lt b h2).2
        rw [q] at h1
        simp at h1
        omega
    · rw [updV_ne _ _ e] at h1
      by_cases e2 : j' = k
      · subst e2
        rw [updV_at] at h2
        rcases hat with q | q
        · exact h.ap j j' b hj hj' hn h1 (q.symm.trans h2)
        · have := ((h.own j hj).lt b h1).2
          rw [q] at h2
          simp at h2
          omega
      · rw [updV_ne _ _ e2] at h2
        exact h.ap j j' b hj hj' hn h1 h2
  · have hold := h.old j hj
    rcases c.sh j hj with ⟨e1, e2⟩ | ⟨g, cap, e1, hc1, hc2⟩
    · rw [e1, e2]
      exact .inl ⟨rfl, rfl⟩
    · have hvb : (vs.getD j (.slice none 0 0)).ownBlock = some g := by rw [e1]; rfl
      have hgl := c.lt j g hj hvb
      have hgw : g < w.heap.size := Nat.lt_of_lt_of_le hgl h.fr.size
      by_cases e : (cur k).ownBlock = some g
      · have ejk : j = k := by
          by_cases ejk : j = k
          · exact ejk
          · exact absurd e (h.vap c hj hk ejk hvb)
        subst ejk
        rw [e1]
        have hck := (h.own j hj).2
        rw [gln_at] at hck
        rcases hck with ⟨q, _⟩ | ⟨g2, cap2, cur2, q, _⟩
        · rw [q] at e
          simp [Value.ownBlock] at e
        · rw [q] at e hR
          simp only [Value.ownBlock, Option.some.injEq] at e
          subst e
          exact hR.begin (by omega) hc1 hc2 (by omega)
      · have hb : w2.heap[g]? = w.heap[g]? := hblk g hgw e
        rw [e1] at hold ⊢
        rcases hold with ⟨q, _⟩ | ⟨b2, off2, cap2, q, q1, q2, q3, q4⟩
        · cases q
        · simp only [Value.slice.injEq, Option.some.injEq, Addr.mk.injEq] at q
          refine .inr ⟨g, 0, cap, by rw [mrks_length], by rw [mrks_length]; exact hc1, hc2, by omega, fun x hx => ?_⟩
          have := q4 x hx
          obtain ⟨⟨rfl, rfl, _⟩, _, rfl⟩ := q
          exact (World.cell?_of_block (a := ⟨g, 0 + x, none⟩) hb).trans this
  · by_cases e : j = k
    · subst e
      rw [updV_at] at hb
      rcases hat with q | q
      · exact h.cor j b hj (q.symm.trans hb)
      · rw [q] at hb
        simp at hb
        have := h.fr.size
        right; omega
    · rw [updV_ne _ _ e] at hb
      exact h.cor j b hj hb
  · rw [updV_range]
    exact own_keepT h.gown (fun g hg2 => hblk g (h.gown.lt g hg2).2 (h.gap k g hk hg2))
  · by_cases e2 : j = k
    · subst e2
      rw [updV_at] at e
      rcases hat with q | q
      · exact h.gap j b hj hb (q.symm.trans e)
      · have := (h.gown.lt b hb).2
        rw [q] at e
        simp at e
        omega
    · rw [updV_ne _ _ e2] at e
      exact h.gap j b hj hb e
  · refine (h.fr.alloc o).grown hg (fun b e => ?_)
    rcases h.cor k b hk e with q | q
    · exact .inr ⟨k, hk, q⟩
    · exact .inl q

/-- The grown row is laid behind the others. -/
theorem Gr.push {w0 w w2 : World} {base : Nat} {vs : List Value} {ns : Nat → Nat} {k : Nat} {cur : Nat → Value} {gs gs' : Value} {o : Obj} (h : Gr w0 base vs ns k 64 cur gs w) (c : GC w0 vs ns)
    (hown : w2.ownsRow w0.heap.size 33 1 gs' (k + 1) ((List.range k).map cur ++ [cur k])) (hg : (w.alloc o).grownBy w2 gs.ownBlock) (hat : gs'.ownBlock = gs.ownBlock ∨ gs'.ownBlock = some (w.heap.size + 1)) : Gr w0 base vs ns (k + 1) 0 cur gs' w2 := by
  have hz : (w.alloc o).heap.size = w.heap.size + 1 := by simp
  have hsz := hg.size
  have hblk : ∀ b, b < w.heap.size → gs.ownBlock ≠ some b → w2.heap[b]? = w.heap[b]? := fun b hb hn =>
    (hg.block b (by omega) (fun e => hn e.symm)).trans (Below.heap_alloc _ _ _ hb)
  have hgl : ∀ b, gs.ownBlock = some b → w0.heap.size ≤ b := fun b e => (h.gown.lt b e).1
  refine ⟨fun j hj => ?_, h.ap, fun j hj => ?_, h.cor, ?_, fun j b hj hb e => ?_, ?_⟩
  · rw [← gln_next]
    exact own_keepT (h.own j hj) (fun g hg2 => hblk g ((h.own j hj).lt g hg2).2 (fun e => h.gap j g hj e hg2))
  · have hold := h.old j hj
    rcases c.sh j hj with ⟨e1, e2⟩ | ⟨g, cap, e1, hc1, hc2⟩
    · rw [e1, e2]
      exact .inl ⟨rfl, rfl⟩
    · have hvb : (vs.getD j (.slice none 0 0)).ownBlock = some g := by rw [e1]; rfl
      have hgl2 := c.lt j g hj hvb
      have hgw : g < w.heap.size := Nat.lt_of_lt_of_le hgl2 h.fr.size
      have hb : w2.heap[g]? = w.heap[g]? := hblk g hgw (fun e => by have := hgl g e; omega)
      rw [e1] at hold ⊢
      rcases hold with ⟨q, _⟩ | ⟨b2, off2, cap2, q, q1, q2, q3, q4⟩
      · cases q
      · simp only [Value.slice.injEq, Option.some.injEq, Addr.mk.injEq] at q
        refine .inr ⟨g, 0, cap, by rw [mrks_length], by rw [mrks_length]; exact hc1, hc2, by omega, fun x hx => ?_⟩
        have := q4 x hx
        obtain ⟨⟨rfl, rfl, _⟩, _, rfl⟩ := q
        exact (World.cell?_of_block (a := ⟨g, 0 + x, none⟩) hb).trans this
  · rw [List.range_succ, List.map_append]
    exact hown
  · rcases hat with q | q
    · exact h.gap j b hj (q.symm.trans hb) e
    · have := ((h.own j hj).lt b e).2
      rw [q] at hb
      simp at hb
      omega
  · exact (h.fr.alloc o).grown hg (fun b e => .inl (hgl b e))

/-- Ahead of the first growing. -/
theorem Gr.start {w0 w : World} {base : Nat} {vs : List Value} {ns : Nat → Nat} (h : Mkd w0 base vs ns vs.length 0 w) (hlt : ∀ j b, j < vs.length → (vs.getD j (.slice none 0 0)).ownBlock = some b → b < w0.heap.size) :
    GC w0 vs ns ∧ Gr w0 base vs ns 0 0 (fun j => vs.getD j (.slice none 0 0)) (.slice none 0 0) w := by
  obtain ⟨xss, h1, h2, h3, _⟩ := h.ex
  have hx : ∀ j, j < vs.length → xss j = mrks j (ns j) := fun j hj => mrks_of j (ns j) (xss j) (h2 j) (fun i hi => h3 j hj i hi)
  have hg0 : ∀ j, gln ns 0 0 j = ns j := fun j => by unfold gln; rw [if_neg (by omega)]; split <;> omega
  have ho : ∀ j, j < vs.length → w.ownsRow base 5 1 (vs.getD j (.slice none 0 0)) (ns j) ((mrks j (ns j)).map By) := fun j hj => by
    have := h1.own j hj
    rw [hx j hj, mrks_length] at this
    exact this
  refine ⟨⟨hlt, h1.ap, fun j hj => ?_⟩, ⟨fun j hj => by rw [hg0]; exact ho j hj, h1.ap, fun j hj => ?_, fun j b hj hb => .inl hb, World.ownsRow_nil _ _ _ _, fun j b hj hb => by simp [Value.ownBlock] at hb, h1.fr⟩⟩
  · rcases (ho j hj).2 with ⟨e, h0⟩ | ⟨g, cap, cur, e, hb, hg, hn, hc, hs, ht⟩
    · exact .inl ⟨e, h0⟩
    · exact .inr ⟨g, cap, e, hn, hc⟩
  · have := ho j hj
    exact Rd.of_own (by rw [mrks_length]; exact this)
end Go.Proofs.Ytaldacjeeccbhaa
