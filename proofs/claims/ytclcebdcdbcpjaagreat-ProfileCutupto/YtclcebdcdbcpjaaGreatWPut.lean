/-
  The document's forms, laid behind a row of one's own.
-/
import Derived.Test.YtclcebdcdbcpjaaGreatCopy
import Derived.Laws.Rows
import Derived.Test.YtclcebdcdbcpjaaGreatDigits
namespace Go.Proofs.YtclcebdcdbcpjaaGreat
open Go.RowKit

/-- A byte stored into a row of one's own. -/
theorem own_store {w : World} {base : Nat} {v : Value} {xs : List Int} (h : w.ownsRow base 5 1 v xs.length (xs.map By)) (g i : Nat) (hv : v.ownBlock = some g) (b : Int) :
    (w.setCell ⟨g, i, none⟩ (.int .u8 b)).ownsRow base 5 1 v xs.length ((xs.set i b).map By) := by
  refine ⟨by simp, ?_⟩
  rcases h.2 with ⟨rfl, h0⟩ | ⟨g', cap, cur, rfl, hb, hg, hn, hc, hs, ht⟩
  · simp [Value.ownBlock] at hv
  · simp only [Value.ownBlock, Option.some.injEq] at hv
    subst hv
    refine .inr ⟨g', cap, _, rfl, hb, heap_setCell_same w g' i cur 5 (.int .u8 b) hg, hn, hc, by simpa using hs, ?_⟩
    simp only [Nat.mul_one] at ht ⊢
    rw [Array.toList_setIfInBounds, List.take_set, ht, List.map_set]
    rfl

/-- Rows that are one's own, each in a block of its own. -/
structure Rws (w0 : World) (base : Nat) (vs : List Value) (xss : Nat → List Int) (w : World) : Prop where
  own : ∀ k, k < vs.length → w.ownsRow base 5 1 (vs.getD k (.slice none 0 0)) (xss k).length ((xss k).map By)
  ap : ∀ k k' b, k < vs.length → k' < vs.length → k ≠ k' → (vs.getD k (.slice none 0 0)).ownBlock = some b → (vs.getD k' (.slice none 0 0)).ownBlock ≠ some b
  fr : Fr (fun b => ∃ k, k < vs.length ∧ (vs.getD k (.slice none 0 0)).ownBlock = some b) w0 w
def upd (xss : Nat → List Int) (k : Nat) (xs : List Int) : Nat → List Int := fun k' => if k' = k then xs else xss k'
theorem own_set_far {w : World} {base : Nat} {v : Value} {n : Nat} {xs : List Value} (h : w.ownsRow base 5 1 v n xs) (p : Addr) (hp : v.ownBlock ≠ some p.block) (u : Value) : (w.setCell p u).ownsRow base 5 1 v n xs := by
  refine ⟨h.1, ?_⟩
  rcases h.2 with h0 | ⟨g, cap, cur, rfl, hb, hg, hn, hc, hs, ht⟩
  · exact .inl h0
  · exact .inr ⟨g, cap, cur, rfl, hb, by rw [Below.heap_setCell _ _ _ _ (fun e => hp (by rw [← e]; rfl))]; exact hg, hn, hc, hs, ht⟩
theorem Rws.store {w0 w : World} {base : Nat} {vs : List Value} {xss : Nat → List Int} (h : Rws w0 base vs xss w) (k i g : Nat) (hk : k < vs.length) (hv : (vs.getD k (.slice none 0 0)).ownBlock = some g) (b : Int) :
    Rws w0 base vs (upd xss k ((xss k).set i b)) (w.setCell ⟨g, i, none⟩ (.int .u8 b)) := by
  refine ⟨fun k' hk' => ?_, h.ap, Fr.setCell h.fr ⟨g, i, none⟩ (.inr ⟨k, hk, hv⟩) _⟩
  unfold upd
  by_cases e : k' = k
  · subst e
    rw [if_pos rfl, List.length_set]
    exact own_store (h.own k' hk') g i hv b
  · rw [if_neg e]
    exact own_set_far (h.own k' hk') ⟨g, i, none⟩ (h.ap k k' g hk hk' (Ne.symm e) hv) _
/-- The mark of a place. -/
def mrk (k i : Nat) : Int := (37 * ((k : Int) + 1) + (i : Int)) % 256
/-- So many rows are marked, and so much of the next. -/
structure Mkd (w0 : World) (base : Nat) (vs : List Value) (ns : Nat → Nat) (k i : Nat) (w : World) : Prop where
  ex : ∃ xss, Rws w0 base vs xss w ∧ (∀ k', (xss k').length = ns k') ∧ (∀ k', k' < k → ∀ j, j < ns k' → (xss k').getD j 0 = mrk k' j) ∧ ∀ j, j < i → (xss k).getD j 0 = mrk k j
theorem Mkd.next {w0 w : World} {base : Nat} {vs : List Value} {ns : Nat → Nat} {k : Nat} (h : Mkd w0 base vs ns k (ns k) w) : Mkd w0 base vs ns (k + 1) 0 w := by
  obtain ⟨xss, h1, h2, h3, h4⟩ := h.ex
  refine ⟨xss, h1, h2, fun k' hk' j hj => ?_, fun j hj => absurd hj (by omega)⟩
  rcases Nat.lt_or_ge k' k with q | q
  · exact h3 k' q j hj
  · obtain rfl : k' = k := by omega
    exact h4 j hj
theorem Mkd.step {w0 w : World} {base : Nat} {vs : List Value} {ns : Nat → Nat} {k i g : Nat} (h : Mkd w0 base vs ns k i w) (hk : k < vs.length) (hi : i < ns k) (hv : (vs.getD k (.slice none 0 0)).ownBlock = some g) : Mkd w0 base vs ns k (i + 1) (w.setCell ⟨g, i, none⟩ (.int .u8 (mrk k i))) := by
  obtain ⟨xss, h1, h2, h3, h4⟩ := h.ex
  refine ⟨_, h1.store k i g hk hv (mrk k i), fun k' => ?_, fun k' hk' j hj => ?_, fun j hj => ?_⟩
  · unfold upd
    by_cases e : k' = k
    · subst e; rw [if_pos rfl, List.length_set]; exact h2 k'
    · rw [if_neg e]; exact h2 k'
  · unfold upd
    rw [if_neg (by omega)]
    exact h3 k' hk' j hj
  · unfold upd
    rw [if_pos rfl]
    have hl : i < (xss k).length := by rw [h2]; exact hi
    by_cases e : j = i
    · subst e; simp [List.getD, hl]
    · have := h4 j (by omega)
      simp only [List.getD, List.getElem?_set_ne (Ne.symm e)] at this ⊢
      exact this
/-- What is read and written there. -/
theorem Mkd.cell {w0 w : World} {base : Nat} {vs : List Value} {ns : Nat → Nat} {k i : Nat} (h : Mkd w0 base vs ns k i w) (hk : k < vs.length) : ∃ a cap, vs.getD k (.slice none 0 0) = .slice a (ns k) cap ∧
    (i < ns k → ∃ g z, a = some ⟨g, 0, none⟩ ∧ (vs.getD k (.slice none 0 0)).ownBlock = some g ∧ w.cell? ⟨g, i, none⟩ = some (.int .u8 z) ∧ w.frozen? ⟨g, i, none⟩ = false) := by
  obtain ⟨xss, h1, h2, _, _⟩ := h.ex
  have ho := h1.own k hk
  have hl := h2 k
  have hcs := fun g hg => World.ownsRow.cells ho (g := g) hg
  rcases ho.2 with ⟨e, h0⟩ | ⟨g, cap, cur, e, hb, hg, hn, hc, hs, ht⟩
  · exact ⟨none, 0, by rw [e, ← hl, h0], fun hi => by omega⟩
  · refine ⟨some ⟨g, 0, none⟩, cap, by rw [e, ← hl], fun hi => ⟨g, (xss k).getD i 0, rfl, by rw [e]; rfl, ?_, ?_⟩⟩
    · have := hcs g (by rw [e]; rfl) i (By ((xss k).getD i 0)) (by rw [← hl] at hi; simp [List.getD, hi])
      rw [addr_add0] at this
      exact this
    · simp only [World.frozen?, hg]; simp


/-- A byte appended to a row of one's own: the new row, where it lies, and THE OLD ROW READS AS IT DID. -/
theorem run_append_keep (w : World) (base : Nat) (ty : TypeId) (v : Value) (bs : List Int) (hown : w.ownsRow base 5 1 v bs.length (bs.map By)) (a : Addr) (c : Nat) (b : Int)
    (hnews : ∀ j u, [By b][j]? = some u → w.cell? (a.add j) = some u) (hN : bs.length + 1 ≤ 140737488355328) (hbase : base ≤ w.heap.size) :
    ∃ v' w', (Builtin.append_ #[22, 22] ty #[v, .slice (some a) 1 c]).run Tryz.prog w = .ok v' w' ∧ w'.ownsRow base 5 1 v' (bs.length + 1) (bs.map By ++ [By b]) ∧ w.grownBy w' v.ownBlock ∧
      (v'.ownBlock = v.ownBlock ∨ v'.ownBlock = some w.heap.size) ∧ Rd w' v bs := by
  obtain ⟨i0, hi0, hz0, hz1, hz2⟩ := info_parts Tryz.info5
  obtain ⟨v', w', hr, ho, hg, _, hat⟩ := run_append_own_at (P := Tryz.prog) w base 22 ty 5 i0 (.int .u8 0) 1 1 Tryz.underlying22 hi0 hz0 hz1 hz2 rfl (by decide) v bs.length (bs.map By) hown a 1 c [By b] rfl hnews (by simp [By, Value.oneCell']) (by unfold maxLen; omega) (by omega) hbase
  refine ⟨v', w', hr, ho, hg, hat, ?_⟩
  have hR := Rd.of_own hown
  rcases hown.2 with ⟨rfl, h0⟩ | ⟨g, cap, cur, rfl, hbg, hgc, hnc, hcm, hcs, htake⟩
  · exact .inl ⟨rfl, List.eq_nil_of_length_eq_zero h0⟩
  · have hlt : g < w.heap.size := (hown.lt g rfl).2
    by_cases hroom : bs.length + 1 ≤ cap
    · -- in place
      have hvb : v'.ownBlock = some g := by
        have hr2 := run_append_room (P := Tryz.prog) w 22 ty 5 i0 Tryz.underlying22 hi0 g bs.length cap cur hgc a 1 c [By b] (by rw [hz1]; rfl) hnews (by simp [By, Value.oneCell']) hroom (by rw [hz1]; simp; omega)
        rw [hr] at hr2
        simp only [Result.ok.injEq] at hr2
        rw [hr2.1]; rfl
      have hc := ho.cells (g := g) hvb
      refine .inr ⟨g, 0, cap, rfl, hnc, hcm, Nat.lt_of_lt_of_le hlt hg.size, fun i hi => ?_⟩
      have := hc i (By (bs.getD i 0)) (by rw [List.getElem?_append_left (by simpa using hi)]; simp [List.getD, hi])
      rw [addr_add] at this
      exact this
    · -- moved
      have holds : ∀ j u, (bs.map By)[j]? = some u → w.cell? ((⟨g, 0, none⟩ : Addr).add j) = some u := hown.cells (g := g) rfl
      have hr2 := run_append_grow (P := Tryz.prog) w 22 ty 5 i0 (.int .u8 0) Tryz.underlying22 hi0 hz0 ⟨g, 0, none⟩ bs.length cap (bs.map By) (by rw [hz1]; simp) holds a 1 c [By b] (by rw [hz1]; rfl) hnews (by omega) (by omega) (growslice_fits (by omega) (by rw [hz2]; omega))
      rw [hr] at hr2
      simp only [Result.ok.injEq] at hr2
      rw [hr2.2]
      exact hR.keep (S := fun _ => False) ((Fr.refl _ w).drew.alloc _) (by simp)
theorem wpList_append_keep {w : World} {ops : Array Oper} {rest : List Oper} {o : Oper} {a : Act} {Q : Exit → Act → World → Prop} (hgd : o.guard = none) (s x : Operand)
    (ho : o.op = .call { callee := .builtin .append, args := #[s, x], argTypes := #[22, 22] }) (base : Nat) (v : Value) (bs : List Int) (hs : a.eval s = v) (hown : w.ownsRow base 5 1 v bs.length (bs.map By))
    (ad : Addr) (c : Nat) (b : Int) (hx : a.eval x = .slice (some ad) 1 c) (hnews : ∀ j u, [By b][j]? = some u → w.cell? (ad.add j) = some u) (hN : bs.length + 1 ≤ 140737488355328) (hbase : base ≤ w.heap.size)
    (h : ∀ v' w', w'.ownsRow base 5 1 v' (bs.length + 1) (bs.map By ++ [By b]) → w.grownBy w' v.ownBlock → (v'.ownBlock = v.ownBlock ∨ v'.ownBlock = some w.heap.size) → Rd w' v bs → wpList Tryz.prog ops Q rest (a.put o.dst v') w') :
    wpList Tryz.prog ops Q (o :: rest) a w := by
  refine wpList_plain hgd fun K hK => ?_
  obtain ⟨v', w', hr, h2, h3, h4, h5⟩ := run_append_keep w base o.type v bs hown ad c b hnews hN hbase
  unfold Oper.wp execOp
  simp only [ho, resolve, invoke, builtin, Sem.run_bind, Sem.run_pure, Result.andThen_ok, List.map_toArray, List.map_cons, List.map_nil, hs, hx, hr]
  exact hK _ _ (h v' w' h2 h3 h4 h5)

/-- The marks of a row. -/
def mrks (k n : Nat) : List Int := (List.range n).map (mrk k)
theorem mrks_succ (k n : Nat) : mrks k (n + 1) = mrks k n ++ [mrk k n] := by simp [mrks, List.range_succ]
theorem mrks_length (k n : Nat) : (mrks k n).length = n := by simp [mrks]
theorem mrks_getD (k n i : Nat) (h : i < n) : (mrks k n).getD i 0 = mrk k i := by simp [mrks, List.getD, h]
theorem mrks_of (k n : Nat) (xs : List Int) (hl : xs.length = n) (h : ∀ j, j < n → xs.getD j 0 = mrk k j) : xs = mrks k n := by
  apply List.ext_getElem
  · rw [hl, mrks_length]
  · intro i h1 h2
    have e := h i (by omega)
    rw [List.getD, List.getElem?_eq_getElem h1] at e
    simp only [Option.getD_some] at e
    rw [e]
    simp [mrks]

/-- Of a row that grew in place, or moved, the beginning reads as it did. -/
theorem Rd.begin {w : World} {g n cap n2 cap2 : Nat} {k : Nat} (h : Rd w (.slice (some ⟨g, 0, none⟩) n2 cap2) (mrks k n2)) (hn : n ≤ n2) (hc : n ≤ cap) (hm : cap ≤ maxLen) (hg : g < w.heap.size) : Rd w (.slice (some ⟨g, 0, none⟩) n cap) (mrks k n) := by
  refine .inr ⟨g, 0, cap, by rw [mrks_length], by rw [mrks_length]; exact hc, hm, hg, fun i hi => ?_⟩
  rw [mrks_length] at hi
  obtain ⟨b, off, e, _, hcell⟩ := h.at i (by rw [mrks_length]; omega)
  simp only [Option.some.injEq, Addr.mk.injEq, and_true] at e
  obtain ⟨rfl, rfl⟩ := e
  rw [hcell, mrks_getD k n2 i (by omega), mrks_getD k n i hi]


def updV (f : Nat → Value) (k : Nat) (x : Value) : Nat → Value := fun j => if j = k then x else f j
theorem updV_at (f : Nat → Value) (k : Nat) (x : Value) : updV f k x k = x := if_pos rfl
theorem updV_ne (f : Nat → Value) {k j : Nat} (x : Value) (h : j ≠ k) : updV f k x j = f j := if_neg h
theorem updV_range (f : Nat → Value) (k : Nat) (x : Value) : (List.range k).map (updV f k x) = (List.range k).map f := by
  apply List.map_congr_left
  intro j hj
  rw [List.mem_range] at hj
  exact updV_ne f x (by omega)

/-- How long row j is. -/
def gln (ns : Nat → Nat) (k i j : Nat) : Nat := if j < k then ns j + 64 else if j = k then ns j + i else ns j
theorem gln_at (ns : Nat → Nat) (k i : Nat) : gln ns k i k = ns k + i := by unfold gln; rw [if_neg (by omega), if_pos rfl]
theorem gln_next (ns : Nat → Nat) (k j : Nat) : gln ns k 64 j = gln ns (k + 1) 0 j := by
  unfold gln
  by_cases h : j < k
  · rw [if_pos h, if_pos (by omega)]
  · by_cases e : j = k
    · rw [if_neg h, if_pos e, if_pos (by omega)]
    · rw [if_neg h, if_neg e, if_neg (by omega)]
      split <;> omega
theorem gln_step (ns : Nat → Nat) (k i j : Nat) (h : j ≠ k) : gln ns k (i + 1) j = gln ns k i j := by
  unfold gln
  by_cases h1 : j < k
  · rw [if_pos h1, if_pos h1]
  · rw [if_neg h1, if_neg h1, if_neg h, if_neg h]

/-- What stays so: the rows that came in, and where they lie. -/
structure GC (w0 : World) (vs : List Value) (ns : Nat → Nat) : Prop where
  lt : ∀ j b, j < vs.length → (vs.getD j (.slice none 0 0)).ownBlock = some b → b < w0.heap.size
  ap : ∀ j j' b, j < vs.length → j' < vs.length → j ≠ j' → (vs.getD j (.slice none 0 0)).ownBlock = some b → (vs.getD j' (.slice none 0 0)).ownBlock ≠ some b
  sh : ∀ j, j < vs.length → (vs.getD j (.slice none 0 0) = .slice none 0 0 ∧ ns j = 0) ∨ ∃ g cap, vs.getD j (.slice none 0 0) = .slice (some ⟨g, 0, none⟩) (ns j) cap ∧ ns j ≤ cap ∧ cap ≤ maxLen

/-- The rows up to k are grown, row k by i. -/
structure Gr (w0 : World) (base : Nat) (vs : List Value) (ns : Nat → Nat) (k i : Nat) (cur : Nat → Value) (gs : Value) (w : World) : Prop where
  own : ∀ j, j < vs.length → w.ownsRow base 5 1 (cur j) (gln ns k i j) ((mrks j (gln ns k i j)).map By)
  ap : ∀ j j' b, j < vs.length → j' < vs.length → j ≠ j' → (cur j).ownBlock = some b → (cur j').ownBlock ≠ some b
  old : ∀ j, j < vs.length → Rd w (vs.getD j (.slice none 0 0)) (mrks j (ns j))
  cor : ∀ j b, j < vs.length → (cur j).ownBlock = some b → (vs.getD j (.slice none 0 0)).ownBlock = some b ∨ w0.heap.size ≤ b
  gown : w.ownsRow w0.heap.size 22 1 gs k ((List.range k).map cur)
  gap : ∀ j b, j < vs.length → gs.ownBlock = some b → (cur j).ownBlock ≠ some b
  fr : Fr (fun b => ∃ j, j < vs.length ∧ (vs.getD j (.slice none 0 0)).ownBlock = some b) w0 w

theorem own_keepT {w w' : World} {base : Nat} {e : TypeId} {v : Value} {n : Nat} {xs : List Value} (h : w.ownsRow base e 1 v n xs) (hb : ∀ g, v.ownBlock = some g → w'.heap[g]? = w.heap[g]?) : w'.ownsRow base e 1 v n xs := by
  obtain ⟨h1, h2⟩ := h
  refine ⟨h1, ?_⟩
  rcases h2 with h2 | ⟨g, cap, cur, hv, hg, hh, r⟩
  · exact Or.inl h2
  · exact Or.inr ⟨g, cap, cur, hv, hg, by rw [hb g (by rw [hv]; rfl)]; exact hh, r⟩

theorem Gr.vap {w0 w : World} {base : Nat} {vs : List Value} {ns : Nat → Nat} {k i : Nat} {cur : Nat → Value} {gs : Value} (h : Gr w0 base vs ns k i cur gs w) (c : GC w0 vs ns) {j j' b : Nat} (hj : j < vs.length) (hj' : j' < vs.length) (hn : j ≠ j')
    (hb : (vs.getD j (.slice none 0 0)).ownBlock = some b) : (cur j').ownBlock ≠ some b := by
  intro e
  have hl := c.lt j b hj hb
  rcases h.cor j' b hj' e with q | q
  · exact c.ap j j' b hj hj' hn hb q
  · omega

/-- What a row grown in place, or moved, leaves of the others. -/
theorem Gr.step {w0 w w2 : World} {base : Nat} {vs : List Value} {ns : Nat → Nat} {k i : Nat} {cur : Nat → Value} {gs v' : Value} {o : Obj} (h : Gr w0 base vs ns k i cur gs w) (c : GC w0 vs ns) (hk : k < vs.length)
    (hown : w2.ownsRow base 5 1 v' (ns k + (i + 1)) ((mrks k (ns k + (i + 1))).map By)) (hg : (w.alloc o).grownBy w2 (cur k).ownBlock) (hat : v'.ownBlock = (cur k).ownBlock ∨ v'.ownBlock = some (w.heap.size + 1))
    (hR : Rd w2 (cur k) (mrks k (ns k + i))) : Gr w0 base vs ns k (i + 1) (updV cur k v') gs w2 := by
  have hz : (w.alloc o).heap.size = w.heap.size + 1 := by simp
  have hsz := hg.size
  have hblk : ∀ b, b < w.heap.size → (cur k).ownBlock ≠ some b → w2.heap[b]? = w.heap[b]? := fun b hb hn =>
    (hg.block b (by omega) (fun e => hn e.symm)).trans (Below.heap_alloc _ _ _ hb)
  refine ⟨fun j hj => ?_, fun j j' b hj hj' hn h1 h2 => ?_, fun j hj => ?_, fun j b hj hb => ?_, ?_, fun j b hj hb e => ?_, ?_⟩
  · by_cases e : j = k
    · subst e
      rw [updV_at, gln_at]
      exact hown
    · rw [updV_ne _ _ e, gln_step _ _ _ _ e]
      exact own_keepT (h.own j hj) (fun g hg2 => hblk g ((h.own j hj).lt g hg2).2 (fun e2 => h.ap j k g hj hk e hg2 e2))
  · by_cases e : j = k
    · subst e
      rw [updV_at] at h1
      rw [updV_ne _ _ (fun e => hn e.symm)] at h2
      rcases hat with q | q
      · exact h.ap j j' b hj hj' hn (q.symm.trans h1) h2
      · have := ((h.own j' hj').lt b h2).2
        rw [q] at h1
        simp at h1
        omega
    · rw [updV_ne _ _ e] at h1
      by_cases e2 : j' = k
      · subst e2
        rw [updV_at] at h2
        rcases hat with q | q
        · exact h.ap j j' b hj hj' hn h1 (q.symm.trans h2)
        · have := ((h.own j hj).lt b h1).2
          rw [q] at h2
          simp at h2
          omega
      · rw [updV_ne _ _ e2] at h2
        exact h.ap j j' b hj hj' hn h1 h2
  · have hold := h.old j hj
    rcases c.sh j hj with ⟨e1, e2⟩ | ⟨g, cap, e1, hc1, hc2⟩
    · rw [e1, e2]
      exact .inl ⟨rfl, rfl⟩
    · have hvb : (vs.getD j (.slice none 0 0)).ownBlock = some g := by rw [e1]; rfl
      have hgl := c.lt j g hj hvb
      have hgw : g < w.heap.size := Nat.lt_of_lt_of_le hgl h.fr.size
      by_cases e : (cur k).ownBlock = some g
      · have ejk : j = k := by
          by_cases ejk : j = k
          · exact ejk
          · exact absurd e (h.vap c hj hk ejk hvb)
        subst ejk
        rw [e1]
        have hck := (h.own j hj).2
        rw [gln_at] at hck
        rcases hck with ⟨q, _⟩ | ⟨g2, cap2, cur2, q, _⟩
        · rw [q] at e
          simp [Value.ownBlock] at e
        · rw [q] at e hR
          simp only [Value.ownBlock, Option.some.injEq] at e
          subst e
          exact hR.begin (by omega) hc1 hc2 (by omega)
      · have hb : w2.heap[g]? = w.heap[g]? := hblk g hgw e
        rw [e1] at hold ⊢
        rcases hold with ⟨q, _⟩ | ⟨b2, off2, cap2, q, q1, q2, q3, q4⟩
        · cases q
        · simp only [Value.slice.injEq, Option.some.injEq, Addr.mk.injEq] at q
          refine .inr ⟨g, 0, cap, by rw [mrks_length], by rw [mrks_length]; exact hc1, hc2, by omega, fun x hx => ?_⟩
          have := q4 x hx
          obtain ⟨⟨rfl, rfl, _⟩, _, rfl⟩ := q
          exact (World.cell?_of_block (a := ⟨g, 0 + x, none⟩) hb).trans this
  · by_cases e : j = k
    · subst e
      rw [updV_at] at hb
      rcases hat with q | q
      · exact h.cor j b hj (q.symm.trans hb)
      · rw [q] at hb
        simp at hb
        have := h.fr.size
        right; omega
    · rw [updV_ne _ _ e] at hb
      exact h.cor j b hj hb
  · rw [updV_range]
    exact own_keepT h.gown (fun g hg2 => hblk g (h.gown.lt g hg2).2 (h.gap k g hk hg2))
  · by_cases e2 : j = k
    · subst e2
      rw [updV_at] at e
      rcases hat with q | q
      · exact h.gap j b hj hb (q.symm.trans e)
      · have := (h.gown.lt b hb).2
        rw [q] at e
        simp at e
        omega
    · rw [updV_ne _ _ e2] at e
      exact h.gap j b hj hb e
  · refine (h.fr.alloc o).grown hg (fun b e => ?_)
    rcases h.cor k b hk e with q | q
    · exact .inr ⟨k, hk, q⟩
    · exact .inl q

/-- The grown row is laid behind the others. -/
theorem Gr.push {w0 w w2 : World} {base : Nat} {vs : List Value} {ns : Nat → Nat} {k : Nat} {cur : Nat → Value} {gs gs' : Value} {o : Obj} (h : Gr w0 base vs ns k 64 cur gs w) (c : GC w0 vs ns)
    (hown : w2.ownsRow w0.heap.size 22 1 gs' (k + 1) ((List.range k).map cur ++ [cur k])) (hg : (w.alloc o).grownBy w2 gs.ownBlock) (hat : gs'.ownBlock = gs.ownBlock ∨ gs'.ownBlock = some (w.heap.size + 1)) : Gr w0 base vs ns (k + 1) 0 cur gs' w2 := by
  have hz : (w.alloc o).heap.size = w.heap.size + 1 := by simp
  have hsz := hg.size
  have hblk : ∀ b, b < w.heap.size → gs.ownBlock ≠ some b → w2.heap[b]? = w.heap[b]? := fun b hb hn =>
    (hg.block b (by omega) (fun e => hn e.symm)).trans (Below.heap_alloc _ _ _ hb)
  have hgl : ∀ b, gs.ownBlock = some b → w0.heap.size ≤ b := fun b e => (h.gown.lt b e).1
  refine ⟨fun j hj => ?_, h.ap, fun j hj => ?_, h.cor, ?_, fun j b hj hb e => ?_, ?_⟩
  · rw [← gln_next]
    exact own_keepT (h.own j hj) (fun g hg2 => hblk g ((h.own j hj).lt g hg2).2 (fun e => h.gap j g hj e hg2))
  · have hold := h.old j hj
    rcases c.sh j hj with ⟨e1, e2⟩ | ⟨g, cap, e1, hc1, hc2⟩
    · rw [e1, e2]
      exact .inl ⟨rfl, rfl⟩
    · have hvb : (vs.getD j (.slice none 0 0)).ownBlock = some g := by rw [e1]; rfl
      have hgl2 := c.lt j g hj hvb
      have hgw : g < w.heap.size := Nat.lt_of_lt_of_le hgl2 h.fr.size
      have hb : w2.heap[g]? = w.heap[g]? := hblk g hgw (fun e => by have := hgl g e; omega)
      rw [e1] at hold ⊢
      rcases hold with ⟨q, _⟩ | ⟨b2, off2, cap2, q, q1, q2, q3, q4⟩
      · cases q
      · simp only [Value.slice.injEq, Option.some.injEq, Addr.mk.injEq] at q
        refine .inr ⟨g, 0, cap, by rw [mrks_length], by rw [mrks_length]; exact hc1, hc2, by omega, fun x hx => ?_⟩
        have := q4 x hx
        obtain ⟨⟨rfl, rfl, _⟩, _, rfl⟩ := q
        exact (World.cell?_of_block (a := ⟨g, 0 + x, none⟩) hb).trans this
  · rw [List.range_succ, List.map_append]
    exact hown
  · rcases hat with q | q
    · exact h.gap j b hj (q.symm.trans hb) e
    · have := ((h.own j hj).lt b e).2
      rw [q] at hb
      simp at hb
      omega
  · exact (h.fr.alloc o).grown hg (fun b e => .inl (hgl b e))

/-- Ahead of the first growing. -/
theorem Gr.start {w0 w : World} {base : Nat} {vs : List Value} {ns : Nat → Nat} (h : Mkd w0 base vs ns vs.length 0 w) (hlt : ∀ j b, j < vs.length → (vs.getD j (.slice none 0 0)).ownBlock = some b → b < w0.heap.size) :
    GC w0 vs ns ∧ Gr w0 base vs ns 0 0 (fun j => vs.getD j (.slice none 0 0)) (.slice none 0 0) w := by
  obtain ⟨xss, h1, h2, h3, _⟩ := h.ex
  have hx : ∀ j, j < vs.length → xss j = mrks j (ns j) := fun j hj => mrks_of j (ns j) (xss j) (h2 j) (fun i hi => h3 j hj i hi)
  have hg0 : ∀ j, gln ns 0 0 j = ns j := fun j => by unfold gln; rw [if_neg (by omega)]; split <;> omega
  have ho : ∀ j, j < vs.length → w.ownsRow base 5 1 (vs.getD j (.slice none 0 0)) (ns j) ((mrks j (ns j)).map By) := fun j hj => by
    have := h1.own j hj
    rw [hx j hj, mrks_length] at this
    exact this
  refine ⟨⟨hlt, h1.ap, fun j hj => ?_⟩, ⟨fun j hj => by rw [hg0]; exact ho j hj, h1.ap, fun j hj => ?_, fun j b hj hb => .inl hb, World.ownsRow_nil _ _ _ _, fun j b hj hb => by simp [Value.ownBlock] at hb, h1.fr⟩⟩
  · rcases (ho j hj).2 with ⟨e, h0⟩ | ⟨g, cap, cur, e, hb, hg, hn, hc, hs, ht⟩
    · exact .inl ⟨e, h0⟩
    · exact .inr ⟨g, cap, e, hn, hc⟩
  · have := ho j hj
    exact Rd.of_own (by rw [mrks_length]; exact this)


/-- A slice of slices reads so, in a block that is none of the rows'. -/
def RdV (w : World) (v : Value) (vs : List Value) : Prop :=
  ∃ a cap, v = .slice a vs.length cap ∧ ∀ i, i < vs.length → ∃ b off, a = some ⟨b, off, none⟩ ∧ b < w.heap.size ∧ w.cell? ⟨b, off + i, none⟩ = some (vs.getD i (.slice none 0 0)) ∧ ∀ k, k < vs.length → (vs.getD k (.slice none 0 0)).ownBlock ≠ some b

theorem Tryz.info22 : (Tryz.prog.info? 22).map (fun i => (i.zero, i.size, i.bytes)) = some (some (.slice none 0 0), 1, 24) := by kernel_rfl
/-- The shape of a row that came in. -/
theorem GC.shape {w0 : World} {vs : List Value} {ns : Nat → Nat} (c : GC w0 vs ns) {j : Nat} (hj : j < vs.length) : ∃ a cap, vs.getD j (.slice none 0 0) = .slice a (ns j) cap := by
  rcases c.sh j hj with ⟨e1, e2⟩ | ⟨g, cap, e1, _⟩
  · exact ⟨none, 0, by rw [e1, e2]⟩
  · exact ⟨_, cap, e1⟩
theorem row_shape {w : World} {base : Nat} {e : TypeId} {v : Value} {n : Nat} {xs : List Value} (h : w.ownsRow base e 1 v n xs) : ∃ a cap, v = .slice a n cap := by
  rcases h.2 with ⟨e1, e2⟩ | ⟨g, cap, cur, e1, _⟩
  · exact ⟨none, 0, by rw [e1, e2]⟩
  · exact ⟨_, cap, e1⟩



/-- A row of one's own that has grown out of l0: no block but l0's is touched, and new ones. -/
structure RG (base : Nat) (l0 : Value) (w0 : World) (l : Value) (bs : List Int) (w : World) : Prop where
  own : w.ownsRow base 5 1 l bs.length (bs.map By)
  fr : Fr (fun b => l0.ownBlock = some b) w0 w
  at' : l.ownBlock = l0.ownBlock ∨ ∃ b, l.ownBlock = some b ∧ w0.heap.size ≤ b
theorem RG.start {base : Nat} {l0 : Value} {w0 : World} {bs : List Int} (h : w0.ownsRow base 5 1 l0 bs.length (bs.map By)) : RG base l0 w0 l0 bs w0 := ⟨h, Fr.refl _ _, .inl rfl⟩
theorem RG.step {base : Nat} {l0 : Value} {w0 : World} {l v' : Value} {bs : List Int} {w w2 : World} {o : Obj} {n : Nat} {xs : List Value} {z : Int} (h : RG base l0 w0 l bs w) (hown : w2.ownsRow base 5 1 v' n xs) (hn : n = bs.length + 1) (hx : xs = bs.map By ++ [.int .u8 z])
    (hg : (w.alloc o).grownBy w2 l.ownBlock) (hat : v'.ownBlock = l.ownBlock ∨ v'.ownBlock = some (w.heap.size + 1)) : RG base l0 w0 v' (bs ++ [z]) w2 := by
  subst hn hx
  have hs := h.fr.size
  refine ⟨by simpa [By] using hown, (h.fr.alloc o).grown hg (fun b e => ?_), ?_⟩
  · rcases h.at' with q | ⟨b2, q, hb2⟩
    · exact .inr (q.symm.trans e)
    · rw [q] at e
      simp only [Option.some.injEq] at e
      omega
  · rcases hat with q | q
    · rcases h.at' with r | ⟨b, r, hb⟩
      · exact .inl (q.trans r)
      · exact .inr ⟨b, q.trans r, hb⟩
    · exact .inr ⟨_, q, by omega⟩
/-- One growing behind the other. -/
theorem RG.trans {base : Nat} {l0 l1 l2 : Value} {w0 w1 w2 : World} {b1 b2 : List Int} (h : RG base l0 w0 l1 b1 w1) (k : RG base l1 w1 l2 b2 w2) : RG base l0 w0 l2 b2 w2 := by
  have hs := h.fr.size
  refine ⟨k.own, ⟨k.fr.os.trans h.fr.os, k.fr.tape.trans h.fr.tape, k.fr.output.trans h.fr.output, Nat.le_trans hs k.fr.size, fun i hi hn => ?_⟩, ?_⟩
  · refine (k.fr.block i (by omega) (fun e => ?_)).trans (h.fr.block i hi hn)
    rcases h.at' with q | ⟨b, q, hb⟩
    · exact hn (q.symm.trans e)
    · rw [q] at e
      simp only [Option.some.injEq] at e
      omega
  · rcases k.at' with q | ⟨b, q, hb⟩
    · rcases h.at' with r | ⟨b, r, hb⟩
      · exact .inl (q.trans r)
      · exact .inr ⟨b, q.trans r, hb⟩
    · exact .inr ⟨b, q, by omega⟩
theorem RG.alloc {base : Nat} {l0 l : Value} {w0 w : World} {bs : List Int} {o : Obj} (h : RG base l0 (w0.alloc o) l bs w) : RG base l0 w0 l bs w := by
  refine ⟨h.own, ⟨h.fr.os, h.fr.tape, h.fr.output, Nat.le_trans (by simp) h.fr.size, fun i hi hn => (h.fr.block i (by simp; omega) hn).trans (Below.heap_alloc _ _ _ hi)⟩, ?_⟩
  rcases h.at' with q | ⟨b, q, hb⟩
  · exact .inl q
  · exact .inr ⟨b, q, by simp at hb; omega⟩

end Go.Proofs.YtclcebdcdbcpjaaGreat
