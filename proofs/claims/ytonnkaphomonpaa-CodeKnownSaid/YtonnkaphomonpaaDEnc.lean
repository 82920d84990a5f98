/-
  The document's Encode.
-/
import Derived.Test.YtonnkaphomonpaaKept
import Derived.Laws.Rows
import Derived.Test.YtonnkaphomonpaaDigits
import Derived.Test.YtonnkaphomonpaaJoins
namespace Go.Proofs.Ytonnkaphomonpaa
open Go.RowKit

/-- A byte stored into a row of one's own. -/
theorem own_store {w : World} {base : Nat} {v : Value} {xs : List Int} (h : w.ownsRow base 5 1 v xs.length (xs.map By)) (g i : Nat) (hv : v.ownBlock = some g) (b : Int) :
    (w.setCell ⟨g, i, none⟩ (.int .u8 b)).ownsRow base 5 1 v xs.length ((xs.set i b).map By) := by
  refine ⟨by simp, ?_⟩
  rcases h.2 with ⟨rfl, h0⟩ | ⟨g', cap, cur, rfl, hb, hg, hn, hc, hs, ht⟩
  · simp [Value.ownBlock] at hv
  · simp only [Value.ownBlock, Option.some.injEq] at hv
    subst hv
    refine .inr ⟨g', cap, _, rfl, hb, heap_setCell_same w g' i cur 5 (.int .u8 b) hg, hn, hc, by simpa using hs, ?_⟩
    simp only [Nat.mul_one] at ht ⊢
    rw [Array.toList_setIfInBounds, List.take_set, ht, List.map_set]
    rfl

/-- Rows that are one's own, each in a block of its own. -/
structure Rws (w0 : World) (base : Nat) (vs : List Value) (xss : Nat → List Int) (w : World) : Prop where
  own : ∀ k, k < vs.length → w.ownsRow base 5 1 (vs.getD k (.slice none 0 0)) (xss k).length ((xss k).map By)
  ap : ∀ k k' b, k < vs.length → k' < vs.length → k ≠ k' → (vs.getD k (.slice none 0 0)).ownBlock = some b → (vs.getD k' (.slice none 0 0)).ownBlock ≠ some b
  fr : Fr (fun b => ∃ k, k < vs.length ∧ (vs.getD k (.slice none 0 0)).ownBlock = some b) w0 w
def upd (xss : Nat → List Int) (k : Nat) (xs : List Int) : Nat → List Int := fun k' => if k' = k then xs else xss k'
theorem own_set_far {w : World} {base : Nat} {v : Value} {n : Nat} {xs : List Value} (h : w.ownsRow base 5 1 v n xs) (p : Addr) (hp : v.ownBlock ≠ some p.block) (u : Value) : (w.setCell p u).ownsRow base 5 1 v n xs := by
  refine ⟨h.1, ?_⟩
  rcases h.2 with h0 | ⟨g, cap, cur, rfl, hb, hg, hn, hc, hs, ht⟩
  · exact .inl h0
  · exact .inr ⟨g, cap, cur, rfl, hb, by rw [Below.heap_setCell _ _ _ _ (fun e => hp (by rw [← e]; rfl))]; exact hg, hn, hc, hs, ht⟩
theorem Rws.store {w0 w : World} {base : Nat} {vs : List Value} {xss : Nat → List Int} (h : Rws w0 base vs xss w) (k i g : Nat) (hk : k < vs.length) (hv : (vs.getD k (.slice none 0 0)).ownBlock = some g) (b : Int) :
    Rws w0 base vs (upd xss k ((xss k).set i b)) (w.setCell ⟨g, i, none⟩ (.int .u8 b)) := by
  refine ⟨fun k' hk' => ?_, h.ap, Fr.setCell h.fr ⟨g, i, none⟩ (.inr ⟨k, hk, hv⟩) _⟩
  unfold upd
  by_cases e : k' = k
  · subst e
    rw [if_pos rfl, List.length_set]
    exact own_store (h.own k' hk') g i hv b
  · rw [if_neg e]
    exact own_set_far (h.own k' hk') ⟨g, i, none⟩ (h.ap k k' g hk hk' (Ne.symm e) hv) _
/-- The mark of a place. -/
def mrk (k i : Nat) : Int := (37 * ((k : Int) + 1) + (i : Int)) % 256
/-- So many rows are marked, and so much of the next. -/
structure Mkd (w0 : World) (base : Nat) (vs : List Value) (ns : Nat → Nat) (k i : Nat) (w : World) : Prop where
  ex : ∃ xss, Rws w0 base vs xss w ∧ (∀ k', (xss k').length = ns k') ∧ (∀ k', k' < k → ∀ j, j < ns k' → (xss k').getD j 0 = mrk k' j) ∧ ∀ j, j < i → (xss k).getD j 0 = mrk k j
theorem Mkd.next {w0 w : World} {base : Nat} {vs : List Value} {ns : Nat → Nat} {k : Nat} (h : Mkd w0 base vs ns k (ns k) w) : Mkd w0 base vs ns (k + 1) 0 w := by
  obtain ⟨xss, h1, h2, h3, h4⟩ := h.ex
  refine ⟨xss, h1, h2, fun k' hk' j hj => ?_, fun j hj => absurd hj (by omega)⟩
  rcases Nat.lt_or_ge k' k with q | q
  · exact h3 k' q j hj
  · obtain rfl : k' = k := by omega
    exact h4 j hj
theorem Mkd.step {w0 w : World} {base : Nat} {vs : List Value} {ns : Nat → Nat} {k i g : Nat} (h : Mkd w0 base vs ns k i w) (hk : k < vs.length) (hi : i < ns k) (hv : (vs.getD k (.slice none 0 0)).ownBlock = some g) : Mkd w0 base vs ns k (i + 1) (w.setCell ⟨g, i, none⟩ (.int .u8 (mrk k i))) := by
  obtain ⟨xss, h1, h2, h3, h4⟩ := h.ex
  refine ⟨_, h1.store k i g hk hv (mrk k i), fun k' => ?_, fun k' hk' j hj => ?_, fun j hj => ?_⟩
  · unfold upd
    by_cases e : k' = k
    · subst e; rw [if_pos rfl, List.length_set]; exact h2 k'
    · rw [if_neg e]; exact h2 k'
  · unfold upd
    rw [if_neg (by omega)]
    exact h3 k' hk' j hj
  · unfold upd
    rw [if_pos rfl]
    have hl : i < (xss k).length := by rw [h2]; exact hi
    by_cases e : j = i
    · subst e; simp [List.getD, hl]
    · have := h4 j (by omega)
      simp only [List.getD, List.getElem?_set_ne (Ne.symm e)] at this ⊢
      exact this
/-- What is read and written there. -/
theorem Mkd.cell {w0 w : World} {base : Nat} {vs : List Value} {ns : Nat → Nat} {k i : Nat} (h : Mkd w0 base vs ns k i w) (hk : k < vs.length) : ∃ a cap, vs.getD k (.slice none 0 0) = .slice a (ns k) cap ∧
    (i < ns k → ∃ g z, a = some ⟨g, 0, none⟩ ∧ (vs.getD k (.slice none 0 0)).ownBlock = some g ∧ w.cell? ⟨g, i, none⟩ = some (.int .u8 z) ∧ w.frozen? ⟨g, i, none⟩ = false) := by
  obtain ⟨xss, h1, h2, _, _⟩ := h.ex
  have ho := h1.own k hk
  have hl := h2 k
  have hcs := fun g hg => World.ownsRow.cells ho (g := g) hg
  rcases ho.2 with ⟨e, h0⟩ | ⟨g, cap, cur, e, hb, hg, hn, hc, hs, ht⟩
  · exact ⟨none, 0, by rw [e, ← hl, h0], fun hi => by omega⟩
  · refine ⟨some ⟨g, 0, none⟩, cap, by rw [e, ← hl], fun hi => ⟨g, (xss k).getD i 0, rfl, by rw [e]; rfl, ?_, ?_⟩⟩
    · have := hcs g (by rw [e]; rfl) i (By ((xss k).getD i 0)) (by rw [← hl] at hi; simp [List.getD, hi])
      rw [addr_add0] at this
      exact this
    · simp only [World.frozen?, hg]; simp


/-- A byte appended to a row of one's own: the new row, where it lies, and THE OLD ROW READS AS IT DID. -/
theorem run_append_keep (w : World) (base : Nat) (ty : TypeId) (v : Value) (bs : List Int) (hown : w.ownsRow base 5 1 v bs.length (bs.map By)) (a : Addr) (c : Nat) (b : Int)
    (hnews : ∀ j u, [By b][j]? = some u → w.cell? (a.add j) = some u) (hN : bs.length + 1 ≤ 140737488355328) (hbase : base ≤ w.heap.size) :
    ∃ v' w', (Builtin.append_ #[32, 32] ty #[v, .slice (some a) 1 c]).run Try.prog w = .ok v' w' ∧ w'.ownsRow base 5 1 v' (bs.length + 1) (bs.map By ++ [By b]) ∧ w.grownBy w' v.ownBlock ∧
      (v'.ownBlock = v.ownBlock ∨ v'.ownBlock = some w.heap.size) ∧ Rd w' v bs := by
  obtain ⟨i0, hi0, hz0, hz1, hz2⟩ := info_parts Try.info5
  obtain ⟨v', w', hr, ho, hg, _, hat⟩ := run_append_own_at (P := Try.prog) w base 32 ty 5 i0 (.int .u8 0) 1 1 Try.underlying32 hi0 hz0 hz1 hz2 rfl (by decide) v bs.length (bs.map By) hown a 1 c [By b] rfl hnews (by simp [By, Value.oneCell']) (by unfold maxLen; omega) (by omega) hbase
  refine ⟨v', w', hr, ho, hg, hat, ?_⟩
  have hR := Rd.of_own hown
  rcases hown.2 with ⟨rfl, h0⟩ | ⟨g, cap, cur, rfl, hbg, hgc, hnc, hcm, hcs, htake⟩
  · exact .inl ⟨rfl, List.eq_nil_of_length_eq_zero h0⟩
  · have hlt : g < w.heap.size := (hown.lt g rfl).2
    by_cases hroom : bs.length + 1 ≤ cap
    · -- in place
      have hvb : v'.ownBlock = some g := by
        have hr2 := run_append_room (P := Try.prog) w 32 ty 5 i0 Try.underlying32 hi0 g bs.length cap cur hgc a 1 c [By b] (by rw [hz1]; rfl) hnews (by simp [By, Value.oneCell']) hroom (by rw [hz1]; simp; omega)
        rw [hr] at hr2
        simp only [Result.ok.injEq] at hr2
        rw [hr2.1]; rfl
      have hc := ho.cells (g := g) hvb
      refine .inr ⟨g, 0, cap, rfl, hnc, hcm, Nat.lt_of_lt_of_le hlt hg.size, fun i hi => ?_⟩
      have := hc i (By (bs.getD i 0)) (by rw [List.getElem?_append_left (by simpa using hi)]; simp [List.getD, hi])
      rw [addr_add] at this
      exact this
    · -- moved
      have holds : ∀ j u, (bs.map By)[j]? = some u → w.cell? ((⟨g, 0, none⟩ : Addr).add j) = some u := hown.cells (g := g) rfl
      have hr2 := run_append_grow (P := Try.prog) w 32 ty 5 i0 (.int .u8 0) Try.underlying32 hi0 hz0 ⟨g, 0, none⟩ bs.length cap (bs.map By) (by rw [hz1]; simp) holds a 1 c [By b] (by rw [hz1]; rfl) hnews (by omega) (by omega) (growslice_fits (by omega) (by rw [hz2]; omega))
      rw [hr] at hr2
      simp only [Result.ok.injEq] at hr2
      rw [hr2.2]
      exact hR.keep (S := fun _ => False) ((Fr.refl _ w).drew.alloc _) (by simp)
theorem wpList_append_keep {w : World} {ops : Array Oper} {rest : List Oper} {o : Oper} {a : Act} {Q : Exit → Act → World → Prop} (hgd : o.guard = none) (s x : Operand)
    (ho : o.op = .call { callee := .builtin .append, args := #[s, x], argTypes := #[32, 32] }) (base : Nat) (v : Value) (bs : List Int) (hs : a.eval s = v) (hown : w.ownsRow base 5 1 v bs.length (bs.map By))
    (ad : Addr) (c : Nat) (b : Int) (hx : a.eval x = .slice (some ad) 1 c) (hnews : ∀ j u, [By b][j]? = some u → w.cell? (ad.add j) = some u) (hN : bs.length + 1 ≤ 140737488355328) (hbase : base ≤ w.heap.size)
    (h : ∀ v' w', w'.ownsRow base 5 1 v' (bs.length + 1) (bs.map By ++ [By b]) → w.grownBy w' v.ownBlock → (v'.ownBlock = v.ownBlock ∨ v'.ownBlock = some w.heap.size) → Rd w' v bs → wpList Try.prog ops Q rest (a.put o.dst v') w') :
    wpList Try.prog ops Q (o :: rest) a w := by
  refine wpList_plain hgd fun K hK => ?_
  obtain ⟨v', w', hr, h2, h3, h4, h5⟩ := run_append_keep w base o.type v bs hown ad c b hnews hN hbase
  unfold Oper.wp execOp
  simp only [ho, resolve, invoke, builtin, Sem.run_bind, Sem.run_pure, Result.andThen_ok, List.map_toArray, List.map_cons, List.map_nil, hs, hx, hr]
  exact hK _ _ (h v' w' h2 h3 h4 h5)

/-- The marks of a row. -/
def mrks (k n : Nat) : List Int := (List.range n).map (mrk k)
theorem mrks_succ (k n : Nat) : mrks k (n + 1) = mrks k n ++ [mrk k n] := by simp [mrks, List.range_succ]
theorem mrks_length (k n : Nat) : (mrks k n).length = n := by simp [mrks]
theorem mrks_getD (k n i : Nat) (h : i < n) : (mrks k n).getD i 0 = mrk k i := by simp [mrks, List.getD, h]
theorem mrks_of (k n : Nat) (xs : List Int) (hl : xs.length = n) (h : ∀ j, j < n → xs.getD j 0 = mrk k j) : xs = mrks k n := by
  apply List.ext_getElem
  · rw [hl, mrks_length]
  · intro i h1 h2
    have e := h i (by omega)
    rw [List.getD, List.getElem?_eq_getElem h1] at e
    simp only [Option.getD_some] at e
    rw [e]
    simp [mrks]

/-- Of a row that grew in place, or moved, the beginning reads as it did. -/
theorem Rd.begin {w : World} {g n cap n2 cap2 : Nat} {k : Nat} (h : Rd w (.slice (some ⟨g, 0, none⟩) n2 cap2) (mrks k n2)) (hn : n ≤ n2) (hc : n ≤ cap) (hm : cap ≤ maxLen) (hg : g < w.heap.size) : Rd w (.slice (some ⟨g, 0, none⟩) n cap) (mrks k n) := by
  refine .inr ⟨g, 0, cap, by rw [mrks_length], by rw [mrks_length]; exact hc, hm, hg, fun i hi => ?_⟩
  rw [mrks_length] at hi
  obtain ⟨b, off, e, _, hcell⟩ := h.at i (by rw [mrks_length]; omega)
  simp only [Option.some.injEq, Addr.mk.injEq, and_true] at e
  obtain ⟨rfl, rfl⟩ := e
  rw [hcell, mrks_getD k n2 i (by omega), mrks_getD k n i hi]


def updV (f : Nat → Value) (k : Nat) (x : Value) : Nat → Value := fun j => if j = k then x else f j
theorem updV_at (f : Nat → Value) (k : Nat) (x : Value) : updV f k x k = x := if_pos rfl
theorem updV_ne (f : Nat → Value) {k j : Nat} (x : Value) (h : j ≠ k) : updV f k x j = f j := if_neg h
theorem updV_range (f : Nat → Value) (k : Nat) (x : Value) : (List.range k).map (updV f k x) = (List.range k).map f := by
  apply List.map_congr_left
  intro j hj
  rw [List.mem_range] at hj
  exact updV_ne f x (by omega)

/-- How long row j is. -/
def gln (ns : Nat → Nat) (k i j : Nat) : Nat := if j < k then ns j + 64 else if j = k then ns j + i else ns j
theorem gln_at (ns : Nat → Nat) (k i : Nat) : gln ns k i k = ns k + i := by unfold gln; rw [if_neg (by omega), if_pos rfl]
theorem gln_next (ns : Nat → Nat) (k j : Nat) : gln ns k 64 j = gln ns (k + 1) 0 j := by
  unfold gln
  by_cases h : j < k
  · rw [if_pos h, if_pos (by omega)]
  · by_cases e : j = k
    · rw [if_neg h, if_pos e, if_pos (by omega)]
    · rw [if_neg h, if_neg e, if_neg (by omega)]
      split <;> omega
theorem gln_step (ns : Nat → Nat) (k i j : Nat) (h : j ≠ k) : gln ns k (i + 1) j = gln ns k i j := by
  unfold gln
  by_cases h1 : j < k
  · rw [if_pos h1, if_pos h1]
  · rw [if_neg h1, if_neg h1, if_neg h, if_neg h]

/-- What stays so: the rows that came in, and where they lie. -/
structure GC (w0 : World) (vs : List Value) (ns : Nat → Nat) : Prop where
  lt : ∀ j b, j < vs.length → (vs.getD j (.slice none 0 0)).ownBlock = some b → b < w0.heap.size
  ap : ∀ j j' b, j < vs.length → j' < vs.length → j ≠ j' → (vs.getD j (.slice none 0 0)).ownBlock = some b → (vs.getD j' (.slice none 0 0)).ownBlock ≠ some b
  sh : ∀ j, j < vs.length → (vs.getD j (.slice none 0 0) = .slice none 0 0 ∧ ns j = 0) ∨ ∃ g cap, vs.getD j (.slice none 0 0) = .slice (some ⟨g, 0, none⟩) (ns j) cap ∧ ns j ≤ cap ∧ cap ≤ maxLen

/-- The rows up to k are grown, row k by i. -/
structure Gr (w0 : World) (base : Nat) (vs : List Value) (ns : Nat → Nat) (k i : Nat) (cur : Nat → Value) (gs : Value) (w : World) : Prop where
  own : ∀ j, j < vs.length → w.ownsRow base 5 1 (cur j) (gln ns k i j) ((mrks j (gln ns k i j)).map By)
  ap : ∀ j j' b, j < vs.length → j' < vs.length → j ≠ j' → (cur j).ownBlock = some b → (cur j').ownBlock ≠ some b
  old : ∀ j, j < vs.length → Rd w (vs.getD j (.slice none 0 0)) (mrks j (ns j))
  cor : ∀ j b, j < vs.length → (cur j).ownBlock = some b → (vs.getD j (.slice none 0 0)).ownBlock = some b ∨ w0.heap.size ≤ b
  gown : w.ownsRow w0.heap.size 32 1 gs k ((List.range k).map cur)
  gap : ∀ j b, j < vs.length → gs.ownBlock = some b → (cur j).ownBlock ≠ some b
  fr : Fr (fun b => ∃ j, j < vs.length ∧ (vs.getD j (.slice none 0 0)).ownBlock = some b) w0 w

theorem own_keepT {w w' : World} {base : Nat} {e : TypeId} {v : Value} {n : Nat} {xs : List Value} (h : w.ownsRow base e 1 v n xs) (hb : ∀ g, v.ownBlock = some g → w'.heap[g]? = w.heap[g]?) : w'.ownsRow base e 1 v n xs := by
  obtain ⟨h1, h2⟩ := h
  refine ⟨h1, ?_⟩
  rcases h2 with h2 | ⟨g, cap, cur, hv, hg, hh, r⟩
  · exact Or.inl h2
  · exact Or.inr ⟨g, cap, cur, hv, hg, by rw [hb g (by rw [hv]; rfl)]; exact hh, r⟩

theorem Gr.vap {w0 w : World} {base : Nat} {vs : List Value} {ns : Nat → Nat} {k i : Nat} {cur : Nat → Value} {gs : Value} (h : Gr w0 base vs ns k i cur gs w) (c : GC w0 vs ns) {j j' b : Nat} (hj : j < vs.length) (hj' : j' < vs.length) (hn : j ≠ j')
    (hb : (vs.getD j (.slice none 0 0)).ownBlock = some b) : (cur j').ownBlock ≠ some b := by
  intro e
  have hl := c.lt j b hj hb
  rcases h.cor j' b hj' e with q | q
  · exact c.ap j j' b hj hj' hn hb q
  · omega

/-- What a row grown in place, or moved, leaves of the others. -/
theorem Gr.step {w0 w w2 : World} {base : Nat} {vs : List Value} {ns : Nat → Nat} {k i : Nat} {cur : Nat → Value} {gs v' : Value} {o : Obj} (h : Gr w0 base vs ns k i cur gs w) (c : GC w0 vs ns) (hk : k < vs.length)
    (hown : w2.ownsRow base 5 1 v' (ns k + (i + 1)) ((mrks k (ns k + (i + 1))).map By)) (hg : (w.alloc o).grownBy w2 (cur k).ownBlock) (hat : v'.ownBlock = (cur k).ownBlock ∨ v'.ownBlock = some (w.heap.size + 1))
    (hR : Rd w2 (cur k) (mrks k (ns k + i))) : Gr w0 base vs ns k (i + 1) (updV cur k v') gs w2 := by
  have hz : (w.alloc o).heap.size = w.heap.size + 1 := by simp
  have hsz := hg.size
  have hblk : ∀ b, b < w.heap.size → (cur k).ownBlock ≠ some b → w2.heap[b]? = w.heap[b]? := fun b hb hn =>
    (hg.block b (by omega) (fun e => hn e.symm)).trans (Below.heap_alloc _ _ _ hb)
  refine ⟨fun j hj => ?_, fun j j' b hj hj' hn h1 h2 => ?_, fun j hj => ?_, fun j b hj hb => ?_, ?_, fun j b hj hb e => ?_, ?_⟩
  · by_cases e : j = k
    · subst e
      rw [updV_at, gln_at]
      exact hown
    · rw [updV_ne _ _ e, gln_step _ _ _ _ e]
      exact own_keepT (h.own j hj) (fun g hg2 => hblk g ((h.own j hj).lt g hg2).2 (fun e2 => h.ap j k g hj hk e hg2 e2))
  · by_cases e : j = k
    · subst e
      rw [updV_at] at h1
      rw [updV_ne _ _ (fun e => hn e.symm)] at h2
      rcases hat with q | q
      · exact h.ap j j' b hj hj' hn (q.symm.trans h1) h2
      · have := ((h.own j' hj').lt b h2).2
        rw [q] at h1
        simp at h1
        omega
    · rw [updV_ne _ _ e] at h1
      by_cases e2 : j' = k
      · subst e2
        rw [updV_at] at h2
        rcases hat with q | q
        · exact h.ap j j' b hj hj' hn h1 (q.symm.trans h2)
        · have := ((h.own j hj).lt b h1).2
          rw [q] at h2
          simp at h2
          omega
      · rw [updV_ne _ _ e2] at h2
        exact h.ap j j' b hj hj' hn h1 h2
  · have hold := h.old j hj
    rcases c.sh j hj with ⟨e1, e2⟩ | ⟨g, cap, e1, hc1, hc2⟩
    · rw [e1, e2]
      exact .inl ⟨rfl, rfl⟩
    · have hvb : (vs.getD j (.slice none 0 0)).ownBlock = some g := by rw [e1]; rfl
      have hgl := c.lt j g hj hvb
      have hgw : g < w.heap.size := Nat.lt_of_lt_of_le hgl h.fr.size
      by_cases e : (cur k).ownBlock = some g
      · have ejk : j = k := by
          by_cases ejk : j = k
          · exact ejk
          · exact absurd e (h.vap c hj hk ejk hvb)
        subst ejk
        rw [e1]
        have hck := (h.own j hj).2
        rw [gln_at] at hck
        rcases hck with ⟨q, _⟩ | ⟨g2, cap2, cur2, q, _⟩
        · rw [q] at e
          simp [Value.ownBlock] at e
        · rw [q] at e hR
          simp only [Value.ownBlock, Option.some.injEq] at e
          subst e
          exact hR.begin (by omega) hc1 hc2 (by omega)
      · have hb : w2.heap[g]? = w.heap[g]? := hblk g hgw e
        rw [e1] at hold ⊢
        rcases hold with ⟨q, _⟩ | ⟨b2, off2, cap2, q, q1, q2, q3, q4⟩
        · cases q
        · simp only [Value.slice.injEq, Option.some.injEq, Addr.mk.injEq] at q
          refine .inr ⟨g, 0, cap, by rw [mrks_length], by rw [mrks_length]; exact hc1, hc2, by omega, fun x hx => ?_⟩
          have := q4 x hx
          obtain ⟨⟨rfl, rfl, _⟩, _, rfl⟩ := q
          exact (World.cell?_of_block (a := ⟨g, 0 + x, none⟩) hb).trans this
  · by_cases e : j = k
    · subst e
      rw [updV_at] at hb
      rcases hat with q | q
      · exact h.cor j b hj (q.symm.trans hb)
      · rw [q] at hb
        simp at hb
        have := h.fr.size
        right; omega
    · rw [updV_ne _ _ e] at hb
      exact h.cor j b hj hb
  · rw [updV_range]
    exact own_keepT h.gown (fun g hg2 => hblk g (h.gown.lt g hg2).2 (h.gap k g hk hg2))
  · by_cases e2 : j = k
    · subst e2
      rw [updV_at] at e
      rcases hat with q | q
      · exact h.gap j b hj hb (q.symm.trans e)
      · have := (h.gown.lt b hb).2
        rw [q] at e
        simp at e
        omega
    · rw [updV_ne _ _ e2] at e
      exact h.gap j b hj hb e
  · refine (h.fr.alloc o).grown hg (fun b e => ?_)
    rcases h.cor k b hk e with q | q
    · exact .inr ⟨k, hk, q⟩
    · exact .inl q

/-- The grown row is laid behind the others. -/
theorem Gr.push {w0 w w2 : World} {base : Nat} {vs : List Value} {ns : Nat → Nat} {k : Nat} {cur : Nat → Value} {gs gs' : Value} {o : Obj} (h : Gr w0 base vs ns k 64 cur gs w) (c : GC w0 vs ns)
    (hown : w2.ownsRow w0.heap.size 32 1 gs' (k + 1) ((List.range k).map cur ++ [cur k])) (hg : (w.alloc o).grownBy w2 gs.ownBlock) (hat : gs'.ownBlock = gs.ownBlock ∨ gs'.ownBlock = some (w.heap.size + 1)) : Gr w0 base vs ns (k + 1) 0 cur gs' w2 := by
  have hz : (w.alloc o).heap.size = w.heap.size + 1 := by simp
  have hsz := hg.size
  have hblk : ∀ b, b < w.heap.size → gs.ownBlock ≠ some b → w2.heap[b]? = w.heap[b]? := fun b hb hn =>
    (hg.block b (by omega) (fun e => hn e.symm)).trans (Below.heap_alloc _ _ _ hb)
  have hgl : ∀ b, gs.ownBlock = some b → w0.heap.size ≤ b := fun b e => (h.gown.lt b e).1
  refine ⟨fun j hj => ?_, h.ap, fun j hj => ?_, h.cor, ?_, fun j b hj hb e => ?_, ?_⟩
  · rw [← gln_next]
    exact own_keepT (h.own j hj) (fun g hg2 => hblk g ((h.own j hj).lt g hg2).2 (fun e => h.gap j g hj e hg2))
  · have hold := h.old j hj
    rcases c.sh j hj with ⟨e1, e2⟩ | ⟨g, cap, e1, hc1, hc2⟩
    · rw [e1, e2]
      exact .inl ⟨rfl, rfl⟩
    · have hvb : (vs.getD j (.slice none 0 0)).ownBlock = some g := by rw [e1]; rfl
      have hgl2 := c.lt j g hj hvb
      have hgw : g < w.heap.size := Nat.lt_of_lt_of_le hgl2 h.fr.size
      have hb : w2.heap[g]? = w.heap[g]? := hblk g hgw (fun e => by have := hgl g e; omega)
      rw [e1] at hold ⊢
      rcases hold with ⟨q, _⟩ | ⟨b2, off2, cap2, q, q1, q2, q3, q4⟩
      · cases q
      · simp only [Value.slice.injEq, Option.some.injEq, Addr.mk.injEq] at q
        refine .inr ⟨g, 0, cap, by rw [mrks_length], by rw [mrks_length]; exact hc1, hc2, by omega, fun x hx => ?_⟩
        have := q4 x hx
        obtain ⟨⟨rfl, rfl, _⟩, _, rfl⟩ := q
        exact (World.cell?_of_block (a := ⟨g, 0 + x, none⟩) hb).trans this
  · rw [List.range_succ, List.map_append]
    exact hown
  · rcases hat with q | q
    · exact h.gap j b hj (q.symm.trans hb) e
    · have := ((h.own j hj).lt b e).2
      rw [q] at hb
      simp at hb
      omega
  · exact (h.fr.alloc o).grown hg (fun b e => .inl (hgl b e))

/-- Ahead of the first growing. -/
theorem Gr.start {w0 w : World} {base : Nat} {vs : List Value} {ns : Nat → Nat} (h : Mkd w0 base vs ns vs.length 0 w) (hlt : ∀ j b, j < vs.length → (vs.getD j (.slice none 0 0)).ownBlock = some b → b < w0.heap.size) :
    GC w0 vs ns ∧ Gr w0 base vs ns 0 0 (fun j => vs.getD j (.slice none 0 0)) (.slice none 0 0) w := by
  obtain ⟨xss, h1, h2, h3, _⟩ := h.ex
  have hx : ∀ j, j < vs.length → xss j = mrks j (ns j) := fun j hj => mrks_of j (ns j) (xss j) (h2 j) (fun i hi => h3 j hj i hi)
  have hg0 : ∀ j, gln ns 0 0 j = ns j := fun j => by unfold gln; rw [if_neg (by omega)]; split <;> omega
  have ho : ∀ j, j < vs.length → w.ownsRow base 5 1 (vs.getD j (.slice none 0 0)) (ns j) ((mrks j (ns j)).map By) := fun j hj => by
    have := h1.own j hj
    rw [hx j hj, mrks_length] at this
    exact this
  refine ⟨⟨hlt, h1.ap, fun j hj => ?_⟩, ⟨fun j hj => by rw [hg0]; exact ho j hj, h1.ap, fun j hj => ?_, fun j b hj hb => .inl hb, World.ownsRow_nil _ _ _ _, fun j b hj hb => by simp [Value.ownBlock] at hb, h1.fr⟩⟩
  · rcases (ho j hj).2 with ⟨e, h0⟩ | ⟨g, cap, cur, e, hb, hg, hn, hc, hs, ht⟩
    · exact .inl ⟨e, h0⟩
    · exact .inr ⟨g, cap, e, hn, hc⟩
  · have := ho j hj
    exact Rd.of_own (by rw [mrks_length]; exact this)


/-- A row of one's own that has grown out of l0: no block but l0's is touched, and new ones. -/
structure RG (base : Nat) (l0 : Value) (w0 : World) (l : Value) (bs : List Int) (w : World) : Prop where
  own : w.ownsRow base 5 1 l bs.length (bs.map By)
  fr : Fr (fun b => l0.ownBlock = some b) w0 w
  at' : l.ownBlock = l0.ownBlock ∨ ∃ b, l.ownBlock = some b ∧ w0.heap.size ≤ b
theorem RG.start {base : Nat} {l0 : Value} {w0 : World} {bs : List Int} (h : w0.ownsRow base 5 1 l0 bs.length (bs.map By)) : RG base l0 w0 l0 bs w0 := ⟨h, Fr.refl _ _, .inl rfl⟩
theorem RG.step {base : Nat} {l0 : Value} {w0 : World} {l v' : Value} {bs : List Int} {w w2 : World} {o : Obj} {n : Nat} {xs : List Value} {z : Int} (h : RG base l0 w0 l bs w) (hown : w2.ownsRow base 5 1 v' n xs) (hn : n = bs.length + 1) (hx : xs = bs.map By ++ [.int .u8 z])
    (hg : (w.alloc o).grownBy w2 l.ownBlock) (hat : v'.ownBlock = l.ownBlock ∨ v'.ownBlock = some (w.heap.size + 1)) : RG base l0 w0 v' (bs ++ [z]) w2 := by
  subst hn hx
  have hs := h.fr.size
  refine ⟨by simpa [By] using hown, (h.fr.alloc o).grown hg (fun b e => ?_), ?_⟩
  · rcases h.at' with q | ⟨b2, q, hb2⟩
    · exact .inr (q.symm.trans e)
    · rw [q] at e
      simp only [Option.some.injEq] at e
      omega
  · rcases hat with q | q
    · rcases h.at' with r | ⟨b, r, hb⟩
      · exact .inl (q.trans r)
      · exact .inr ⟨b, q.trans r, hb⟩
    · exact .inr ⟨_, q, by omega⟩
/-- One growing behind the other. -/
theorem RG.trans {base : Nat} {l0 l1 l2 : Value} {w0 w1 w2 : World} {b1 b2 : List Int} (h : RG base l0 w0 l1 b1 w1) (k : RG base l1 w1 l2 b2 w2) : RG base l0 w0 l2 b2 w2 := by
  have hs := h.fr.size
  refine ⟨k.own, ⟨k.fr.os.trans h.fr.os, k.fr.tape.trans h.fr.tape, k.fr.output.trans h.fr.output, Nat.le_trans hs k.fr.size, fun i hi hn => ?_⟩, ?_⟩
  · refine (k.fr.block i (by omega) (fun e => ?_)).trans (h.fr.block i hi hn)
    rcases h.at' with q | ⟨b, q, hb⟩
    · exact hn (q.symm.trans e)
    · rw [q] at e
      simp only [Option.some.injEq] at e
      omega
  · rcases k.at' with q | ⟨b, q, hb⟩
    · rcases h.at' with r | ⟨b, r, hb⟩
      · exact .inl (q.trans r)
      · exact .inr ⟨b, q.trans r, hb⟩
    · exact .inr ⟨b, q, by omega⟩
theorem RG.alloc {base : Nat} {l0 l : Value} {w0 w : World} {bs : List Int} {o : Obj} (h : RG base l0 (w0.alloc o) l bs w) : RG base l0 w0 l bs w := by
  refine ⟨h.own, ⟨h.fr.os, h.fr.tape, h.fr.output, Nat.le_trans (by simp) h.fr.size, fun i hi hn => (h.fr.block i (by simp; omega) hn).trans (Below.heap_alloc _ _ _ hi)⟩, ?_⟩
  rcases h.at' with q | ⟨b, q, hb⟩
  · exact .inl q
  · exact .inr ⟨b, q, by simp at hb; omega⟩

set_option maxHeartbeats 1600000 in
set_option maxRecDepth 100000 in
theorem putUint_any (base : Nat) (l0 : Value) (bs : List Int) (x : Nat) (w : World) (h : w.ownsRow base 5 1 l0 bs.length (bs.map By)) (hbase : base ≤ w.heap.size) (hb : bs.length + 10 ≤ 140737488355328) (hx : x < 2 ^ 64) :
    Calls Try.prog 46 #[l0, .int .u64 (x : Int)] w fun e w' => ∃ l, e = .returned l ∧ RG base l0 w l (bs ++ Wm.uform 9 x) w' := by
  obtain ⟨i0, hi0, hz0, hz1, hz2⟩ := info_parts Try.info5
  have hS : Hid (Wm.UAt x x 9 []) := Wm.UAt.start x hx
  have hR0 : Hid (RG base l0 w l0 (bs ++ []) w) := RG.start (by rw [List.append_nil]; exact h)
  have hxle : x < 18446744073709551616 := by simpa using hx
  clear h hx
  go_enter Try.func46, Try.ntmps46
  go_wp2
  go_loopg [0, 1] 9 (fun k s0 s1 wr => ∃ (z : Nat) (done : List Int), s1 = .int .u64 (z : Int) ∧ z < 18446744073709551616 ∧ Hid (Wm.UAt x z k done) ∧ Hid (RG base l0 w s0 (bs ++ done) wr))
  case atStart => exact ⟨x, [], rfl, hxle, hS, hR0⟩
  case round =>
    obtain ⟨z, done, rfl, hz64, hU, hR⟩ := hrel
    have hl : Hid ((bs ++ done).length < 140737488355328) := by have := (unhide hU).len; rw [Hid, List.length_append]; omega
    obtain ⟨n, hn⟩ : ∃ n, Hid ((bs ++ done).length = n) := ⟨_, rfl⟩
    have hnl : n < 140737488355328 := by have := unhide hl; rw [unhide hn] at this; exact this
    have HO : Hid (wr.ownsRow base 5 1 u0 n ((bs ++ done).map By)) := by have := (unhide hR).own; rw [unhide hn] at this; exact this
    have hbs : Hid (base ≤ wr.heap.size) := Nat.le_trans hbase (unhide hR).fr.size
    by_cases hlt : 128 ≤ z
    · obtain ⟨m, hm, hN⟩ := (unhide hU).next hlt
      have HN := hide hN
      have Hm := hide hm
      clear hN hm
      have i1 : (128 : Int) ≤ (z : Int) := by omega
      have e1 : (z : Int).tmod 128 = ((z % 128 : Nat) : Int) := by rw [Int.tmod_eq_emod_of_nonneg (by omega)]; omega
      obtain ⟨r, hr⟩ : ∃ r, Hid (z % 128 = r) := ⟨_, rfl⟩
      rw [unhide hr] at e1
      have hr9 : r < 128 := by have := unhide hr; omega
      have e2 : IntKind.u64.wrap ((r : Int) + 128) = (r : Int) + 128 := by rw [IntKind.wrap_u64]; omega
      have e3 : IntKind.u8.wrap ((r : Int) + 128) = (r : Int) + 128 := by rw [IntKind.wrap_u8]; omega
      have e4 : (z : Int).tdiv 128 = ((z / 128 : Nat) : Int) := by rw [Int.tdiv_eq_ediv_of_nonneg (by omega)]; omega
      obtain ⟨d, hd⟩ : ∃ d, Hid (z / 128 = d) := ⟨_, rfl⟩
      rw [unhide hd] at e4
      have hd9 : d < 18446744073709551616 := by have := unhide hd; omega
      have e5 : IntKind.u64.wrap (d : Int) = (d : Int) := by rw [IntKind.wrap_u64]; omega
      go_wp2_with (first | (at_builtin; refine wpList_append_own_at _ rfl _ _ 32 rfl base 5 i0 (.int .u8 0) 1 1 Try.underlying32 hi0 hz0 hz1 hz2 rfl (by decide) _ _ _ rfl ((unhide HO).alloc _) ⟨wr.heap.size, 0, none⟩ 1 1 [.int .u8 ((r : Int) + 128)] rfl rfl (cell_one_new _ _ _) (by simp [Value.oneCell']) (by unfold maxLen; omega) (by omega) (by have := unhide hbs; simp; omega) ?_))
      intro v' w2 hown' hgrow hnil hat
      have HN2 : Hid (RG base l0 w v' (bs ++ done ++ [(r : Int) + 128]) w2) := (unhide hR).step hown' (by rw [unhide hn]) (by simp) hgrow hat
      clear hown' hgrow hnil hat
      go_wp2
      go_roundg m
      case measure => have := unhide Hm; omega
      case rel => exact ⟨d, done ++ [((z % 128 + 128 : Nat) : Int)], by go_num, hd9, by rw [← unhide hd]; exact HN, by rw [← List.append_assoc, unhide hr]; exact HN2⟩
    · have HD := hide ((unhide hU).done (by omega))
      have i1 : ¬ (128 : Int) ≤ (z : Int) := by omega
      have e3 : IntKind.u8.wrap (z : Int) = (z : Int) := by rw [IntKind.wrap_u8]; omega
      go_wp2_with (first | (at_builtin; refine wpList_append_own_at _ rfl _ _ 32 rfl base 5 i0 (.int .u8 0) 1 1 Try.underlying32 hi0 hz0 hz1 hz2 rfl (by decide) _ _ _ rfl ((unhide HO).alloc _) ⟨wr.heap.size, 0, none⟩ 1 1 [.int .u8 (z : Int)] rfl rfl (cell_one_new _ _ _) (by simp [Value.oneCell']) (by unfold maxLen; omega) (by omega) (by have := unhide hbs; simp; omega) ?_))
      intro v' w2 hown' hgrow hnil hat
      have HN2 : Hid (RG base l0 w v' (bs ++ done ++ [(z : Int)]) w2) := (unhide hR).step hown' (by rw [unhide hn]) (by simp) hgrow hat
      clear hown' hgrow hnil hat
      go_wp2
      go_ret
      exact ⟨v', rfl, by rw [← unhide HD, ← List.append_assoc]; exact unhide HN2⟩

set_option maxHeartbeats 1600000 in
set_option maxRecDepth 100000 in
theorem folded_any (n : Int) (w : World) (h0 : -9223372036854775808 ≤ n) (h1 : n ≤ 9223372036854775807) :
    Calls Try.prog 65 #[.int .i64 n] w fun e w' => e = .returned (.int .u64 (foldI n)) ∧ w' = w := by
  by_cases hn : 0 ≤ n
  · have e1 : IntKind.u64.wrap n = n := by rw [IntKind.wrap_u64]; omega
    have e2 : IntKind.u64.wrap (2 * n) = 2 * n := by rw [IntKind.wrap_u64]; omega
    have hf : Hid (foldI n = 2 * n) := by unfold Hid foldI; first | (rw [if_pos hn]) | (split <;> omega)
    clear h0 h1
    go_enter Try.func65, Try.ntmps65
    go_wp2
    go_ret
    exact ⟨by rw [unhide hf]; rfl, rfl⟩
  · have e0 : IntKind.i64.wrap (n + 1) = n + 1 := by rw [IntKind.wrap_i64]; omega
    have e00 : IntKind.i64.wrap (-(n + 1)) = -(n + 1) := by rw [IntKind.wrap_i64]; omega
    have e1 : IntKind.u64.wrap (-(n + 1)) = -(n + 1) := by rw [IntKind.wrap_u64]; omega
    have e2 : IntKind.u64.wrap (2 * -(n + 1)) = 2 * -(n + 1) := by rw [IntKind.wrap_u64]; omega
    have e3 : IntKind.u64.wrap (2 * -(n + 1) + 1) = 2 * -(n + 1) + 1 := by rw [IntKind.wrap_u64]; omega
    have hf : Hid (foldI n = 2 * -(n + 1) + 1) := by unfold Hid foldI; first | (rw [if_neg hn]; omega) | (split <;> omega)
    clear h0 h1
    go_enter Try.func65, Try.ntmps65
    go_wp2
    go_ret
    exact ⟨by rw [unhide hf]; rfl, rfl⟩

set_option maxHeartbeats 1600000 in
set_option maxRecDepth 100000 in
theorem putInt_any (base : Nat) (l0 : Value) (bs : List Int) (n : Int) (w : World) (h : w.ownsRow base 5 1 l0 bs.length (bs.map By)) (hbase : base ≤ w.heap.size) (hb : bs.length + 10 ≤ 140737488355328) (h0 : -9223372036854775808 ≤ n) (h1 : n ≤ 9223372036854775807) :
    Calls Try.prog 45 #[l0, .int .i64 n] w fun e w' => ∃ l, e = .returned l ∧ RG base l0 w l (bs ++ Wm.uform 9 (foldI n).toNat) w' := by
  have hbd := foldI_bd n h0 h1
  obtain ⟨m, hm⟩ := Int.eq_ofNat_of_zero_le hbd.1
  have hF := hide (fun w => folded_any n w h0 h1)
  rw [hm] at hF ⊢
  rw [Int.toNat_natCast]
  have hP := hide (putUint_any base l0 bs m w h hbase hb (by rw [hm] at hbd; simp only [Nat.reducePow]; omega))
  clear h hbd h0 h1 hm
  go_enter Try.func45, Try.ntmps45
  go_wp2_with fail
  refine (unhide hF _).mono ?_
  rintro e w1 ⟨rfl, hw1⟩
  subst hw1
  go_wp2_with fail
  refine (unhide hP).mono ?_
  rintro e w2 ⟨l, rfl, hR⟩
  have HR := hide hR
  clear hR
  go_wp2
  go_ret
  exact ⟨l, rfl, unhide HR⟩

set_option linter.unusedVariables false

theorem RG.below {base : Nat} {l0 l : Value} {w0 w1 w : World} {bs : List Int} (b : Below w0.heap.size w0 w1) (h : RG base l0 w1 l bs w) : RG base l0 w0 l bs w := by
  refine ⟨h.own, ⟨h.fr.os.trans b.os, h.fr.tape.trans b.tape, h.fr.output.trans b.output, Nat.le_trans b.size h.fr.size, fun i hi hn => (h.fr.block i (Nat.lt_of_lt_of_le hi b.size) hn).trans (b.block i hi)⟩, ?_⟩
  rcases h.at' with q | ⟨k, q, hk⟩
  · exact .inl q
  · exact .inr ⟨k, q, Nat.le_trans b.size hk⟩
theorem own_below {w w' : World} {base : Nat} {e : TypeId} {v : Value} {n : Nat} {xs : List Value} (h : w.ownsRow base e 1 v n xs) (b : Below w.heap.size w w') : w'.ownsRow base e 1 v n xs :=
  own_keepT h (fun g hg => b.block g (h.lt g hg).2)

set_option maxRecDepth 100000 in
set_option maxHeartbeats 4000000 in
theorem dPut_any (base : Nat) (l0 : Value) (bs : List Int) (k : Nat) (hk : k < 67) (a : Int) (ha : I64 a) (w : World) (h : w.ownsRow base 5 1 l0 bs.length (bs.map By)) (hbase : base ≤ w.heap.size) (hb : bs.length + 20 ≤ 140737488355328) :
    Calls Try.prog 21 #[l0, .agg #[.int .i64 (k : Int), .int .i64 a]] w fun e w' => ∃ l, e = .returned l ∧ RG base l0 w l (bs ++ ifm ((k : Int), a)) w' := by
  obtain ⟨i0, hi0, hz0, hz1, hz2⟩ := info_parts Try.info5
  have HD := hide (fun w => dOperand_any w (k : Int))
  rw [kdI_nat hk, isOp_nat hk] at HD
  have HOW := hide h
  have eF : Hid (ifm ((k : Int), a) = (k : Int) :: opF (kd k) a) := by unfold Hid ifm; simp
  have hwk : IntKind.u8.wrap (k : Int) = (k : Int) := by rw [IntKind.wrap_u8]; omega
  obtain ⟨d, hd⟩ : ∃ d, Hid (d = kd k) := ⟨_, rfl⟩
  rw [← unhide hd] at HD
  have HPI := hide (fun (l : Value) (w : World) (h : w.ownsRow base 5 1 l (bs ++ [(k : Int)]).length ((bs ++ [(k : Int)]).map By)) (hb2 : base ≤ w.heap.size) => putInt_any base l (bs ++ [(k : Int)]) a w h hb2 (by rw [List.length_append, List.length_singleton]; omega) ha.1 ha.2)
  have HPU := hide (fun (l : Value) (w : World) (h : w.ownsRow base 5 1 l (bs ++ [(k : Int)]).length ((bs ++ [(k : Int)]).map By)) (hb2 : base ≤ w.heap.size) => putUint_any base l (bs ++ [(k : Int)]) (a % 18446744073709551616).toNat w h hb2 (by rw [List.length_append, List.length_singleton]; omega) (by omega))
  have hwu := wrap_u a
  obtain ⟨X, hX⟩ : ∃ X, Hid (X = (a % 18446744073709551616).toNat) := ⟨_, rfl⟩
  rw [← unhide hX] at HPU hwu
  obtain ⟨n, hn⟩ : ∃ n, Hid (bs.length = n) := ⟨_, rfl⟩
  rw [unhide hn] at hb
  have HBA := hide hbase
  clear h ha hbase
  go_enter Try.func21, Try.ntmps21
  go_wp2_with fail
  refine (unhide HD _).mono ?_
  rintro e w1 ⟨rfl, hb1⟩
  obtain ⟨c0, c1⟩ := par_cells hb1
  have hb1' := Bl.par hb1
  have HO := hide (own_below (unhide HOW) hb1')
  have B1 := hide hb1'
  have hpl := World.block_lt_of_cell? _ _ c1
  have HHH : Hid (base ≤ w1.heap.size) := Nat.le_trans (unhide HBA) hb1'.size
  clear hb1 hb1'
  go_wp2_with (first | (at_builtin; refine wpList_append_own_at _ rfl _ _ 32 rfl base 5 i0 (.int .u8 0) 1 1 Try.underlying32 hi0 hz0 hz1 hz2 rfl (by decide) _ _ _ rfl ((unhide HO).alloc _) ⟨w1.heap.size, 0, none⟩ 1 1 [.int .u8 (k : Int)] rfl rfl (cell_one_new _ _ _) (by simp [Value.oneCell']) (by have := unhide hn; unfold maxLen; omega) (by have := unhide hn; omega) (by have := unhide HHH; simp; omega) ?_))
  intro v' w2 hown' hgrow hnil hat
  have R2 : Hid (RG base l0 w1 v' (bs ++ [(k : Int)]) w2) := (RG.start (unhide HO)).step hown' (by rfl) (by simp) hgrow hat
  have d1 : w2.cell? ⟨w.heap.size, 1, none⟩ = some (.int .i64 a) := ((unhide R2).fr.cell (a := ⟨w.heap.size, 1, none⟩) hpl (fun e => absurd ((unhide HOW).lt w.heap.size e).2 (Nat.lt_irrefl _))).trans c1
  have hsz : Hid (base ≤ w2.heap.size) := Nat.le_trans (unhide HHH) (unhide R2).fr.size
  clear hown' hgrow hnil hat c0 c1
  by_cases h1 : d = 1
  · have KP := hide (unhide HPI v' w2 (unhide R2).own (unhide hsz))
    have e : Hid (ifm ((k : Int), a) = (k : Int) :: Wm.uform 9 (foldI a).toNat) := by unfold Hid; rw [unhide eF, ← unhide hd, h1]; rfl
    subst h1
    go_wp2_with fail
    refine (unhide KP).mono ?_
    rintro e3 w3 ⟨l3, rfl, hR3⟩
    have R3 := hide hR3
    clear hR3
    go_wp2_with fail
    go_ret
    refine ⟨l3, rfl, ?_⟩
    have q := ((unhide R2).trans (unhide R3)).below (unhide B1)
    rw [unhide e]
    simpa using q
  · have h1' : ((d : Int) == 1) = false := by simp; omega
    by_cases h0 : d = 0
    · have e : Hid (ifm ((k : Int), a) = [(k : Int)]) := by unfold Hid; rw [unhide eF, ← unhide hd, h0]; rfl
      subst h0
      go_wp2_with fail
      go_ret
      refine ⟨v', rfl, ?_⟩
      rw [unhide e]
      exact (unhide R2).below (unhide B1)
    · have h0' : ((d : Int) != 0) = true := by simp; omega
      have KP := hide (unhide HPU v' w2 (unhide R2).own (unhide hsz))
      have e : Hid (ifm ((k : Int), a) = (k : Int) :: Wm.uform 9 X) := by unfold Hid; rw [unhide eF, ← unhide hd, unhide hX]; unfold opF; rw [if_neg h0, if_neg h1]
      clear h0 h1
      go_wp2_with fail
      refine (unhide KP).mono ?_
      rintro e3 w3 ⟨l3, rfl, hR3⟩
      have R3 := hide hR3
      clear hR3
      go_wp2_with fail
      go_ret
      refine ⟨l3, rfl, ?_⟩
      have q := ((unhide R2).trans (unhide R3)).below (unhide B1)
      rw [unhide e]
      simpa using q

set_option maxRecDepth 100000 in
set_option maxHeartbeats 4000000 in
theorem dEncode_any {w : World} {lv : Value} {l : List (Int × Int)} (h : RtV w lv l) (hN : l.length ≤ 8796093021952) (hI : ∀ p ∈ l, I64 p.1 ∧ I64 p.2) :
    Calls Try.prog 17 #[lv] w fun e w' => EncPost w l e w' := by
  obtain ⟨a0, cap, rfl, hlc, hcm, hcell⟩ := h
  have HC := hide hcell
  obtain ⟨L, hL⟩ : ∃ L, Hid (l.length = L) := ⟨_, rfl⟩
  rw [unhide hL] at hN hlc ⊢
  clear hcell
  by_cases h2 : 2000 < L
  · have HE : Hid (encE l = 5 ∧ encB l = []) := by
      have e : encE l = 5 := by unfold encE; rw [if_pos (by rw [unhide hL]; exact h2)]
      exact ⟨e, by unfold encB; rw [e]; rfl⟩
    clear hI HC
    go_enter Try.func17, Try.ntmps17
    go_wp2_with fail
    go_ret2
    refine ⟨.slice none 0 0, by rw [(unhide HE).1]; rfl, ?_, Below.refl _ _⟩
    rw [(unhide HE).2]
    exact World.ownsRow_nil _ _ _ _
  · have HII := hide hI
    clear hI
    go_enter Try.func17, Try.ntmps17
    go_wp2_with fail
    go_loopg [4, 5] L (fun g t4 t5 wr => ∃ (i : Nat) (v : Value), Hid (i + g = L) ∧ t4 = v ∧ t5 = .int .i64 (i : Int) ∧ Hid (wr.ownsRow w.heap.size 5 1 v (efm (l.take i)).length ((efm (l.take i)).map By) ∧ Below w.heap.size w wr ∧ okL (l.take i) = true))
    case atStart => exact ⟨0, _, by unfold Hid; omega, rfl, rfl, by simpa [efm] using World.ownsRow_nil _ _ _ _, Below.refl _ _, by simp [okL]⟩
    case round =>
      obtain ⟨i, v, hi, rfl, rfl, hJ⟩ := hrel
      by_cases hlt : i < L
      · have hil : i < l.length := by rw [unhide hL]; exact hlt
        obtain ⟨⟨op, a⟩, hpr⟩ : ∃ q, l[i]? = some q := ⟨_, List.getElem?_eq_getElem hil⟩
        obtain ⟨b, off, rfl, hb, c0, c1⟩ := unhide HC i _ hpr
        obtain ⟨hIo, hIa⟩ := unhide HII _ (List.mem_of_getElem? hpr)
        simp only at hIo hIa
        have hs := (unhide hJ).2.1
        have k0 := (hs.cell (p := ⟨b, off + i * 2, none⟩) hb).trans c0
        have k1 := (hs.cell (p := ⟨b, off + i * 2 + 1, none⟩) hb).trans c1
        have hbr := Nat.lt_of_lt_of_le hb hs.size
        have i0 : (0 : Int) ≤ (i : Int) := by omega
        have i1 : (i : Int) < (L : Int) := by omega
        have htk : Hid (l.take (i + 1) = l.take i ++ [(op, a)]) := itake_push l i _ hpr
        have hbl : Hid ((efm (l.take i)).length ≤ 22000) := by
          have := efm_len (l.take i)
          have : (l.take i).length ≤ i := List.length_take_le _ _
          unfold Hid; omega
        have HP := hide hpr
        have HIA := hide hIa
        have HB := hide hb
        have HC0 := hide c0
        have HC1 := hide c1
        have HCk := hide (fun w => dCheck_any w op a hIa)
        have Hk : Hid (erN op a = if okB op a then 0 else 7) := rfl
        clear hs c0 c1 hpr hIo hIa hil
        cases hok : okB op a
        · have her : erN op a = 7 := by rw [unhide Hk, hok]; rfl
          rw [her] at HCk
          have HE : Hid (encE l = 7 ∧ encB l = []) := by
            have e : encE l = 7 := by unfold encE; rw [if_neg (by rw [unhide hL]; exact h2), okL_no (unhide HP) hok]; rfl
            exact ⟨e, by unfold encB; rw [e]; rfl⟩
          clear her hok Hk
          go_wp2_with fail
          refine (unhide HCk _).mono ?_
          rintro e w2 ⟨rfl, hb2⟩
          have B2 := hide hb2
          clear hb2
          go_wp2_with fail
          go_ret2
          refine ⟨.slice none 0 0, by rw [(unhide HE).1]; rfl, ?_, Bl.go (unhide hJ).2.1 (unhide hJ).2.1.size (unhide B2)⟩
          rw [(unhide HE).2]
          exact World.ownsRow_nil _ _ _ _
        · have her : erN op a = 0 := by rw [unhide Hk, hok]; rfl
          rw [her] at HCk
          have hop : isOp op = true := by simp [okB] at hok; exact hok.1
          have ho : 0 ≤ op ∧ op < 67 := by simpa [isOp] using hop
          obtain ⟨k, rfl⟩ : ∃ k : Nat, op = k := ⟨op.toNat, by omega⟩
          have HK67 : Hid (k < 67) := by unfold Hid; omega
          have HOK := hide hok
          clear her hok Hk hop ho
          go_wp2_with fail
          refine (unhide HCk _).mono ?_
          rintro e w2 ⟨rfl, hb2⟩
          have hs2 := Bl.go (unhide hJ).2.1 (unhide hJ).2.1.size hb2
          have k0' := (hs2.cell (p := ⟨b, off + i * 2, none⟩) (unhide HB)).trans (unhide HC0)
          have k1' := (hs2.cell (p := ⟨b, off + i * 2 + 1, none⟩) (unhide HB)).trans (unhide HC1)
          have hbr2 := Nat.lt_of_lt_of_le (unhide HB) hs2.size
          have KP := hide (dPut_any w.heap.size _ (efm (l.take i)) k (unhide HK67) a (unhide HIA) w2 (own_below (unhide hJ).1 hb2) hs2.size (by have := unhide hbl; omega))
          have B2 := hide hs2
          clear hb2 hs2 k0 k1 hbr
          go_wp2_with fail
          refine (unhide KP).mono ?_
          rintro e w3 ⟨l3, rfl, hR3⟩
          have R3 := hide hR3
          clear hR3 KP
          go_wp2_with fail
          go_roundg (gk - 1)
          case measure => have := unhide hi; omega
          case rel =>
            refine ⟨i + 1, l3, by have := unhide hi; unfold Hid; omega, rfl, by go_num, ?_⟩
            unfold Hid
            rw [unhide htk, efm_push]
            refine ⟨(unhide R3).own, (unhide B2).trans ((unhide R3).fr.below (unhide B2).size (fun q hq e => ?_)), ?_⟩
            · have := ((unhide hJ).1.lt q e).1
              omega
            · have q := (unhide hJ).2.2
              unfold okL at q ⊢
              rw [List.all_append, q]
              simpa using unhide HOK
      · have hiL : i = L := by have := unhide hi; omega
        subst hiL
        have hT : l.take i = l := List.take_of_length_le (by rw [unhide hL]; exact Nat.le_refl _)
        obtain ⟨hJ1, hJ2, hJ3⟩ := unhide hJ
        rw [hT] at hJ1 hJ3
        have HE : Hid (encE l = 0 ∧ encB l = efm l) := by
          have e : encE l = 0 := by unfold encE; rw [if_neg (by rw [unhide hL]; exact h2), hJ3]; rfl
          exact ⟨e, by unfold encB; rw [if_pos e]⟩
        have J1 := hide hJ1
        have J2 := hide hJ2
        clear hT hJ1 hJ2 hJ3 hJ HII HC
        go_wp2_with fail
        go_ret2
        refine ⟨_, by rw [(unhide HE).1]; rfl, ?_, unhide J2⟩
        rw [(unhide HE).2]
        exact unhide J1
end Go.Proofs.Ytonnkaphomonpaa
