/-
  An append that keeps the old row, at its operation; and rows that grow by marks.
-/
import Derived.Test.YtaldacjeeccbhaaCopy
import Derived.Laws.Rows
namespace Go.Proofs.Ytaldacjeeccbhaa
open Go.RowKit

/-- A byte stored into a row of one's own. -/
theorem own_store {w : World} {base : Nat} {v : Value} {xs : List Int} (h : w.ownsRow base 5 1 v xs.length (xs.map By)) (g i : Nat) (hv : v.ownBlock = some g) (b : Int) :
    (w.setCell ⟨g, i, none⟩ (.int .u8 b)).ownsRow base 5 1 v xs.length ((xs.set i b).map By) := by
  refine ⟨by simp, ?_⟩
  rcases h.2 with ⟨rfl, h0⟩ | ⟨g', cap, cur, rfl, hb, hg, hn, hc, hs, ht⟩
  · simp [Value.ownBlock] at hv
  · simp only [Value.ownBlock, Option.some.injEq] at hv
    subst hv
    refine .inr ⟨g', cap, _, rfl, hb, heap_setCell_same w g' i cur 5 (.int .u8 b) hg, hn, hc, by simpa using hs, ?_⟩
    simp only [Nat.mul_one] at ht ⊢
    rw [Array.toList_setIfInBounds, List.take_set, ht, List.map_set]
    rfl

/-- Rows that are one's own, each in a block of its own. -/
structure Rws (w0 : World) (base : Nat) (vs : List Value) (xss : Nat → List Int) (w : World) : Prop where
  own : ∀ k, k < vs.length → w.ownsRow base 5 1 (vs.getD k (.slice none 0 0)) (xss k).length ((xss k).map By)
  ap : ∀ k k' b, k < vs.length → k' < vs.length → k ≠ k' → (vs.getD k (.slice none 0 0)).ownBlock = some b → (vs.getD k' (.slice none 0 0)).ownBlock ≠ some b
  fr : Fr (fun b => ∃ k, k < vs.length ∧ (vs.getD k (.slice none 0 0)).ownBlock = some b) w0 w
def upd (xss : Nat → List Int) (k : Nat) (xs : List Int) : Nat → List Int := fun k' => if k' = k then xs else xss k'
theorem own_set_far {w : World} {base : Nat} {v : Value} {n : Nat} {xs : List Value} (h : w.ownsRow base 5 1 v n xs) (p : Addr) (hp : v.ownBlock ≠ some p.block) (u : Value) : (w.setCell p u).ownsRow base 5 1 v n xs := by
  refine ⟨h.1, ?_⟩
  rcases h.2 with h0 | ⟨g, cap, cur, rfl, hb, hg, hn, hc, hs, ht⟩
  · exact .inl h0
  · exact .inr ⟨g, cap, cur, rfl, hb, by rw [Below.heap_setCell _ _ _ _ (fun e => hp (by rw [← e]; rfl))]; exact hg, hn, hc, hs, ht⟩
theorem Rws.store {w0 w : World} {base : Nat} {vs : List Value} {xss : Nat → List Int} (h : Rws w0 base vs xss w) (k i g : Nat) (hk : k < vs.length) (hv : (vs.getD k (.slice none 0 0)).ownBlock = some g) (b : Int) :
    Rws w0 base vs (upd xss k ((xss k).set i b)) (w.setCell ⟨g, i, none⟩ (.int .u8 b)) := by
  refine ⟨fun k' hk' => ?_, h.ap, Fr.setCell h.fr ⟨g, i, none⟩ (.inr ⟨k, hk, hv⟩) _⟩
  unfold upd
  by_cases e : k' = k
  · subst e
    rw [if_pos rfl, List.length_set]
    exact own_store (h.own k' hk') g i hv b
  · rw [if_neg e]
    exact own_set_far (h.own k' hk') ⟨g, i, none⟩ (h.ap k k' g hk hk' (Ne.symm e) hv) _
/-- The mark of a place. -/
def mrk (k i : Nat) : Int := (37 * ((k : Int) + 1) + (i : Int)) % 256
/-- So many rows are marked, and so much of the next. -/
structure Mkd (w0 : World) (base : Nat) (vs : List Value) (ns : Nat → Nat) (k i : Nat) (w : World) : Prop where
  ex : ∃ xss, Rws w0 base vs xss w ∧ (∀ k', (xss k').length = ns k') ∧ (∀ k', k' < k → ∀ j, j < ns k' → (xss k').getD j 0 = mrk k' j) ∧ ∀ j, j < i → (xss k).getD j 0 = mrk k j
theorem Mkd.next {w0 w : World} {base : Nat} {vs : List Value} {ns : Nat → Nat} {k : Nat} (h : Mkd w0 base vs ns k (ns k) w) : Mkd w0 base vs ns (k + 1) 0 w := by
  obtain ⟨xss, h1, h2, h3, h4⟩ := h.ex
  refine ⟨xss, h1, h2, fun k' hk' j hj => ?_, fun j hj => absurd hj (by omega)⟩
  rcases Nat.lt_or_ge k' k with q | q
  · exact h3 k' q j hj
  · obtain rfl : k' = k := by omega
    exact h4 j hj
theorem Mkd.step {w0 w : World} {base : Nat} {vs : List Value} {ns : Nat → Nat} {k i g : Nat} (h : Mkd w0 base vs ns k i w) (hk : k < vs.length) (hi : i < ns k) (hv : (vs.getD k (.slice none 0 0)).ownBlock = some g) : Mkd w0 base vs ns k (i + 1) (w.setCell ⟨g, i, none⟩ (.int .u8 (mrk k i))) := by
  obtain ⟨xss, h1, h2, h3, h4⟩ := h.ex
  refine ⟨_, h1.store k i g hk hv (mrk k i), fun k' => ?_, fun k' hk' j hj => ?_, fun j hj => ?_⟩
  · unfold upd
    by_cases e : k' = k
    · subst e; rw [if_pos rfl, List.length_set]; exact h2 k'
    · rw [if_neg e]; exact h2 k'
  · unfold upd
    rw [if_neg (by omega)]
    exact h3 k' hk' j hj
  · unfold upd
    rw [if_pos rfl]
    have hl : i < (xss k).length := by rw [h2]; exact hi
    by_cases e : j = i
    · subst e; simp [List.getD, hl]
    · have := h4 j (by omega)
      simp only [List.getD, List.getElem?_set_ne (Ne.symm e)] at this ⊢
      exact this
/-- What is read and written there. -/
theorem Mkd.cell {w0 w : World} {base : Nat} {vs : List Value} {ns : Nat → Nat} {k i : Nat} (h : Mkd w0 base vs ns k i w) (hk : k < vs.length) : ∃ a cap, vs.getD k (.slice none 0 0) = .slice a (ns k) cap ∧
    (i < ns k → ∃ g z, a = some ⟨g, 0, none⟩ ∧ (vs.getD k (.slice none 0 0)).ownBlock = some g ∧ w.cell? ⟨g, i, none⟩ = some (.int .u8 z) ∧ w.frozen? ⟨g, i, none⟩ = false) := by
  obtain ⟨xss, h1, h2, _, _⟩ := h.ex
  have ho := h1.own k hk
  have hl := h2 k
  have hcs := fun g hg => World.ownsRow.cells ho (g := g) hg
  rcases ho.2 with ⟨e, h0⟩ | ⟨g, cap, cur, e, hb, hg, hn, hc, hs, ht⟩
  · exact ⟨none, 0, by rw [e, ← hl, h0], fun hi => by omega⟩
  · refine ⟨some ⟨g, 0, none⟩, cap, by rw [e, ← hl], fun hi => ⟨g, (xss k).getD i 0, rfl, by rw [e]; rfl, ?_, ?_⟩⟩
    · have := hcs g (by rw [e]; rfl) i (By ((xss k).getD i 0)) (by rw [← hl] at hi; simp [List.getD, hi])
      rw [addr_add0] at this
      exact this
    · simp only [World.frozen?, hg]; simp


/-- A byte appended to a row of one's own: the new row, where it lies, and THE OLD ROW READS AS IT DID. -/
theorem run_append_keep (w : World) (base : Nat) (ty : TypeId) (v : Value) (bs : List Int) (hown : w.ownsRow base 5 1 v bs.length (bs.map By)) (a : Addr) (c : Nat) (b : Int)
    (hnews : ∀ j u, [By b][j]? = some u → w.cell? (a.add j) = some u) (hN : bs.length + 1 ≤ 140737488355328) (hbase : base ≤ w.heap.size) :
    ∃ v' w', (Builtin.append_ #[33, 33] ty #[v, .slice (some a) 1 c]).run Try.prog w = .ok v' w' ∧ w'.ownsRow base 5 1 v' (bs.length + 1) (bs.map By ++ [By b]) ∧ w.grownBy w' v.ownBlock ∧
      (v'.ownBlock = v.ownBlock ∨ v'.ownBlock = some w.heap.size) ∧ Rd w' v bs := by
  obtain ⟨i0, hi0, hz0, hz1, hz2⟩ := info_parts Try.info5
  obtain ⟨v', w', hr, ho, hg, _, hat⟩ := run_append_own_at (P := Try.prog) w base 33 ty 5 i0 (.int .u8 0) 1 1 Try.underlying33 hi0 hz0 hz1 hz2 rfl (by decide) v bs.length (bs.map By) hown a 1 c [By b] rfl hnews (by simp [By, Value.oneCell']) (by unfold maxLen; omega) (by omega) hbase
  refine ⟨v', w', hr, ho, hg, hat, ?_⟩
  have hR := Rd.of_own hown
  rcases hown.2 with ⟨rfl, h0⟩ | ⟨g, cap, cur, rfl, hbg, hgc, hnc, hcm, hcs, htake⟩
  · exact .inl ⟨rfl, List.eq_nil_of_length_eq_zero h0⟩
  · have hlt : g < w.heap.size := (hown.lt g rfl).2
    by_cases hroom : bs.length + 1 ≤ cap
    · -- in place
      have hvb : v'.ownBlock = some g := by
        have hr2 := run_append_room (P := Try.prog) w 33 ty 5 i0 Try.underlying33 hi0 g bs.length cap cur hgc a 1 c [By b] (by rw [hz1]; rfl) hnews (by simp [By, Value.oneCell']) hroom (by rw [hz1]; simp; omega)
        rw [hr] at hr2
        simp only [Result.ok.injEq] at hr2
        rw [hr2.1]; rfl
      have hc := ho.cells (g := g) hvb
      refine .inr ⟨g, 0, cap, rfl, hnc, hcm, Nat.lt_of_lt_of_le hlt hg.size, fun i hi => ?_⟩
      have := hc i (By (bs.getD i 0)) (by rw [List.getElem?_append_left (by simpa using hi)]; simp [List.getD, hi])
      rw [addr_add] at this
      exact this
    · -- moved
      have holds : ∀ j u, (bs.map By)[j]? = some u → w.cell? ((⟨g, 0, none⟩ : Addr).add j) = some u := hown.cells (g := g) rfl
      have hr2 := run_append_grow (P := Try.prog) w 33 ty 5 i0 (.int .u8 0) Try.underlying33 hi0 hz0 ⟨g, 0, none⟩ bs.length cap (bs.map By) (by rw [hz1]; simp) holds a 1 c [By b] (by rw [hz1]; rfl) hnews (by omega) (by omega) (growslice_fits (by omega) (by rw [hz2]; omega))
      rw [hr] at hr2
      simp only [Result.ok.injEq] at hr2
      rw [hr2.2]
      exact hR.keep (S := fun _ => False) ((Fr.refl _ w).drew.alloc _) (by simp)
theorem wpList_append_keep {w : World} {ops : Array Oper} {rest : List Oper} {o : Oper} {a : Act} {Q : Exit → Act → World → Prop} (hgd : o.guard = none) (s x : Operand)
    (ho : o.op = .call { callee := .builtin .append, args := #[s, x], argTypes := #[33, 33] }) (base : Nat) (v : Value) (bs : List Int) (hs : a.eval s = v) (hown : w.ownsRow base 5 1 v bs.length (bs.map By))
    (ad : Addr) (c : Nat) (b : Int) (hx : a.eval x = .slice (some ad) 1 c) (hnews : ∀ j u, [By b][j]? = some u → w.cell? (ad.add j) = some u) (hN : bs.length + 1 ≤ 140737488355328) (hbase : base ≤ w.heap.size)
    (h : ∀ v' w', w'.ownsRow base 5 1 v' (bs.length + 1) (bs.map By ++ [By b]) → w.grownBy w' v.ownBlock → (v'.ownBlock = v.ownBlock ∨ v'.ownBlock = some w.heap.size) → Rd w' v bs → wpList Try.prog ops Q rest (a.put o.dst v') w') :
    wpList Try.prog ops Q (o :: rest) a w := by
  refine wpList_plain hgd fun K hK => ?_
  obtain ⟨v', w', hr, h2, h3, h4, h5⟩ := run_append_keep w base o.type v bs hown ad c b hnews hN hbase
  unfold Oper.wp execOp
  simp only [ho, resolve, invoke, builtin, Sem.run_bind, Sem.run_pure, Result.andThen_ok, List.map_toArray, List.map_cons, List.map_nil, hs, hx, hr]
  exact hK _ _ (h v' w' h2 h3 h4 h5)

/-- The marks of a row. -/
def mrks (k n : Nat) : List Int := (List.range n).map (mrk k)
theorem mrks_succ (k n : Nat) : mrks k (n + 1) = mrks k n ++ [mrk k n] := by simp [mrks, List.range_succ]
theorem mrks_length (k n : Nat) : (mrks k n).length = n := by simp [mrks]
theorem mrks_getD (k n i : Nat) (h : i < n) : (mrks k n).getD i 0 = mrk k i := by simp [mrks, List.getD, h]
theorem mrks_of (k n : Nat) (xs : List Int) (hl : xs.length = n) (h : ∀ j, j < n → xs.getD j 0 = mrk k j) : xs = mrks k n := by
  apply List.ext_getElem
  · rw [hl, mrks_length]
  · intro i h1 h2
    have e := h i (by omega)
    rw [List.getD, List.getElem?_eq_getElem h1] at e
    simp only [Option.getD_some] at e
    rw [e]
    simp [mrks]

/-- Of a row that grew in place, or moved, the beginning reads as it did. -/
theorem Rd.begin {w : World} {g n cap n2 cap2 : Nat} {k : Nat} (h : Rd w (.slice (some ⟨g, 0, none⟩) n2 cap2) (mrks k n2)) (hn : n ≤ n2) (hc : n ≤ cap) (hm : cap ≤ maxLen) (hg : g < w.heap.size) : Rd w (.slice (some ⟨g, 0, none⟩) n cap) (mrks k n) := by
  refine .inr ⟨g, 0, cap, by rw [mrks_length], by rw [mrks_length]; exact hc, hm, hg, fun i hi => ?_⟩
  rw [mrks_length] at hi
  obtain ⟨b, off, e, _, hcell⟩ := h.at i (by rw [mrks_length]; omega)
  simp only [Option.some.injEq, Addr.mk.injEq, and_true] at e
  obtain ⟨rfl, rfl⟩ := e
  rw [hcell, mrks_getD k n2 i (by omega), mrks_getD k n i hi]
end Go.Proofs.Ytaldacjeeccbhaa
