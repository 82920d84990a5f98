/-
  An append that keeps the old row; rows that grow by marks.
-/
import Derived.Test.YthmcalapofjmfaaMarks
namespace Go.Proofs.Ythmcalapofjmfaa
open Go.RowKit Go.Maps
set_option linter.unusedVariables false

theorem Rt.fr {S : Nat → Prop} {w w' : World} {v : Value} {rs : List ByteArray} (h : Rt w v rs) (f : Fr S w w') (hn : ∀ b, v.ownBlock = some b → ¬ S b) : Rt w' v rs := by
  obtain ⟨a, cap, rfl, h1, h2, h3⟩ := h
  refine ⟨a, cap, rfl, h1, h2, fun i hi => ?_⟩
  obtain ⟨b, off, rfl, h4, h5⟩ := h3 i hi
  exact ⟨b, off, rfl, Nat.lt_of_lt_of_le h4 f.size, (f.cell (a := ⟨b, off + i, none⟩) h4 (hn b rfl)).trans h5⟩

theorem run_append_keep (w : World) (base : Nat) (ty : TypeId) (v : Value) (bs : List ByteArray) (hown : w.ownsRow base 9 1 v bs.length (bs.map Value.string)) (a : Addr) (c : Nat) (b : ByteArray)
    (hnews : ∀ j u, [Value.string b][j]? = some u → w.cell? (a.add j) = some u) (hN : bs.length + 1 ≤ 12000000000000) (hbase : base ≤ w.heap.size) :
    ∃ v' w', (Builtin.append_ #[26, 26] ty #[v, .slice (some a) 1 c]).run Try.prog w = .ok v' w' ∧ w'.ownsRow base 9 1 v' (bs.length + 1) (bs.map Value.string ++ [Value.string b]) ∧ w.grownBy w' v.ownBlock ∧
      (v'.ownBlock = v.ownBlock ∨ v'.ownBlock = some w.heap.size) ∧ Rt w' v bs := by
  obtain ⟨v', w', hr, ho, hg, hat, hk⟩ := run_app w base ty v bs.length (bs.map Value.string) hown a c b hnews hN hbase
  refine ⟨v', w', hr, ho, hg, hat, ?_⟩
  have hlt := hown.lt
  rcases hown.2 with ⟨rfl, h0⟩ | ⟨g, cap, cur, rfl, hbg, hgc, hnc, hcm, hcs, htake⟩
  · exact ⟨none, 0, by rw [h0], by omega, Nat.zero_le _, fun i hi => by omega⟩
  · refine ⟨_, cap, rfl, hnc, hcm, fun i hi => ⟨g, 0, rfl, Nat.lt_of_lt_of_le (hlt g rfl).2 hg.size, ?_⟩⟩
    rw [Nat.zero_add]
    exact hk g rfl i _ (by rw [List.getElem?_map, List.getElem?_eq_getElem hi]; simp [tx, List.getD, hi])

theorem wpList_append_keep {w : World} {ops : Array Oper} {rest : List Oper} {o : Oper} {a : Act} {Q : Exit → Act → World → Prop} (hgd : o.guard = none) (s x : Operand)
    (ho : o.op = .call { callee := .builtin .append, args := #[s, x], argTypes := #[26, 26] }) (base : Nat) (v : Value) (bs : List ByteArray) (hs : a.eval s = v) (hown : w.ownsRow base 9 1 v bs.length (bs.map Value.string))
    (ad : Addr) (c : Nat) (b : ByteArray) (hx : a.eval x = .slice (some ad) 1 c) (hnews : ∀ j u, [Value.string b][j]? = some u → w.cell? (ad.add j) = some u) (hN : bs.length + 1 ≤ 12000000000000) (hbase : base ≤ w.heap.size)
    (h : ∀ v' w', w'.ownsRow base 9 1 v' (bs.length + 1) (bs.map Value.string ++ [Value.string b]) → w.grownBy w' v.ownBlock → (v'.ownBlock = v.ownBlock ∨ v'.ownBlock = some w.heap.size) → Rt w' v bs → wpList Try.prog ops Q rest (a.put o.dst v') w') :
    wpList Try.prog ops Q (o :: rest) a w := by
  refine wpList_plain hgd fun K hK => ?_
  obtain ⟨v', w', hr, h2, h3, h4, h5⟩ := run_append_keep w base o.type v bs hown ad c b hnews hN hbase
  unfold Oper.wp execOp
  simp only [ho, resolve, invoke, builtin, Sem.run_bind, Sem.run_pure, Result.andThen_ok, List.map_toArray, List.map_cons, List.map_nil, hs, hx, hr]
  exact hK _ _ (h v' w' h2 h3 h4 h5)

/-- The marks of a row. -/
def mrks (k n : Nat) : List ByteArray := (List.range n).map (mrk k)
theorem mrks_succ (k n : Nat) : mrks k (n + 1) = mrks k n ++ [mrk k n] := by simp [mrks, List.range_succ]
theorem mrks_length (k n : Nat) : (mrks k n).length = n := by simp [mrks]
theorem mrks_tx (k n i : Nat) (h : i < n) : tx (mrks k n) i = mrk k i := by simp [tx, mrks, List.getD, h]
theorem mrks_of (k n : Nat) (xs : List ByteArray) (hl : xs.length = n) (h : ∀ j, j < n → xs.getD j ByteArray.empty = mrk k j) : xs = mrks k n := by
  apply List.ext_getElem
  · rw [hl, mrks_length]
  · intro i h1 h2
    have e := h i (by omega)
    rw [List.getD, List.getElem?_eq_getElem h1] at e
    simp only [Option.getD_some] at e
    rw [e]
    simp [mrks]

/-- Of a row that grew in place, or moved, the beginning reads as it did. -/
theorem Rt.begin {w : World} {g n cap n2 cap2 : Nat} {k : Nat} (h : Rt w (.slice (some ⟨g, 0, none⟩) n2 cap2) (mrks k n2)) (hn : n ≤ n2) (hc : n ≤ cap) (hm : cap ≤ maxLen) (hg : g < w.heap.size) : Rt w (.slice (some ⟨g, 0, none⟩) n cap) (mrks k n) := by
  refine ⟨_, cap, by rw [mrks_length], by rw [mrks_length]; exact hc, hm, fun i hi => ⟨g, 0, rfl, hg, ?_⟩⟩
  rw [mrks_length] at hi
  rw [h.cell (by rw [mrks_length]; omega), mrks_tx k n2 i (by omega), mrks_tx k n i hi]
end Go.Proofs.Ythmcalapofjmfaa
