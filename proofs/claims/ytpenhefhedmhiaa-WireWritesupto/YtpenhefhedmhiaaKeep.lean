/-
  An append that keeps the old row, at its operation; and rows that grow by marks.
-/
import Derived.Test.YtpenhefhedmhiaaMarks
namespace Go.Proofs.Ytpenhefhedmhiaa
open Go.RowKit

theorem wpList_append_keep {w : World} {ops : Array Oper} {rest : List Oper} {o : Oper} {a : Act} {Q : Exit → Act → World → Prop} (hgd : o.guard = none) (s x : Operand)
    (ho : o.op = .call { callee := .builtin .append, args := #[s, x], argTypes := #[25, 25] }) (base : Nat) (v : Value) (bs : List Int) (hs : a.eval s = v) (hown : w.ownsRow base 5 1 v bs.length (bs.map By))
    (ad : Addr) (c : Nat) (b : Int) (hx : a.eval x = .slice (some ad) 1 c) (hnews : ∀ j u, [By b][j]? = some u → w.cell? (ad.add j) = some u) (hN : bs.length + 1 ≤ 140737488355328) (hbase : base ≤ w.heap.size)
    (h : ∀ v' w', w'.ownsRow base 5 1 v' (bs.length + 1) (bs.map By ++ [By b]) → w.grownBy w' v.ownBlock → (v'.ownBlock = v.ownBlock ∨ v'.ownBlock = some w.heap.size) → Rd w' v bs → wpList Try.prog ops Q rest (a.put o.dst v') w') :
    wpList Try.prog ops Q (o :: rest) a w := by
  refine wpList_plain hgd fun K hK => ?_
  obtain ⟨v', w', hr, h2, h3, h4, h5⟩ := run_append_keep w base o.type v bs hown ad c b hnews hN hbase
  unfold Oper.wp execOp
  simp only [ho, resolve, invoke, builtin, Sem.run_bind, Sem.run_pure, Result.andThen_ok, List.map_toArray, List.map_cons, List.map_nil, hs, hx, hr]
  exact hK _ _ (h v' w' h2 h3 h4 h5)

/-- The marks of a row. -/
def mrks (k n : Nat) : List Int := (List.range n).map (mrk k)
theorem mrks_succ (k n : Nat) : mrks k (n + 1) = mrks k n ++ [mrk k n] := by simp [mrks, List.range_succ]
theorem mrks_length (k n : Nat) : (mrks k n).length = n := by simp [mrks]
theorem mrks_getD (k n i : Nat) (h : i < n) : (mrks k n).getD i 0 = mrk k i := by simp [mrks, List.getD, h]
theorem mrks_of (k n : Nat) (xs : List Int) (hl : xs.length = n) (h : ∀ j, j < n → xs.getD j 0 = mrk k j) : xs = mrks k n := by
  apply List.ext_getElem
  · rw [hl, mrks_length]
  · intro i h1 h2
    have e := h i (by omega)
    rw [List.getD, List.getElem?_eq_getElem h1] at e
    simp only [Option.getD_some] at e
    rw [e]
    simp [mrks]

/-- Of a row that grew in place, or moved, the beginning reads as it did. -/
theorem Rd.begin {w : World} {g n cap n2 cap2 : Nat} {k : Nat} (h : Rd w (.slice (some ⟨g, 0, none⟩) n2 cap2) (mrks k n2)) (hn : n ≤ n2) (hc : n ≤ cap) (hm : cap ≤ maxLen) (hg : g < w.heap.size) : Rd w (.slice (some ⟨g, 0, none⟩) n cap) (mrks k n) := by
  refine .inr ⟨g, 0, cap, by rw [mrks_length], by rw [mrks_length]; exact hc, hm, hg, fun i hi => ?_⟩
  rw [mrks_length] at hi
  obtain ⟨b, off, e, _, hcell⟩ := h.at i (by rw [mrks_length]; omega)
  simp only [Option.some.injEq, Addr.mk.injEq, and_true] at e
  obtain ⟨rfl, rfl⟩ := e
  rw [hcell, mrks_getD k n2 i (by omega), mrks_getD k n i hi]
end Go.Proofs.Ytpenhefhedmhiaa
