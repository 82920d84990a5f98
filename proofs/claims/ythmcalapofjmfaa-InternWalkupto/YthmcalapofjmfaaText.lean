/-
  Rows of texts that came in; Find and Ahead, as the document has them.
-/
import Derived.Test.YthmcalapofjmfaaAdd
import Derived.Deep.QuietTactic
import Derived.BigQuiet
namespace Go.Proofs.Ythmcalapofjmfaa
open Go.RowKit Go.Maps
set_option linter.unusedVariables false

/-- A slice reads as these texts. -/
def Rt (w : World) (v : Value) (rs : List ByteArray) : Prop :=
  ∃ a cap, v = .slice a rs.length cap ∧ rs.length ≤ cap ∧ cap ≤ maxLen ∧ ∀ i, i < rs.length → ∃ b off, a = some ⟨b, off, none⟩ ∧ b < w.heap.size ∧ w.cell? ⟨b, off + i, none⟩ = some (.string (tx rs i))

theorem Rt.keep {w w' : World} {v : Value} {rs : List ByteArray} (h : Rt w v rs) (hs : w.heap.size ≤ w'.heap.size) (hb : ∀ g, v.ownBlock = some g → w'.heap[g]? = w.heap[g]?) : Rt w' v rs := by
  obtain ⟨a, cap, rfl, h1, h2, h3⟩ := h
  refine ⟨a, cap, rfl, h1, h2, fun i hi => ?_⟩
  obtain ⟨b, off, rfl, h4, h5⟩ := h3 i hi
  exact ⟨b, off, rfl, by omega, by rw [World.cell?_of_block (hb b rfl)]; exact h5⟩
theorem Rt.below {w w' : World} {v : Value} {rs : List ByteArray} (h : Rt w v rs) (hB : Below w.heap.size w w') : Rt w' v rs := by
  obtain ⟨a, cap, rfl, h1, h2, h3⟩ := h
  refine ⟨a, cap, rfl, h1, h2, fun i hi => ?_⟩
  obtain ⟨b, off, rfl, h4, h5⟩ := h3 i hi
  exact ⟨b, off, rfl, Nat.lt_of_lt_of_le h4 hB.size, by rw [hB.cell (p := ⟨b, off + i, none⟩) h4]; exact h5⟩
theorem Rt.drewN {w : World} {v : Value} {rs : List ByteArray} (h : Rt w v rs) (n : Nat) : Rt (w.drewN n) v rs := h
theorem Rt.own {w : World} {base : Nat} {v : Value} {rs : List ByteArray} (h : w.ownsRow base 9 1 v rs.length (rs.map Value.string)) : Rt w v rs := by
  have hl := h.lt
  rcases h.2 with ⟨e, h0⟩ | ⟨g, cap, cur, e, hb, hg, hn, hc, hs, ht⟩
  · exact ⟨none, 0, by rw [e, h0], by omega, Nat.zero_le _, fun i hi => by omega⟩
  · refine ⟨_, cap, e, hn, hc, fun i hi => ⟨g, 0, rfl, (hl g (by rw [e]; rfl)).2, ?_⟩⟩
    have hlen : i < cur.size := by rw [hs]; omega
    have h2 : (cur.toList.take (rs.length * 1))[i]? = some (cur.toList[i]'(by simpa using hlen)) := by
      rw [List.getElem?_take, if_pos (by omega)]
      exact List.getElem?_eq_getElem _
    rw [ht, List.getElem?_map, List.getElem?_eq_getElem hi] at h2
    simp only [Option.map_some, Option.some.injEq] at h2
    have e3 : tx rs i = rs[i] := by simp [tx, List.getD, List.getElem?_eq_getElem hi]
    rw [e3, h2]
    simp [World.cell?, hg, hlen]
theorem Rt.take {w : World} {a : Option Addr} {cap : Nat} {rs : List ByteArray} (h : Rt w (.slice a rs.length cap) rs) {j : Nat} (hj : j ≤ rs.length) : Rt w (.slice a j cap) (rs.take j) := by
  obtain ⟨a', cap', e, h1, h2, h3⟩ := h
  cases e
  have hl : (rs.take j).length = j := by simp; omega
  refine ⟨a, cap, by rw [hl], by omega, h2, fun i hi => ?_⟩
  obtain ⟨b, off, rfl, h4, h5⟩ := h3 i (by omega)
  exact ⟨b, off, rfl, h4, by rw [tx_take (by omega)]; exact h5⟩

theorem Rt.cell {w : World} {b off n cap : Nat} {rs : List ByteArray} (h : Rt w (.slice (some ⟨b, off, none⟩) n cap) rs) {i : Nat} (hi : i < rs.length) : w.cell? ⟨b, off + i, none⟩ = some (.string (tx rs i)) := by
  obtain ⟨a, c, e, h1, h2, h3⟩ := h
  cases e
  obtain ⟨b', off', e, h4, h5⟩ := h3 i hi
  cases e
  exact h5
theorem Rt.cell0 {w : World} {b n cap : Nat} {rs : List ByteArray} (h : Rt w (.slice (some ⟨b, 0, none⟩) n cap) rs) {i : Nat} (hi : i < rs.length) : w.cell? ⟨b, i, none⟩ = some (.string (tx rs i)) := by
  have := h.cell hi
  rwa [Nat.zero_add] at this
theorem drewN_drewN (w : World) (a b : Nat) : (w.drewN a).drewN b = w.drewN (a + b) := by
  simp [World.drewN, Nat.add_assoc]
theorem eqs_no {s t : ByteArray} (h : s ≠ t) : (s.toList == t.toList) = false := by
  simp only [ByteArray.toList_eq, beq_eq_false_iff_ne, ne_eq, Array.toList_inj]
  intro e
  cases s; cases t
  exact h (by simpa using e)
theorem nes_no {s t : ByteArray} (h : s ≠ t) : (!(s.toList == t.toList)) = true := by rw [eqs_no h]; rfl

theorem tx_cons_succ (r : ByteArray) (rs : List ByteArray) (i : Nat) : tx (r :: rs) (i + 1) = tx rs i := by simp [tx]
theorem idx_first {s : ByteArray} : ∀ {rs : List ByteArray} {j : Nat}, (∀ i, i < j → tx rs i ≠ s) → j < rs.length → tx rs j = s → idx rs s = some j
  | [], j, _, h, _ => by simp at h
  | r :: rs, 0, _, _, h => by
    have : r = s := by simpa [tx] using h
    simp [idx, this]
  | r :: rs, j + 1, h1, h2, h3 => by
    have h4 : ¬ r = s := by have := h1 0 (by omega); simpa [tx] using this
    rw [tx_cons_succ] at h3
    have := idx_first (rs := rs) (j := j) (fun i hi => by have := h1 (i + 1) (by omega); rwa [tx_cons_succ] at this) (by simpa using h2) h3
    simp [idx, h4, this]
theorem mem_tx {rs : List ByteArray} {s : ByteArray} (h : s ∈ rs) : ∃ i, i < rs.length ∧ tx rs i = s := by
  obtain ⟨i, hi⟩ := idx_mem h
  exact ⟨i, idx_some hi⟩
theorem idx_never {rs : List ByteArray} {s : ByteArray} (h : ∀ i, i < rs.length → tx rs i ≠ s) : idx rs s = none :=
  idx_none.2 (fun hm => by obtain ⟨i, hi, e⟩ := mem_tx hm; exact h i hi e)

set_option maxRecDepth 100000 in
set_option maxHeartbeats 800000 in
theorem rfind_any {w : World} {v : Value} {rs : List ByteArray} (h : Rt w v rs) (s : ByteArray) : Calls Try.prog 33 #[v, .string s] w fun e w' =>
    e = .returned (.tuple #[.int .i64 (((idx rs s).getD 0 : Nat) : Int), .bool (idx rs s).isSome]) ∧ w' = w := by
  obtain ⟨a, cap, rfl, h1, h2, h3⟩ := h
  obtain ⟨n, hn⟩ : ∃ n, Hid (rs.length = n) := ⟨_, rfl⟩
  rw [unhide hn] at h1 ⊢
  unfold maxLen at h2
  have H := hide h3
  clear h3
  go_enter Try.func33, Try.ntmps33
  go_wp2
  go_loopg [6] n (fun k t wr => ∃ j : Nat, Hid (j + k = n) ∧ t = .int .i64 j ∧ wr = w ∧ Hid (∀ i, i < j → tx rs i ≠ s))
  case atStart => exact ⟨0, by unfold Hid; omega, rfl, rfl, fun i hi => by omega⟩
  case round =>
    obtain ⟨j, hj, rfl, rfl, hno⟩ := hrel
    by_cases hlt : j < n
    · obtain ⟨b, off, rfl, hb, hc⟩ := unhide H j (by rw [unhide hn]; exact hlt)
      have i0 : (0 : Int) ≤ (j : Int) := by omega
      have i1 : (j : Int) < (n : Int) := by omega
      by_cases he : tx rs j = s
      · have hr := hide (idx_first (unhide hno) (by rw [unhide hn]; exact hlt) he)
        rw [he] at hc
        clear he
        go_wp2
        go_ret2
        rw [unhide hr]
        exact ⟨rfl, rfl⟩
      · have hb2 := eqs_no he
        have HE := hide he
        clear he
        generalize ht : tx rs j = t at *
        have HT := hide ht
        clear ht
        go_wp2
        go_roundg (gk - 1)
        case measure => have := unhide hj; omega
        case rel =>
          refine ⟨j + 1, by have := unhide hj; unfold Hid; omega, by go_num, rfl, fun i hi => ?_⟩
          by_cases e : i = j
          · rw [e, unhide HT]; exact unhide HE
          · exact unhide hno i (by omega)
    · have hr := hide (idx_never (rs := rs) (s := s) (fun i hi => unhide hno i (by have := unhide hn; omega)))
      go_wp2
      go_ret2
      rw [unhide hr]
      exact ⟨rfl, rfl⟩
end Go.Proofs.Ythmcalapofjmfaa
