/-
  From.
-/
import Derived.Test.YthmcalapofjmfaaOX
namespace Go.Proofs.Ythmcalapofjmfaa
open Go.RowKit Go.Maps
set_option linter.unusedVariables false

theorem take_tx {l : List ByteArray} {j : Nat} (hj : j < l.length) : l.take (j + 1) = l.take j ++ [tx l j] := by
  rw [List.take_succ_eq_append_getElem hj]
  simp [tx, List.getD, List.getElem?_eq_getElem hj]
theorem take_new {l : List ByteArray} (hd : l.Nodup) {j : Nat} (hj : j < l.length) : idx (l.take j) (tx l j) = none := by
  have h : (l.take (j + 1)).Nodup := hd.sublist (List.take_sublist _ _)
  rw [take_tx hj, List.nodup_append] at h
  refine idx_none.2 (fun hm => h.2.2 _ hm _ (List.mem_singleton.2 rfl) rfl)
theorem ins_take {l : List ByteArray} {j : Nat} (hj : j < l.length) (h : idx (l.take j) (tx l j) = none) : ins (l.take j) (tx l j) = l.take (j + 1) ∧ num (l.take j) (tx l j) = j := by
  rw [(ins_new h).1, (ins_new h).2, take_tx hj]
  refine ⟨rfl, ?_⟩
  simp
  omega
theorem first_twice' {l : List ByteArray} : ∀ m, m ≤ l.length → (l.take m).Nodup ∨ ∃ j, j < m ∧ (l.take j).Nodup ∧ ∃ i, idx (l.take j) (tx l j) = some i
  | 0, _ => .inl (by simp)
  | m + 1, hm => by
    rcases first_twice' (l := l) m (by omega) with h | ⟨j, h1, h2⟩
    · cases e : idx (l.take m) (tx l m) with
      | none =>
        left
        rw [← (ins_take (l := l) (j := m) (by omega) e).1]
        exact ins_nodup h
      | some i => exact .inr ⟨m, by omega, h, i, e⟩
    · exact .inr ⟨j, by omega, h2⟩
theorem first_twice {l : List ByteArray} (h : ¬ l.Nodup) : ∃ j, j < l.length ∧ (l.take j).Nodup ∧ ∃ i, idx (l.take j) (tx l j) = some i := by
  rcases first_twice' (l := l) l.length (Nat.le_refl _) with q | q
  · rw [List.take_length] at q; exact absurd q h
  · exact q

set_option maxRecDepth 100000 in
set_option maxHeartbeats 800000 in
theorem from_yes {w : World} {v : Value} {l : List ByteArray} (h : Rt w v l) (hok : ∀ i, i < l.length → (tx l i).size ≤ maxLen) (hM : l.length ≤ 11999999999999) (hd : l.Nodup) :
    Calls Try.prog 15 #[v] w fun e w' => ∃ p, e = .returned (.tuple #[.pointer (some ⟨p, 0, none⟩), .bool true]) ∧ OX w p l w' := by
  have HOK := hide hok
  have HD := hide hd
  obtain ⟨a, cap, rfl, h1, h2, h3⟩ := h
  obtain ⟨n, hn⟩ : ∃ n, Hid (l.length = n) := ⟨_, rfl⟩
  rw [unhide hn] at h1 hM ⊢
  unfold maxLen at h2
  have H := hide h3
  have hNew := hide (OX.new w w (Below.refl _ _))
  clear h3 hok hd
  go_enter Try.func15, Try.ntmps15
  go_wp2_with fail
  refine (unhide hNew).mono ?_
  rintro e w1 ⟨p, rfl, hp, hO⟩
  have HO : Hid (OX w p (l.take 0) w1) := hO
  clear hO hNew hp
  go_wp2
  go_loopg [10] n (fun g t10 wr => ∃ j : Nat, Hid (j + g = n) ∧ t10 = .int .i64 (j : Int) ∧ Hid (OX w p (l.take j) wr))
  case atStart => exact ⟨0, by unfold Hid; omega, rfl, HO⟩
  case round =>
    clear HO
    obtain ⟨j, hj, rfl, HO⟩ := hrel
    by_cases hlt : j < n
    · obtain ⟨b, off, rfl, hb, hcl⟩ := unhide H j (by rw [unhide hn]; exact hlt)
      have c1 : wr.cell? ⟨b, off + j, none⟩ = some (.string (tx l j)) := by rw [(unhide HO).bel.cell (p := ⟨b, off + j, none⟩) hb, hcl]
      have hadd := (unhide HO).add (tx l j) (unhide HOK j (by rw [unhide hn]; exact hlt)) (by rw [List.length_take]; omega)
      obtain ⟨e1, e2⟩ := ins_take (l := l) (j := j) (by rw [unhide hn]; exact hlt) (take_new (unhide HD) (by rw [unhide hn]; exact hlt))
      rw [e1, e2] at hadd
      obtain ⟨tj, HTJ⟩ : ∃ tj, Hid (tx l j = tj) := ⟨_, rfl⟩
      rw [unhide HTJ] at c1 hadd
      have HA := hide hadd
      have i0 : (0 : Int) ≤ (j : Int) := by omega
      have i1 : (j : Int) < (n : Int) := by omega
      clear hcl hadd e1 e2
      go_wp2_with fail
      refine (unhide HA).mono ?_
      rintro e w3 ⟨rfl, hO3⟩
      have HO3 := hide hO3
      clear hO3 HA HO c1
      go_wp2
      go_roundg (gk - 1)
      case measure => have := unhide hj; omega
      case rel => exact ⟨j + 1, by have := unhide hj; unfold Hid; omega, by go_num, HO3⟩
    · have HO2 : Hid (OX w p l wr) := by
        have := unhide HO
        rw [List.take_of_length_le (by rw [unhide hn]; omega)] at this
        exact this
      clear HO
      go_wp2
      go_ret2
      exact ⟨p, rfl, unhide HO2⟩

set_option maxRecDepth 100000 in
set_option maxHeartbeats 800000 in
theorem from_no {w : World} {v : Value} {l : List ByteArray} (h : Rt w v l) (hok : ∀ i, i < l.length → (tx l i).size ≤ maxLen) (hM : l.length ≤ 11999999999999) (hd : ¬ l.Nodup) :
    Calls Try.prog 15 #[v] w fun e w' => e = .returned (.tuple #[.pointer none, .bool false]) ∧ Below w.heap.size w w' := by
  have HOK := hide hok
  obtain ⟨m, hm, hdm, i, him⟩ := first_twice hd
  obtain ⟨a, cap, rfl, h1, h2, h3⟩ := h
  obtain ⟨n, hn⟩ : ∃ n, Hid (l.length = n) := ⟨_, rfl⟩
  rw [unhide hn] at h1 hM hm ⊢
  unfold maxLen at h2
  have H := hide h3
  have HIM := hide him
  have HDM := hide hdm
  have him2 : i < m := by have := (idx_some him).1; rw [List.length_take] at this; omega
  have hNew := hide (OX.new w w (Below.refl _ _))
  clear h3 hok hd him hdm
  go_enter Try.func15, Try.ntmps15
  go_wp2_with fail
  refine (unhide hNew).mono ?_
  rintro e w1 ⟨p, rfl, hp, hO⟩
  have HO : Hid (OX w p (l.take 0) w1) := hO
  clear hO hNew hp
  go_wp2
  go_loopg [10] m (fun g t10 wr => ∃ j : Nat, Hid (j + g = m) ∧ j ≤ m ∧ t10 = .int .i64 (j : Int) ∧ Hid (OX w p (l.take j) wr))
  case atStart => exact ⟨0, by unfold Hid; omega, Nat.zero_le _, rfl, HO⟩
  case round =>
    clear HO
    obtain ⟨j, hj, hjm, rfl, HO⟩ := hrel
    have hlt : j < n := by omega
    obtain ⟨b, off, rfl, hb, hcl⟩ := unhide H j (by rw [unhide hn]; exact hlt)
    have c1 : wr.cell? ⟨b, off + j, none⟩ = some (.string (tx l j)) := by rw [(unhide HO).bel.cell (p := ⟨b, off + j, none⟩) hb, hcl]
    have hadd := (unhide HO).add (tx l j) (unhide HOK j (by rw [unhide hn]; exact hlt)) (by rw [List.length_take]; omega)
    have i0 : (0 : Int) ≤ (j : Int) := by omega
    have i1 : (j : Int) < (n : Int) := by omega
    by_cases hq : j < m
    · have htl : tx l j = tx (l.take m) j := (tx_take hq).symm
      have hnew : idx (l.take j) (tx l j) = none := by
        have := take_new (unhide HDM) (j := j) (by rw [List.length_take, unhide hn]; omega)
        rwa [← htl, List.take_take, Nat.min_eq_left (by omega)] at this
      obtain ⟨e1, e2⟩ := ins_take (l := l) (j := j) (by rw [unhide hn]; exact hlt) hnew
      rw [e1, e2] at hadd
      clear htl hnew
      obtain ⟨tj, HTJ⟩ : ∃ tj, Hid (tx l j = tj) := ⟨_, rfl⟩
      rw [unhide HTJ] at c1 hadd
      have HA := hide hadd
      clear hcl hadd e1 e2
      go_wp2_with fail
      refine (unhide HA).mono ?_
      rintro e w3 ⟨rfl, hO3⟩
      have HO3 := hide hO3
      clear hO3 HA HO c1
      go_wp2
      go_roundg (gk - 1)
      case measure => have := unhide hj; omega
      case rel => exact ⟨j + 1, by have := unhide hj; unfold Hid; omega, by omega, by go_num, HO3⟩
    · have e : j = m := by omega
      rw [e, (ins_old (unhide HIM)).2] at hadd
      rw [← e] at hadd him2
      clear e
      obtain ⟨tj, HTJ⟩ : ∃ tj, Hid (tx l j = tj) := ⟨_, rfl⟩
      rw [unhide HTJ] at c1 hadd
      have HA := hide hadd
      have hne : ((i : Int) != (j : Int)) = true := by rw [bne_iff_ne]; omega
      clear hcl hadd
      go_wp2_with fail
      refine (unhide HA).mono ?_
      rintro e w3 ⟨rfl, hO3⟩
      have HO3 := hide hO3.bel
      clear hO3 HA HO c1
      go_wp2
      go_ret2
      exact ⟨rfl, unhide HO3⟩
end Go.Proofs.Ythmcalapofjmfaa
