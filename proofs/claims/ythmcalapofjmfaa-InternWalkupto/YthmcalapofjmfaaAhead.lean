/-
  Ahead, as the document has it.
-/
import Derived.Test.YthmcalapofjmfaaText
namespace Go.Proofs.Ythmcalapofjmfaa
open Go.RowKit Go.Maps
set_option linter.unusedVariables false
set_option linter.unusedSimpArgs false

theorem take_mem {rs : List ByteArray} {j : Nat} (hj : j ≤ rs.length) (s : ByteArray) : s ∈ rs.take j ↔ ∃ i, i < j ∧ tx rs i = s := by
  constructor
  · intro h
    obtain ⟨i, hi, e⟩ := mem_tx h
    have h2 : i < j := by simp at hi; omega
    exact ⟨i, h2, by rwa [tx_take h2] at e⟩
  · rintro ⟨i, hi, rfl⟩
    rw [← tx_take hi]
    exact tx_mem (by simp; omega)
theorem idx_take_row {l : List ByteArray} {j : Nat} (hj : j ≤ l.length) (s : ByteArray) : idx (l.take j) s = none ↔ idx (rowOf l j) s = none := by
  rw [idx_none, idx_none, take_mem hj, rowOf_mem]
theorem row_step_new {l : List ByteArray} {j : Nat} (hj : j ≤ l.length) (h : idx (l.take j) (tx l j) = none) : (rowOf l (j + 1)).length = (rowOf l j).length + 1 := by
  show (ins (rowOf l j) (tx l j)).length = _
  rw [(ins_new ((idx_take_row hj _).1 h)).1]
  simp
theorem row_step_old {l : List ByteArray} {j : Nat} (hj : j ≤ l.length) {i : Nat} (h : idx (l.take j) (tx l j) = some i) : (rowOf l (j + 1)).length = (rowOf l j).length := by
  show (ins (rowOf l j) (tx l j)).length = _
  cases e : idx (rowOf l j) (tx l j) with
  | some k => rw [(ins_old e).1]
  | none => rw [(idx_take_row hj _).2 e] at h; cases h

theorem ahead_hit {l : List ByteArray} {j k : Nat} (hjk : j < k) (hno : ∀ i, i < j → tx l i ≠ tx l k) (he : tx l j = tx l k) : num (rowOf l k) (tx l k) = (rowOf l j).length := by
  have h1 : idx (rowOf l j) (tx l k) = none := idx_none.2 (fun h => by obtain ⟨i, hi, e⟩ := (rowOf_mem l j _).1 h; exact hno i hi e)
  have h2 : idx (rowOf l (j + 1)) (tx l k) = some (rowOf l j).length := by
    show idx (ins (rowOf l j) (tx l j)) (tx l k) = _
    rw [he, num_idx, (ins_new h1).2]
  exact (ins_old (rowOf_idx hjk h2)).2
theorem ahead_miss {l : List ByteArray} {k : Nat} (hno : ∀ i, i < k → tx l i ≠ tx l k) : num (rowOf l k) (tx l k) = (rowOf l k).length :=
  (ins_new (idx_none.2 (fun h => by obtain ⟨i, hi, e⟩ := (rowOf_mem l k _).1 h; exact hno i hi e))).2

set_option maxRecDepth 100000 in
set_option maxHeartbeats 1600000 in
theorem ahead_any {w : World} {v : Value} {l : List ByteArray} (h : Rt w v l) (k : Nat) (hk : k < l.length) : Calls Try.prog 28 #[v, .int .i64 (k : Int)] w fun e w' =>
    e = .returned (.int .i64 ((num (rowOf l k) (tx l k) : Nat) : Int)) ∧ ∃ m, w' = w.drewN m := by
  have hR := hide h
  obtain ⟨a, cap, rfl, h1, h2, h3⟩ := h
  obtain ⟨n, hn⟩ : ∃ n, Hid (l.length = n) := ⟨_, rfl⟩
  rw [unhide hn] at h1 hk ⊢
  unfold maxLen at h2
  have H := hide h3
  clear h3
  obtain ⟨b, off, rfl, hb, hck⟩ := unhide H k (by rw [unhide hn]; exact hk)
  obtain ⟨R, HR⟩ : ∃ R : Nat, Hid (num (rowOf l k) (tx l k) = R) := ⟨_, rfl⟩
  rw [unhide HR]
  obtain ⟨tk, HTK⟩ : ∃ tk, Hid (tx l k = tk) := ⟨_, rfl⟩
  rw [unhide HTK] at hck
  have k0 : (0 : Int) ≤ (k : Int) := by omega
  have k1 : (k : Int) < (n : Int) := by omega
  have HCK := hide hck
  clear hck
  go_enter Try.func28, Try.ntmps28
  go_wp2
  go_loopg [5, 6] k (fun g t5 t6 wr => ∃ j c : Nat, Hid (j + g = k) ∧ t5 = .int .i64 (c : Int) ∧ c ≤ j ∧ Hid ((rowOf l j).length = c) ∧ t6 = .int .i64 (j : Int) ∧ Hid (∃ m, wr = w.drewN m) ∧ Hid (∀ i, i < j → tx l i ≠ tk))
  case atStart => exact ⟨0, 0, by unfold Hid; omega, rfl, Nat.le_refl _, rfl, rfl, ⟨0, rfl⟩, fun i hi => by omega⟩
  case round =>
    obtain ⟨j, c, hj, rfl, hcj, hc, rfl, hw, hno⟩ := hrel
    by_cases hlt : j < k
    · obtain ⟨b', off', e', _, hcj0⟩ := unhide H j (by rw [unhide hn]; omega)
      cases e'
      obtain ⟨tj, HTJ⟩ : ∃ tj, Hid (tx l j = tj) := ⟨_, rfl⟩
      rw [unhide HTJ] at hcj0
      have c1 : wr.cell? ⟨b, off + j, none⟩ = some (.string tj) := by obtain ⟨m, e⟩ := unhide hw; rw [e]; exact hcj0
      have c2 : wr.cell? ⟨b, off + k, none⟩ = some (.string tk) := by obtain ⟨m, e⟩ := unhide hw; rw [e]; exact unhide HCK
      have i0 : (0 : Int) ≤ (j : Int) := by omega
      have i1 : (j : Int) < (n : Int) := by omega
      have i2 : (j : Int) ≤ (cap : Int) := by omega
      clear hcj0
      by_cases he : tj = tk
      · have hr : Hid (R = c) := by
          have := ahead_hit hlt (fun i hi => by rw [unhide HTK]; exact unhide hno i hi) (by rw [unhide HTJ, unhide HTK, he])
          rw [unhide HR, unhide hc] at this
          exact this
        subst he
        go_wp2
        go_quiet (fail)
        go_wp2
        go_ret
        obtain ⟨m, e⟩ := unhide hw
        rw [unhide hr, e]
        exact ⟨rfl, m + nq, by rw [drewN_drewN]⟩
      · have hb2 := eqs_no he
        have HE := hide he
        clear he
        have hF := hide (fun W (hW : Hid (∃ m, W = w.drewN m)) q => rfind_any (w := W.drewN q) (v := .slice (some ⟨b, off, none⟩) j cap) (rs := l.take j) (by
          obtain ⟨m, e⟩ := unhide hW
          rw [e]
          exact ((Rt.take (unhide hR) (by rw [unhide hn]; omega)).drewN m).drewN q) tj)
        cases hix : idx (l.take j) tj with
        | none =>
          have hst : Hid ((rowOf l (j + 1)).length = c + 1) := by
            have := row_step_new (l := l) (j := j) (by rw [unhide hn]; omega) (by rw [unhide HTJ]; exact hix)
            rw [unhide hc] at this
            exact this
          rw [hix] at hF
          simp only [Option.getD_none, Option.isSome_none, Option.getD_some, Option.isSome_some] at hF
          clear hix
          go_wp2
          go_quiet (fail)
          have c1' : (wr.drewN nq).cell? ⟨b, off + j, none⟩ = some (.string tj) := c1
          have hw2 : Hid (∃ m, wr.drewN nq = w.drewN m) := by obtain ⟨m, e⟩ := unhide hw; exact ⟨m + nq, by rw [e, drewN_drewN]⟩
          have hF2 := hide (unhide hF _ hw2)
          clear c1 c2 hw hF
          generalize wr.drewN nq = wr2 at *
          go_wp2
          go_quiet (first | (go_at_call 33; go_must (exact Calls.quiet_of_same (unhide hF2 _))))
          go_wp2
          go_roundg (gk - 1)
          case measure => have := unhide hj; omega
          case rel =>
            refine ⟨j + 1, c + 1, by have := unhide hj; unfold Hid; omega, by first | rfl | go_num, by omega, hst, by go_num, ?_, fun i hi => ?_⟩
            · obtain ⟨m, e⟩ := unhide hw2
              exact ⟨m + nq, by rw [e, drewN_drewN]⟩
            · by_cases e : i = j
              · rw [e, unhide HTJ]; exact unhide HE
              · exact unhide hno i (by omega)
        | some q =>
          have hst : Hid ((rowOf l (j + 1)).length = c) := by
            have := row_step_old (l := l) (j := j) (by rw [unhide hn]; omega) (by rw [unhide HTJ]; exact hix)
            rw [unhide hc] at this
            exact this
          rw [hix] at hF
          simp only [Option.getD_none, Option.isSome_none, Option.getD_some, Option.isSome_some] at hF
          clear hix
          go_wp2
          go_quiet (fail)
          have c1' : (wr.drewN nq).cell? ⟨b, off + j, none⟩ = some (.string tj) := c1
          have hw2 : Hid (∃ m, wr.drewN nq = w.drewN m) := by obtain ⟨m, e⟩ := unhide hw; exact ⟨m + nq, by rw [e, drewN_drewN]⟩
          have hF2 := hide (unhide hF _ hw2)
          clear c1 c2 hw hF
          generalize wr.drewN nq = wr2 at *
          go_wp2
          go_quiet (first | (go_at_call 33; go_must (exact Calls.quiet_of_same (unhide hF2 _))))
          go_wp2
          go_roundg (gk - 1)
          case measure => have := unhide hj; omega
          case rel =>
            refine ⟨j + 1, c, by have := unhide hj; unfold Hid; omega, by first | rfl | go_num, by omega, hst, by go_num, ?_, fun i hi => ?_⟩
            · obtain ⟨m, e⟩ := unhide hw2
              exact ⟨m + nq, by rw [e, drewN_drewN]⟩
            · by_cases e : i = j
              · rw [e, unhide HTJ]; exact unhide HE
              · exact unhide hno i (by omega)
    · have hr : Hid (R = c) := by
        have e : j = k := by have := unhide hj; omega
        have := ahead_miss (l := l) (k := k) (fun i hi => by rw [unhide HTK]; exact unhide hno i (by omega))
        rw [unhide HR, ← e, unhide hc] at this
        exact this
      go_wp2
      go_ret
      obtain ⟨m, e⟩ := unhide hw
      rw [unhide hr, e]
      exact ⟨rfl, m, rfl⟩
end Go.Proofs.Ythmcalapofjmfaa
