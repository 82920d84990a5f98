/-
  P5.8.
-/
import Derived.Test.YthmcalapofjmfaaOX
namespace Go.Proofs.Ythmcalapofjmfaa
open Go.RowKit Go.Maps
set_option linter.unusedVariables false

theorem num_le (rs : List ByteArray) (s : ByteArray) : num rs s ≤ rs.length := by
  cases e : idx rs s with
  | some i => rw [(ins_old e).2]; have := (idx_some e).1; omega
  | none => rw [(ins_new e).2]; exact Nat.le_refl _
theorem num_new (rs : List ByteArray) (s : ByteArray) : (num rs s + 1 > rs.length ∧ (ins rs s).length = num rs s + 1) ∨ (num rs s + 1 ≤ rs.length ∧ (ins rs s).length = rs.length) := by
  cases e : idx rs s with
  | some i => rw [(ins_old e).2, (ins_old e).1]; have := (idx_some e).1; right; omega
  | none => rw [(ins_new e).2, (ins_new e).1]; left; simp
theorem order_at {l : List ByteArray} {k n : Nat} (hk : k < n) : idx (rowOf l n) (tx l k) = some (num (rowOf l k) (tx l k)) := by
  have h1 : idx (rowOf l (k + 1)) (tx l k) = some (num (rowOf l k) (tx l k)) := num_idx
  exact rowOf_idx hk h1

set_option maxRecDepth 100000 in
set_option maxHeartbeats 1600000 in
theorem order_walk {w : World} {v : Value} {l : List ByteArray} (h : Rt w v l) (hok : ∀ i, i < l.length → (tx l i).size ≤ maxLen) (hM : l.length ≤ 8796093022208) :
    Calls Try.prog 5 #[v] w fun e w' => e = .returned (.bool true) ∧ Below w.heap.size w w' := by
  have HR := hide h
  have HOK := hide hok
  obtain ⟨a, cap, rfl, h1, h2, h3⟩ := h
  obtain ⟨n, hn⟩ : ∃ n, Hid (l.length = n) := ⟨_, rfl⟩
  have HRn : Hid (Rt w (.slice a n cap) l) := by rw [← unhide hn]; exact unhide HR
  rw [unhide hn] at h1 hM ⊢
  unfold maxLen at h2
  have H := hide h3
  clear h3 hok HR
  have hNew := hide (OX.new w w (Below.refl _ _))
  go_enter Try.func5, Try.ntmps5
  go_wp2_with fail
  refine (unhide hNew).mono ?_
  rintro e w1 ⟨p, rfl, hp, hO⟩
  have HO : Hid (OX w p (rowOf l 0) w1) := hO
  clear hO hNew hp
  go_wp2
  go_loopg [4, 5] n (fun g t4 t5 wr => ∃ j c : Nat, Hid (j + g = n) ∧ t4 = .int .i64 (c : Int) ∧ c ≤ j ∧ Hid ((rowOf l j).length = c) ∧ t5 = .int .i64 (j : Int) ∧ Hid (OX w p (rowOf l j) wr))
  case atStart => exact ⟨0, 0, by unfold Hid; omega, rfl, Nat.le_refl _, rfl, rfl, HO⟩
  case round =>
    clear HO
    obtain ⟨j, c, hj, rfl, hcj, hc, rfl, HO⟩ := hrel
    by_cases hlt : j < n
    · obtain ⟨b, off, rfl, hb, hcl⟩ := unhide H j (by rw [unhide hn]; exact hlt)
      have hA := ahead_any (w := wr) (v := .slice (some ⟨b, off, none⟩) n cap) (l := l) ((unhide HRn).below (unhide HO).bel) j (by rw [unhide hn]; exact hlt)
      obtain ⟨t, HT⟩ : ∃ t, Hid (tx l j = t) := ⟨_, rfl⟩
      obtain ⟨m, HM⟩ : ∃ m, Hid (num (rowOf l j) (tx l j) = m) := ⟨_, rfl⟩
      rw [unhide HM] at hA
      have hadd := (OX.add (unhide HO) t (by rw [← unhide HT]; exact unhide HOK j (by rw [unhide hn]; exact hlt)) (by rw [unhide hc]; omega))
      have hml : m ≤ c := by rw [← unhide HM, ← unhide hc]; exact num_le _ _
      have hnw := num_new (rowOf l j) (tx l j)
      rw [unhide HM, unhide hc] at hnw
      have c1 : wr.cell? ⟨b, off + j, none⟩ = some (.string t) := by rw [(unhide HO).bel.cell (p := ⟨b, off + j, none⟩) hb, hcl, unhide HT]
      have i0 : (0 : Int) ≤ (j : Int) := by omega
      have i1 : (j : Int) < (n : Int) := by omega
      have HA := hide hA
      have HNW := hide hnw
      clear hcl hA hadd hnw
      go_wp2_with fail
      refine (unhide HA).mono ?_
      rintro e w2 ⟨rfl, hw2⟩
      have HO2 : Hid (OX w p (rowOf l j) w2) := by obtain ⟨q, e⟩ := hw2; rw [e]; exact (unhide HO).drewN q
      have c2 : w2.cell? ⟨b, off + j, none⟩ = some (.string t) := by obtain ⟨q, e⟩ := hw2; rw [e]; exact c1
      have hadd := hide ((unhide HO2).add t (by rw [← unhide HT]; exact unhide HOK j (by rw [unhide hn]; exact hlt)) (by rw [unhide hc]; omega))
      rw [← unhide HT, unhide HM] at hadd
      rw [unhide HT] at hadd
      clear c1 hw2 HO HA
      go_wp2_with fail
      refine (unhide hadd).mono ?_
      rintro e w3 ⟨rfl, hO3⟩
      have HO3 : Hid (OX w p (rowOf l (j + 1)) w3) := by rw [← unhide HT] at hO3; exact hO3
      clear hO3 hadd HO2 c2
      rcases unhide HNW with ⟨q1, q2⟩ | ⟨q1, q2⟩
      · have Q2 : Hid ((rowOf l (j + 1)).length = m + 1) := q2
        clear q2 HNW
        go_wp2
        go_roundg (gk - 1)
        case measure => have := unhide hj; omega
        case rel => exact ⟨j + 1, m + 1, by have := unhide hj; unfold Hid; omega, by go_num, by omega, Q2, by go_num, HO3⟩
      · have Q2 : Hid ((rowOf l (j + 1)).length = c) := q2
        clear q2 HNW
        go_wp2
        go_roundg (gk - 1)
        case measure => have := unhide hj; omega
        case rel => exact ⟨j + 1, c, by have := unhide hj; unfold Hid; omega, rfl, by omega, Q2, by go_num, HO3⟩
    · have hjn : j = n := by have := unhide hj; omega
      have HOn : Hid (OX w p (rowOf l n) wr) := by rw [← hjn]; exact HO
      have hcn : Hid ((rowOf l n).length = c) := by rw [← hjn]; exact hc
      have hcn2 : c ≤ n := by omega
      clear HO hc hjn
      have hIt := (unhide HOn).items (by rw [unhide hcn]; omega)
      rw [unhide hcn] at hIt
      have HIt := hide hIt
      clear hIt
      go_wp2_with fail
      refine (unhide HIt).mono ?_
      rintro e w2 ⟨g, rfl, hg, hown, hO2, hB2⟩
      have HRi : Hid (Rt w2 (.slice (some ⟨g, 0, none⟩) c c) (rowOf l n)) := Rt.own (by rw [unhide hcn]; exact hown)
      have HO2 := hide hO2
      have hLen := hO2.len
      rw [unhide hcn] at hLen
      have HLen := hide hLen
      clear hown hO2 hB2 HIt HOn hLen hg
      go_wp2_with fail
      refine (unhide HLen).mono ?_
      rintro e w3 ⟨rfl, hw3⟩
      rw [hw3]
      clear hw3 w3 HLen
      go_wp2
      go_loopg [8] n (fun g t8 wr => ∃ j : Nat, Hid (j + g = n) ∧ t8 = .int .i64 (j : Int) ∧ Hid (∃ m, wr = w2.drewN m))
      case atStart => exact ⟨0, by unfold Hid; omega, rfl, 0, rfl⟩
      case round =>
        clear hj
        obtain ⟨j2, hj, rfl, HW⟩ := hrel
        by_cases hlt2 : j2 < n
        · obtain ⟨b, off, rfl, hb, hcl⟩ := unhide H j2 (by rw [unhide hn]; exact hlt2)
          have HOr : Hid (OX w p (rowOf l n) wr) := by obtain ⟨m, e⟩ := unhide HW; rw [e]; exact (unhide HO2).drewN m
          have hA := ahead_any (w := wr) (v := .slice (some ⟨b, off, none⟩) n cap) (l := l) ((unhide HRn).below (unhide HOr).bel) j2 (by rw [unhide hn]; exact hlt2)
          have hix := order_at (l := l) hlt2
          obtain ⟨t, HT⟩ : ∃ t, Hid (tx l j2 = t) := ⟨_, rfl⟩
          obtain ⟨m, HM⟩ : ∃ m, Hid (num (rowOf l j2) (tx l j2) = m) := ⟨_, rfl⟩
          rw [unhide HM] at hA hix
          rw [unhide HT] at hix
          obtain ⟨hmc, htm⟩ := idx_some hix
          rw [unhide hcn] at hmc
          have c3 : w2.cell? ⟨g, m, none⟩ = some (.string t) := by rw [(unhide HRi).cell0 (by rw [unhide hcn]; exact hmc), htm]
          have c1 : wr.cell? ⟨b, off + j2, none⟩ = some (.string t) := by rw [(unhide HOr).bel.cell (p := ⟨b, off + j2, none⟩) hb, hcl, unhide HT]
          have hts : Hid (t.size ≤ maxLen) := by rw [← unhide HT]; exact unhide HOK j2 (by rw [unhide hn]; exact hlt2)
          have HIX := hide hix
          have HA := hide hA
          have HC3 := hide c3
          have i0 : (0 : Int) ≤ (j2 : Int) := by omega
          have i1 : (j2 : Int) < (n : Int) := by omega
          have m0 : (0 : Int) ≤ (m : Int) := by omega
          have m1 : (m : Int) < (c : Int) := by omega
          clear hcl hA hix htm c3
          go_wp2_with fail
          refine (unhide HA).mono ?_
          rintro e w4 ⟨rfl, hw4⟩
          have HW4 : Hid (∃ m, w4 = w2.drewN m) := by obtain ⟨q, e⟩ := hw4; obtain ⟨m, e2⟩ := unhide HW; exact ⟨m + q, by rw [e, e2, drewN_drewN]⟩
          have HO4 : Hid (OX w p (rowOf l n) w4) := by obtain ⟨m, e⟩ := unhide HW4; rw [e]; exact (unhide HO2).drewN m
          have c2 : w4.cell? ⟨b, off + j2, none⟩ = some (.string t) := by obtain ⟨q, e⟩ := hw4; rw [e]; exact c1
          have c3 : w4.cell? ⟨g, m, none⟩ = some (.string t) := by obtain ⟨m, e⟩ := unhide HW4; rw [e]; exact unhide HC3
          have hF := (unhide HO4).find t (unhide hts)
          rw [unhide HIX] at hF
          simp only [Option.getD_some, Option.isSome_some] at hF
          have HF := hide hF
          clear c1 hw4 HW HOr HA hF
          go_wp2_with fail
          refine (unhide HF).mono ?_
          rintro e w5 ⟨rfl, hw5⟩
          rw [hw5]
          clear hw5 w5 HF
          go_wp2
          go_quiet (fail)
          go_wp2
          go_roundg (gk - 1)
          case measure => have := unhide hj; omega
          case rel => exact ⟨j2 + 1, by have := unhide hj; unfold Hid; omega, by go_num, by obtain ⟨q, e⟩ := unhide HW4; exact ⟨q + nq, by rw [e, drewN_drewN]⟩⟩
        · go_wp2
          go_ret
          obtain ⟨m, e⟩ := unhide HW
          rw [e]
          exact ⟨rfl, ((unhide HO2).drewN m).bel⟩
end Go.Proofs.Ythmcalapofjmfaa
