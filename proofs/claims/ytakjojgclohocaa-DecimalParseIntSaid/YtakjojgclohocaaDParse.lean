/-
  A whole number out of its text: the program's call and the document's.
-/
import Derived.Test.YtakjojgclohocaaDLoop
namespace Go.Proofs.Ytakjojgclohocaa
open Go.RowKit

theorem mk_list (L : List UInt8) : (ByteArray.mk L.toArray).data.toList = L := by simp

set_option maxHeartbeats 1000000 in
set_option maxRecDepth 100000 in
theorem parse_any (s : ByteArray) (w : World) :
    Calls Try.prog 5 #[.string s] w fun e w' => e = .returned (.tuple #[.int .i64 (pres s.data.toList).1, .int .i64 ((pres s.data.toList).2 : Nat)]) ∧ Below w.heap.size w w' := by
  have hC := hide (cut_any s)
  have hA := hide all_any
  have hM := hide mag_any
  obtain ⟨P, hP⟩ : ∃ P, Hid (P = pres s.data.toList) := ⟨_, rfl⟩
  rw [← unhide hP]
  obtain ⟨p1, p2⟩ := P
  obtain ⟨M, hMM⟩ : ∃ M : List UInt8, Hid (M = s.data.toList.drop (sgn s.data.toList)) := ⟨_, rfl⟩
  obtain ⟨N, hN⟩ : ∃ N : Bool, Hid (N = ngt s.data.toList) := ⟨_, rfl⟩
  rw [← unhide hMM, ← unhide hN] at hC
  have hP2 : Hid ((p1, p2) = if allD M = false then ((0 : Int), 6) else if N then (if val M ≤ 9223372036854775808 then (-(val M : Int), 0) else (0, 5)) else (if val M < 9223372036854775808 then ((val M : Int), 0) else (0, 5))) := by
    rw [unhide hMM, unhide hN]; exact unhide hP
  clear hP hMM hN
  go_enter Try.func5, Try.ntmps5
  go_wp2_with fail
  refine (unhide hC _).mono ?_
  rintro e w1 ⟨rfl, rfl⟩
  go_wp2_with fail
  refine (unhide hA ⟨M.toArray⟩ _).mono ?_
  rw [mk_list]
  rintro e w1 ⟨rfl, hb1⟩
  have HB1 := hide hb1
  clear hb1
  cases had : allD M with
  | false =>
    have hP3 : Hid ((p1, p2) = ((0 : Int), 6)) := by have := unhide hP2; rw [if_pos had] at this; exact this
    clear had
    go_wp2
    go_ret2
    obtain ⟨rfl, rfl⟩ := Prod.mk.inj (unhide hP3)
    exact ⟨rfl, unhide HB1⟩
  | true =>
    have hM2 := hide (fun w => unhide hM ⟨M.toArray⟩ w (by unfold Hid; rw [mk_list]; exact had))
    have hP3 : Hid ((p1, p2) = if N then (if val M ≤ 9223372036854775808 then (-(val M : Int), 0) else (0, 5)) else (if val M < 9223372036854775808 then ((val M : Int), 0) else (0, 5))) := by
      have := unhide hP2; rw [if_neg (by rw [had]; simp)] at this; exact this
    clear had hP2
    go_wp2_with fail
    refine (unhide hM2 _).mono ?_
    rintro e w2 ⟨⟨v, b, rfl, hcase⟩, hb2⟩
    have HB2 := hide ((unhide HB1).trans (hb2.mono (unhide HB1).size))
    clear hb2
    rcases hcase with ⟨rfl, hv, hle⟩ | ⟨rfl, hgt⟩
    · have HV := hide hv
      clear hv
      cases N with
      | true =>
        have hP4 : Hid ((p1, p2) = (-(v : Int), 0)) := by
          have := unhide hP3; rw [if_pos rfl, ← unhide HV, if_pos hle] at this; exact this
        by_cases h63 : v = 9223372036854775808
        · subst h63
          go_wp2
          go_ret2
          obtain ⟨rfl, rfl⟩ := Prod.mk.inj (unhide hP4)
          refine ⟨?_, unhide HB2⟩
          simp
          first | rfl | (unfold wrap64; omega) | (unfold wrap64; decide)
        · have e0 : decide ((v : Int) = 9223372036854775808) = false := decide_eq_false (by omega)
          have e1 : IntKind.i64.wrap (v : Int) = (v : Int) := by rw [IntKind.wrap_i64]; omega
          have e2 : IntKind.i64.wrap (-(v : Int)) = -(v : Int) := by rw [IntKind.wrap_i64]; omega
          go_wp2
          go_ret2
          obtain ⟨rfl, rfl⟩ := Prod.mk.inj (unhide hP4)
          exact ⟨rfl, unhide HB2⟩
      | false =>
        by_cases h63 : v = 9223372036854775808
        · have hP4 : Hid ((p1, p2) = ((0 : Int), 5)) := by
            have := unhide hP3; rw [if_neg (by simp), ← unhide HV, if_neg (by omega)] at this; exact this
          subst h63
          go_wp2
          go_ret2
          obtain ⟨rfl, rfl⟩ := Prod.mk.inj (unhide hP4)
          exact ⟨by first | rfl | simp, unhide HB2⟩
        · have hP4 : Hid ((p1, p2) = ((v : Int), 0)) := by
            have := unhide hP3; rw [if_neg (by simp), ← unhide HV, if_pos (by omega)] at this; exact this
          have e0 : decide ((v : Int) = 9223372036854775808) = false := decide_eq_false (by omega)
          have e1 : IntKind.i64.wrap (v : Int) = (v : Int) := by rw [IntKind.wrap_i64]; omega
          go_wp2
          go_ret2
          obtain ⟨rfl, rfl⟩ := Prod.mk.inj (unhide hP4)
          exact ⟨rfl, unhide HB2⟩
    · have hP4 : Hid ((p1, p2) = ((0 : Int), 5)) := by
        have := unhide hP3
        rw [if_neg (show ¬ val M ≤ 9223372036854775808 by omega), if_neg (show ¬ val M < 9223372036854775808 by omega), ite_self] at this
        exact this
      go_wp2
      go_ret2
      obtain ⟨rfl, rfl⟩ := Prod.mk.inj (unhide hP4)
      exact ⟨rfl, unhide HB2⟩

set_option maxHeartbeats 1000000 in
set_option maxRecDepth 100000 in
theorem digit_any (s : ByteArray) (i : Nat) (w : World) (hi : i < s.size) :
    Calls Try.prog 8 #[.string s, .int .i64 (i : Int)] w fun e w' => e = .returned (.bool (dig (bt s.data.toList i))) ∧ w' = w := by
  have hb := hide (byte_at s i hi)
  have i1 : (0 : Int) ≤ (i : Int) := by omega
  have i2 : (i : Int) < (s.size : Int) := by omega
  go_enter Try.func8, Try.ntmps8
  go_wp2
  · rename_i h
    go_ret
    refine ⟨?_, rfl⟩
    show Ending.returned (Value.bool (decide (((s[i]'hi).toNat : Int) ≤ 57))) = _
    rw [← unhide hb]
    unfold dig
    rw [decide_eq_true (show 48 ≤ (s[i]'hi).toNat by omega), Bool.true_and, show decide (((s[i]'hi).toNat : Int) ≤ 57) = decide ((s[i]'hi).toNat ≤ 57) from decide_eq_decide.2 (by omega)]
  · rename_i h
    go_ret
    refine ⟨?_, rfl⟩
    rw [← unhide hb]
    unfold dig
    rw [decide_eq_false (show ¬ 48 ≤ (s[i]'hi).toNat by omega), Bool.false_and]
    rfl

set_option maxHeartbeats 1000000 in
set_option maxRecDepth 100000 in
theorem signed_any (s : ByteArray) (w : World) :
    Calls Try.prog 7 #[.string s, .int .i64 0] w fun e w' => e = .returned (.tuple #[.int .i64 (sgn s.data.toList : Nat), .bool (ngt s.data.toList)]) ∧ w' = w := by
  by_cases h0 : s.size = 0
  · have hn : s.data.toList = [] := by
      apply List.eq_nil_of_length_eq_zero
      rw [← Lib.size_eq]; exact h0
    rw [hn]
    have h1 : ¬ (0 : Int) < (s.size : Int) := by omega
    go_enter Try.func7, Try.ntmps7
    go_wp2
    go_ret2
    exact ⟨rfl, rfl⟩
  · have hp : 0 < s.size := by omega
    have hb := hide (byte_at s 0 hp)
    have hl : 0 < s.data.toList.length := by rw [← Lib.size_eq]; exact hp
    have hS := hide (sgn_bt hl)
    have hN := hide (ngt_bt hl)
    clear hl
    have i2 : (0 : Int) < (s.size : Int) := by omega
    go_enter Try.func7, Try.ntmps7
    go_wp2
    · rename_i h
      go_ret2
      refine ⟨?_, rfl⟩
      have h1 : bt s.data.toList 0 = 45 := by rw [← unhide hb]; have := eq_of_beq h; omega
      rw [unhide hS, unhide hN, h1]
      rfl
    · rename_i h h2
      go_ret2
      refine ⟨?_, rfl⟩
      have h1 : bt s.data.toList 0 = 43 := by rw [← unhide hb]; have := eq_of_beq h2; omega
      rw [unhide hS, unhide hN, h1]
      rfl
    · rename_i h h2
      go_ret2
      refine ⟨?_, rfl⟩
      have h1 : bt s.data.toList 0 ≠ 45 := by rw [← unhide hb]; intro e; rw [e] at h; simp at h
      have h3 : bt s.data.toList 0 ≠ 43 := by rw [← unhide hb]; intro e; rw [e] at h2; simp at h2
      rw [unhide hS, unhide hN, if_neg (by omega), decide_eq_false h1]
      rfl

/-- What the rest of a text is worth, digit by digit. -/
theorem bt_drop (L : List UInt8) (a i : Nat) : bt (L.drop a) i = bt L (a + i) := by
  unfold bt
  rw [List.getD_eq_getElem?_getD, List.getD_eq_getElem?_getD, List.getElem?_drop]

set_option maxHeartbeats 2000000 in
set_option maxRecDepth 100000 in
theorem ref_any (s : ByteArray) (w : World) (hmx : s.size ≤ 9223372036854775807) :
    Calls Try.prog 4 #[.string s] w fun e w' => e = .returned (.tuple #[.int .i64 (pres s.data.toList).1, .int .i64 ((pres s.data.toList).2 : Nat)]) ∧ w' = w := by
  have hS := hide (signed_any s)
  have hDg := hide (digit_any s)
  have hL := hide (Lib.size_eq s)
  obtain ⟨P, hP⟩ : ∃ P, Hid (P = pres s.data.toList) := ⟨_, rfl⟩
  rw [← unhide hP]
  obtain ⟨p1, p2⟩ := P
  obtain ⟨M, hMM⟩ : ∃ M : List UInt8, Hid (M = s.data.toList.drop (sgn s.data.toList)) := ⟨_, rfl⟩
  obtain ⟨N, hN⟩ : ∃ N : Bool, Hid (N = ngt s.data.toList) := ⟨_, rfl⟩
  obtain ⟨a, ha⟩ : ∃ a : Nat, Hid (a = sgn s.data.toList) := ⟨_, rfl⟩
  have hP2 : Hid ((p1, p2) = if allD M = false then ((0 : Int), 6) else if N then (if val M ≤ 9223372036854775808 then (-(val M : Int), 0) else (0, 5)) else (if val M < 9223372036854775808 then ((val M : Int), 0) else (0, 5))) := by
    rw [unhide hMM, unhide hN]; exact unhide hP
  have ha1 : a ≤ s.size := by rw [unhide ha, unhide hL]; exact sgn_le _
  have hML : Hid (M.length + a = s.size) := by
    unfold Hid
    rw [unhide hMM, unhide ha, List.length_drop, unhide hL]
    have := sgn_le s.data.toList
    omega
  have hbt : Hid (∀ i, bt M i = bt s.data.toList (a + i)) := by
    intro i
    rw [unhide hMM, unhide ha]
    exact bt_drop _ _ _
  rw [← unhide ha, ← unhide hN] at hS
  clear hP hMM hN ha
  obtain ⟨n, hn⟩ : ∃ n, Hid (s.size = n) := ⟨_, rfl⟩
  have hix : Hid (∀ (i : Nat) (hi : a + i < s.size), (s[a + i]'hi).toNat = bt M i) := fun i hi => by rw [unhide hbt, byte_at]
  go_enter Try.func4, Try.ntmps4
  go_wp2_with fail
  refine (unhide hS _).mono ?_
  rintro e w1 ⟨rfl, rfl⟩
  by_cases hz : M.length = 0
  · have hP3 : Hid ((p1, p2) = ((0 : Int), 6)) := by
      have := unhide hP2
      rw [List.eq_nil_of_length_eq_zero hz, allD_nil, if_pos rfl] at this
      exact this
    have e0 : ((a : Int) == (s.size : Int)) = true := by
      have := unhide hML
      rw [beq_iff_eq]; omega
    clear hz
    go_wp2
    go_ret2
    obtain ⟨rfl, rfl⟩ := Prod.mk.inj (unhide hP3)
    exact ⟨rfl, rfl⟩
  have e0 : ((a : Int) == (s.size : Int)) = false := by
    have := unhide hML
    rw [beq_eq_false_iff_ne]; omega
  have HZ := hide hz
  clear hz
  go_wp2
  go_loopg [6] M.length (fun k i wr => wr = w1 ∧ ∃ j : Nat, Hid (j + k = M.length) ∧ i = .int .i64 ((a + j : Nat) : Int) ∧ Hid (∀ i, i < j → dig (bt M i) = true))
  case atStart => exact ⟨rfl, 0, by unfold Hid; omega, rfl, fun i hi => by omega⟩
  case round =>
    obtain ⟨rfl, j, hk, rfl, hall⟩ := hrel
    by_cases hj : j < M.length
    · have hsz : a + j < s.size := by have := unhide hML; omega
      have hD1 := hide (fun w => unhide hDg (a + j) w hsz)
      have hb1 := hide (unhide hbt j)
      have i1 : ((a + j : Nat) : Int) < (s.size : Int) := by omega
      clear hsz
      go_wp2_with fail
      refine (unhide hD1 _).mono ?_
      rintro e w2 ⟨rfl, rfl⟩
      rw [← unhide hb1]
      cases hdg : dig (bt M j) with
      | true =>
        have HDG := hide hdg
        clear hdg
        have e1 : IntKind.i64.wrap (((a + j : Nat) : Int) + 1) = ((a + (j + 1) : Nat) : Int) := by rw [IntKind.wrap_i64]; omega
        go_wp2
        go_roundg (gk - 1)
        case rel =>
          refine ⟨rfl, j + 1, ?_, ?_, ?_⟩
          · have := unhide hk; unfold Hid; omega
          · first | rfl | (rw [e1]) | go_num
          · intro i hi
            by_cases he : i = j
            · subst he; exact unhide HDG
            · exact unhide hall i (by omega)
        case measure => have := unhide hk; omega
      | false =>
        have hP3 : Hid ((p1, p2) = ((0 : Int), 6)) := by
          have := unhide hP2
          rw [allD_not j hj hdg, if_pos rfl] at this
          exact this
        clear hdg
        go_wp2
        go_ret2
        obtain ⟨rfl, rfl⟩ := Prod.mk.inj (unhide hP3)
        exact ⟨rfl, rfl⟩
    · have had : Hid (allD M = true) := allD_of (by have := unhide HZ; omega) (fun i hi => unhide hall i (by have := unhide hk; omega))
      have hP3 : Hid ((p1, p2) = if N then (if val M ≤ 9223372036854775808 then (-(val M : Int), 0) else (0, 5)) else (if val M < 9223372036854775808 then ((val M : Int), 0) else (0, 5))) := by
        have := unhide hP2; rw [if_neg (by rw [unhide had]; simp)] at this; exact this
      have i1 : ¬ ((a + j : Nat) : Int) < (s.size : Int) := by have := unhide hML; omega
      clear hj
      go_wp2
      go_loopg [7, 8] M.length (fun k x i wq => wq = wr ∧ ∃ j : Nat, Hid (j + k = M.length) ∧ i = .int .i64 ((a + j : Nat) : Int) ∧ x = .int .u64 ((val (M.take j) : Nat) : Int) ∧ Hid (val (M.take j) < 18446744073709551616))
      case atStart => exact ⟨rfl, 0, by unfold Hid; omega, rfl, by rw [List.take_zero]; rfl, by unfold Hid; rw [List.take_zero]; decide⟩
      case round =>
        obtain ⟨rfl, j, hk, rfl, rfl, hlt⟩ := hrel
        by_cases hj : j < M.length
        · have hsz : a + j < s.size := by have := unhide hML; omega
          have hb := hide (allD_at (unhide had) j hj)
          have hvt := hide (val_take M j hj)
          have hvl := hide (val_take_le M (j + 1))
          have i1 : ((a + j : Nat) : Int) < (s.size : Int) := by omega
          have i0 : (0 : Int) ≤ ((a + j : Nat) : Int) := by omega
          have hgx := hide (unhide hix j hsz)
          obtain ⟨x, hx⟩ : ∃ x, Hid (x = val (M.take j)) := ⟨_, rfl⟩
          rw [← unhide hx] at hlt hvt ⊢
          by_cases hbig : 1152921504606846976 < x
          · have hP4 : Hid ((p1, p2) = ((0 : Int), 5)) := by
              have h1 := unhide hP3
              have h2 := unhide hvt
              have h3 := unhide hvl
              rw [if_neg (show ¬ val M ≤ 9223372036854775808 by omega), if_neg (show ¬ val M < 9223372036854775808 by omega), ite_self] at h1
              exact h1
            have e1 : (1152921504606846976 : Int) < (x : Int) := by omega
            clear hbig
            go_wp2
            go_ret2
            obtain ⟨rfl, rfl⟩ := Prod.mk.inj (unhide hP4)
            exact ⟨rfl, rfl⟩
          · have e1 : ¬ (1152921504606846976 : Int) < (x : Int) := by omega
            have e2 : IntKind.u64.wrap (10 * (x : Int)) = 10 * (x : Int) := by rw [IntKind.wrap_u64]; omega
            have hjz : j < 9223372036854775807 := by omega
            have e5 : IntKind.i64.wrap (((a + j : Nat) : Int) + 1) = ((a + (j + 1) : Nat) : Int) := by rw [IntKind.wrap_i64]; omega
            obtain ⟨d, hd⟩ : ∃ d, Hid (bt M j = 48 + d ∧ d ≤ 9) := ⟨bt M j - 48, by have := unhide hb; unfold Hid; omega⟩
            have hgd : ((s[a + j]'hsz).toNat : Int) = 48 + (d : Int) := by have := unhide hgx; have := (unhide hd).1; omega
            have hd9 : d ≤ 9 := (unhide hd).2
            have e3 : IntKind.u8.wrap (48 + (d : Int) - 48) = (d : Int) := by rw [IntKind.wrap_u8]; omega
            have e4 : IntKind.u64.wrap (d : Int) = (d : Int) := by rw [IntKind.wrap_u64]; omega
            have e6 : IntKind.u64.wrap (10 * (x : Int) + (d : Int)) = 10 * (x : Int) + (d : Int) := by rw [IntKind.wrap_u64]; omega
            have hV : Hid (val (M.take (j + 1)) = 10 * x + d) := by have := unhide hvt; have := (unhide hd).1; unfold Hid; omega
            have hxb := hide hbig
            clear hbig
            go_wp2
            go_roundg (gk - 1)
            case rel =>
              refine ⟨rfl, j + 1, ?_, ?_, ?_, ?_⟩
              · have := unhide hk; unfold Hid; omega
              · first | rfl | (rw [e5]) | go_num
              · rw [unhide hV]; push_cast; first | rfl | (rw [e6])
              · unfold Hid; rw [unhide hV]; have := unhide hxb; omega
            case measure => have := unhide hk; omega
        · have hje : j = M.length := by have := unhide hk; omega
          have i1 : ¬ ((a + j : Nat) : Int) < (s.size : Int) := by have := unhide hML; omega
          obtain ⟨x, hx⟩ : ∃ x, Hid (x = val M) := ⟨_, rfl⟩
          rw [hje, List.take_length, ← unhide hx] at hlt
          rw [hje, List.take_length, ← unhide hx]
          rw [hje] at i1
          rw [← unhide hx] at hP3
          clear hje hj hk
          have hx64 : x < 18446744073709551616 := unhide hlt
          cases N with
          | true =>
            by_cases h63 : x ≤ 9223372036854775808
            · have hP4 : Hid ((p1, p2) = (-(x : Int), 0)) := by
                have := unhide hP3; rw [if_pos rfl, if_pos h63] at this; exact this
              have e1 : (x : Int) ≤ 9223372036854775808 := by omega
              obtain ⟨y, hy⟩ : ∃ y, IntKind.u64.wrap (-(x : Int)) = y := ⟨_, rfl⟩
              have e2 : IntKind.i64.wrap y = -(x : Int) := by rw [← hy, IntKind.wrap_u64, IntKind.wrap_i64]; omega
              go_wp2
              go_ret2
              obtain ⟨rfl, rfl⟩ := Prod.mk.inj (unhide hP4)
              exact ⟨rfl, rfl⟩
            · have hP4 : Hid ((p1, p2) = ((0 : Int), 5)) := by
                have := unhide hP3; rw [if_pos rfl, if_neg h63] at this; exact this
              have e1 : ¬ (x : Int) ≤ 9223372036854775808 := by omega
              go_wp2
              go_ret2
              obtain ⟨rfl, rfl⟩ := Prod.mk.inj (unhide hP4)
              exact ⟨rfl, rfl⟩
          | false =>
            by_cases h63 : x < 9223372036854775808
            · have hP4 : Hid ((p1, p2) = ((x : Int), 0)) := by
                have := unhide hP3; rw [if_neg (by simp), if_pos h63] at this; exact this
              have e1 : ¬ (9223372036854775808 : Int) ≤ (x : Int) := by omega
              have e2 : IntKind.i64.wrap (x : Int) = (x : Int) := by rw [IntKind.wrap_i64]; omega
              go_wp2
              go_ret2
              obtain ⟨rfl, rfl⟩ := Prod.mk.inj (unhide hP4)
              exact ⟨rfl, rfl⟩
            · have hP4 : Hid ((p1, p2) = ((0 : Int), 5)) := by
                have := unhide hP3; rw [if_neg (by simp), if_neg h63] at this; exact this
              have e1 : (9223372036854775808 : Int) ≤ (x : Int) := by omega
              go_wp2
              go_ret2
              obtain ⟨rfl, rfl⟩ := Prod.mk.inj (unhide hP4)
              exact ⟨rfl, rfl⟩
end Go.Proofs.Ytakjojgclohocaa
