/-
  A whole number out of its text: the program's call and the document's.
-/
import Derived.Test.YtakjojgclohocaaDoorDLoop
namespace Go.Proofs.YtakjojgclohocaaDoor
open Go.RowKit

theorem mk_list (L : List UInt8) : (ByteArray.mk L.toArray).data.toList = L := by simp

set_option maxHeartbeats 1000000 in
set_option maxRecDepth 100000 in
theorem parse_any (s : ByteArray) (w : World) :
    Calls Tryd.prog 7 #[.string s] w fun e w' => e = .returned (.tuple #[.int .i64 (pres s.data.toList).1, .int .i64 ((pres s.data.toList).2 : Nat)]) ∧ Below w.heap.size w w' := by
  have hC := hide (cut_any s)
  have hA := hide all_any
  have hM := hide mag_any
  obtain ⟨P, hP⟩ : ∃ P, Hid (P = pres s.data.toList) := ⟨_, rfl⟩
  rw [← unhide hP]
  obtain ⟨p1, p2⟩ := P
  obtain ⟨M, hMM⟩ : ∃ M : List UInt8, Hid (M = s.data.toList.drop (sgn s.data.toList)) := ⟨_, rfl⟩
  obtain ⟨N, hN⟩ : ∃ N : Bool, Hid (N = ngt s.data.toList) := ⟨_, rfl⟩
  rw [← unhide hMM, ← unhide hN] at hC
  have hP2 : Hid ((p1, p2) = if allD M = false then ((0 : Int), 6) else if N then (if val M ≤ 9223372036854775808 then (-(val M : Int), 0) else (0, 5)) else (if val M < 9223372036854775808 then ((val M : Int), 0) else (0, 5))) := by
    rw [unhide hMM, unhide hN]; exact unhide hP
  clear hP hMM hN
  go_enter Tryd.func7, Tryd.ntmps7
  go_wp2_with fail
  refine (unhide hC _).mono ?_
  rintro e w1 ⟨rfl, rfl⟩
  go_wp2_with fail
  refine (unhide hA ⟨M.toArray⟩ _).mono ?_
  rw [mk_list]
  rintro e w1 ⟨rfl, hb1⟩
  have HB1 := hide hb1
  clear hb1
  cases had : allD M with
  | false =>
    have hP3 : Hid ((p1, p2) = ((0 : Int), 6)) := by have := unhide hP2; rw [if_pos had] at this; exact this
    clear had
    go_wp2
    go_ret2
    obtain ⟨rfl, rfl⟩ := Prod.mk.inj (unhide hP3)
    exact ⟨rfl, unhide HB1⟩
  | true =>
    have hM2 := hide (fun w => unhide hM ⟨M.toArray⟩ w (by unfold Hid; rw [mk_list]; exact had))
    have hP3 : Hid ((p1, p2) = if N then (if val M ≤ 9223372036854775808 then (-(val M : Int), 0) else (0, 5)) else (if val M < 9223372036854775808 then ((val M : Int), 0) else (0, 5))) := by
      have := unhide hP2; rw [if_neg (by rw [had]; simp)] at this; exact this
    clear had hP2
    go_wp2_with fail
    refine (unhide hM2 _).mono ?_
    rintro e w2 ⟨⟨v, b, rfl, hcase⟩, hb2⟩
    have HB2 := hide ((unhide HB1).trans (hb2.mono (unhide HB1).size))
    clear hb2
    rcases hcase with ⟨rfl, hv, hle⟩ | ⟨rfl, hgt⟩
    · have HV := hide hv
      clear hv
      cases N with
      | true =>
        have hP4 : Hid ((p1, p2) = (-(v : Int), 0)) := by
          have := unhide hP3; rw [if_pos rfl, ← unhide HV, if_pos hle] at this; exact this
        by_cases h63 : v = 9223372036854775808
        · subst h63
          go_wp2
          go_ret2
          obtain ⟨rfl, rfl⟩ := Prod.mk.inj (unhide hP4)
          refine ⟨?_, unhide HB2⟩
          simp
          first | rfl | (unfold wrap64; omega) | (unfold wrap64; decide)
        · have e0 : decide ((v : Int) = 9223372036854775808) = false := decide_eq_false (by omega)
          have e1 : IntKind.i64.wrap (v : Int) = (v : Int) := by rw [IntKind.wrap_i64]; omega
          have e2 : IntKind.i64.wrap (-(v : Int)) = -(v : Int) := by rw [IntKind.wrap_i64]; omega
          go_wp2
          go_ret2
          obtain ⟨rfl, rfl⟩ := Prod.mk.inj (unhide hP4)
          exact ⟨rfl, unhide HB2⟩
      | false =>
        by_cases h63 : v = 9223372036854775808
        · have hP4 : Hid ((p1, p2) = ((0 : Int), 5)) := by
            have := unhide hP3; rw [if_neg (by simp), ← unhide HV, if_neg (by omega)] at this; exact this
          subst h63
          go_wp2
          go_ret2
          obtain ⟨rfl, rfl⟩ := Prod.mk.inj (unhide hP4)
          exact ⟨by first | rfl | simp, unhide HB2⟩
        · have hP4 : Hid ((p1, p2) = ((v : Int), 0)) := by
            have := unhide hP3; rw [if_neg (by simp), ← unhide HV, if_pos (by omega)] at this; exact this
          have e0 : decide ((v : Int) = 9223372036854775808) = false := decide_eq_false (by omega)
          have e1 : IntKind.i64.wrap (v : Int) = (v : Int) := by rw [IntKind.wrap_i64]; omega
          go_wp2
          go_ret2
          obtain ⟨rfl, rfl⟩ := Prod.mk.inj (unhide hP4)
          exact ⟨rfl, unhide HB2⟩
    · have hP4 : Hid ((p1, p2) = ((0 : Int), 5)) := by
        have := unhide hP3
        rw [if_neg (show ¬ val M ≤ 9223372036854775808 by omega), if_neg (show ¬ val M < 9223372036854775808 by omega), ite_self] at this
        exact this
      go_wp2
      go_ret2
      obtain ⟨rfl, rfl⟩ := Prod.mk.inj (unhide hP4)
      exact ⟨rfl, unhide HB2⟩

/-- What the rest of a text is worth, digit by digit. -/
theorem bt_drop (L : List UInt8) (a i : Nat) : bt (L.drop a) i = bt L (a + i) := by
  unfold bt
  rw [List.getD_eq_getElem?_getD, List.getD_eq_getElem?_getD, List.getElem?_drop]

end Go.Proofs.YtakjojgclohocaaDoor
