/-
  Whole numbers there and back: the law.
-/
import Derived.Test.YtakjojgclohocaaDoorDWhole
namespace Go.Proofs.YtakjojgclohocaaDoor
open Go.RowKit

set_option maxHeartbeats 2000000 in
set_option maxRecDepth 100000 in
theorem wholeLaw (n : Int) (s : ByteArray) (h0 : -9223372036854775808 ≤ n) (h1 : n ≤ 9223372036854775807) (hs : s.size ≤ maxLen) (w : World) (hT : T10 w) :
    Calls Tryd.prog 4 #[.int .i64 n, .string s] w fun e w' => e = .returned (.bool true) ∧ Below w.heap.size w w' := by
  have hI := hide (int_any n h0 h1 w hT)
  have hP := hide parse_any
  have hpi := hide (pres_itoa n h0 h1)
  obtain ⟨L, hL⟩ : ∃ L, Hid (L = Lib.itoa n) := ⟨_, rfl⟩
  rw [← unhide hL] at hI hpi
  obtain ⟨P, hPe⟩ : ∃ P, Hid (P = pres s.data.toList) := ⟨_, rfl⟩
  obtain ⟨m, f⟩ := P
  have hPs := hide (fun w => unhide hP s w)
  rw [← unhide hPe] at hPs
  have hPL := hide (fun w => unhide hP ⟨L.toArray⟩ w)
  rw [mk_list, unhide hpi] at hPL
  have HT := hide hT
  have hsz : Hid (s.size ≤ 9223372036854775807) := by unfold maxLen at hs; exact hs
  clear hP hpi hL h0 h1 hs hT
  go_enter Tryd.func4, Tryd.ntmps4
  go_wp2_with fail
  refine (unhide hI).mono ?_
  rintro e w1 ⟨rfl, hb⟩
  have HB1 := hide hb
  clear hb
  go_wp2_with fail
  refine (unhide hPL _).mono ?_
  rintro e w2 ⟨rfl, hb⟩
  have HB2 := hide ((unhide HB1).trans (hb.mono (unhide HB1).size))
  clear hb HB1
  go_wp2_with fail
  refine (unhide hPs _).mono ?_
  rintro e w3 ⟨rfl, hb⟩
  have HB3 := hide ((unhide HB2).trans (hb.mono (unhide HB2).size))
  clear hb HB2
  by_cases hf : f = 0
  · subst hf
    have hfin := itoa_nl (L := s.data.toList) (by rw [← unhide hPe])
    rw [← unhide hPe] at hfin
    have hT3 : Hid (T10 w3) := (unhide HT).below (unhide HB3) (unhide HT).size
    have hI2 := hide (int_any m hfin.2.2.1 hfin.2.2.2 w3 (unhide hT3))
    have hN2 := hide (fun w => nought_any s w (unhide hsz) hfin.1)
    rw [← hfin.2.1] at hN2
    obtain ⟨K, hK⟩ : ∃ K, Hid (K = Lib.itoa m) := ⟨_, rfl⟩
    rw [← unhide hK] at hI2 hN2
    clear hfin
    go_wp2_with fail
    refine (unhide hI2).mono ?_
    rintro e w4 ⟨rfl, hb⟩
    have HB4 := hide ((unhide HB3).trans (hb.mono (unhide HB3).size))
    clear hb
    go_wp2_with fail
    refine (unhide hN2 _).mono ?_
    rintro e w5 ⟨rfl, rfl⟩
    go_wp2
    go_ret
    exact ⟨by simp, unhide HB4⟩
  · have ef : ((f : Int) != 0) = true := by rw [bne_iff_ne]; omega
    go_wp2
    go_ret
    exact ⟨by simp, unhide HB3⟩
end Go.Proofs.YtakjojgclohocaaDoor
