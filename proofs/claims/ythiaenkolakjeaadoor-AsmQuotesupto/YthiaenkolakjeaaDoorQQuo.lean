/-
  Quote, walked.
-/
import Derived.Test.YthiaenkolakjeaaDoorQQ
namespace Go.Proofs.YthiaenkolakjeaaDoor
open Go.RowKit Go.Shelf
set_option linter.unusedVariables false
set_option linter.unusedSimpArgs false
/-- A text, quoted. -/
def quo (l : List UInt8) : List UInt8 := [34] ++ l.flatMap qb ++ [34]
theorem flat_le (l : List UInt8) : (l.flatMap qb).length ≤ 4 * l.length := by
  induction l with
  | nil => simp
  | cons x r ih => have := qb_le x; simp only [List.flatMap_cons, List.length_append, List.length_cons]; omega
theorem quo_le (l : List UInt8) : (quo l).length ≤ 4 * l.length + 2 := by
  have := flat_le l
  simp only [quo, List.length_append, List.length_singleton]; omega
theorem ba_at (s : ByteArray) {i : Nat} (h : i < s.size) : s.data.toList[i]? = some s[i] := by
  have h2 : i < s.data.toList.length := by rw [Array.length_toList]; exact h
  rw [List.getElem?_eq_getElem h2]
  simp [ByteArray.getElem_eq_getElem_data]
set_option maxHeartbeats 1000000 in
set_option maxRecDepth 100000 in
theorem quote_any (s : ByteArray) (w : World) (hs : s.size ≤ 17592186044416) :
    Calls Tryd.prog 7 #[.string s] w fun e w' => e = .returned (.string ⟨(quo s.data.toList).toArray⟩) ∧ Below w.heap.size w w' := by
  obtain ⟨W1, eW1⟩ : ∃ W1, W1 = w.alloc (.cells #[.pointer none, .slice none 0 0] 31) := ⟨_, rfl⟩
  have B1 : Hid (Bd w.heap.size w.heap.size [] W1) := by
    unfold Hid; rw [eW1]
    exact ⟨Lib.fresh_isBuilder 31 5 w, by simp⟩
  have F1 : Hid (Below w.heap.size w W1) := by unfold Hid; rw [eW1]; exact (Below.refl _ _).alloc (Nat.le_refl _) _
  obtain ⟨N, hN⟩ : ∃ N, Hid (s.size = N) := ⟨_, rfl⟩
  obtain ⟨L, hL⟩ : ∃ L, Hid (s.data.toList = L) := ⟨_, rfl⟩
  have hLN : Hid (L.length = N) := by unfold Hid; rw [← unhide hL, ← unhide hN, Array.length_toList]; rfl
  rw [unhide hL]
  rw [unhide hN] at hs
  go_enter Tryd.func7, Tryd.ntmps7
  go_wp2_with fail
  rw [← eW1]
  refine (wb_any (unhide B1) 34 (by simp)).mono ?_
  rintro e W2 ⟨rfl, b2, f2⟩
  have B2 := hide b2
  have F2 : Hid (Below w.heap.size w W2) := (unhide F1).trans f2
  clear b2 f2 eW1
  go_wp2_with fail
  rw [unhide hN]
  go_loopg [8] N (fun gg t8 wi => ∃ (i : Nat), Hid (i + gg = N) ∧ t8 = .int .i64 (i : Int) ∧ Hid (Bd w.heap.size w.heap.size ([34] ++ (L.take i).flatMap qb) wi) ∧ Hid (Below w.heap.size w wi))
  case atStart => exact ⟨0, by unfold Hid; omega, rfl, by simpa [Hid] using unhide B2, F2⟩
  case round =>
    obtain ⟨i, hi, rfl, hB, hF⟩ := hrel
    have i0 : (0 : Int) ≤ (i : Int) := by omega
    have hln : Hid (([34] ++ (L.take i).flatMap qb).length ≤ 1 + 4 * N) := by
      have := flat_le (L.take i)
      have h2 : (L.take i).length ≤ N := by rw [List.length_take, unhide hLN]; omega
      unfold Hid; simp only [List.length_append, List.length_singleton]; omega
    by_cases hlt : i < N
    · have i1 : (i : Int) < (N : Int) := by omega
      have i2 : (i : Int) < (s.size : Int) := by rw [unhide hN]; exact i1
      have i3 : i < s.size := by rw [unhide hN]; exact hlt
      have hat : Hid (L[i]? = some s[i]) := by unfold Hid; rw [← unhide hL]; exact ba_at s i3
      go_wp2_with fail
      refine (qbyte_any (unhide hB) s[i] (by have := unhide hln; omega)).mono ?_
      rintro e W3 ⟨rfl, b3, f3⟩
      have HB3 : Hid (Bd w.heap.size w.heap.size ([34] ++ (L.take (i + 1)).flatMap qb) W3) := by
        unfold Hid
        rw [List.take_add_one, unhide hat]
        simpa using b3
      have HF3 : Hid (Below w.heap.size w W3) := (unhide hF).trans f3
      clear b3 f3
      go_wp2_with fail
      go_roundg (gk - 1)
      case measure => have := unhide hi; omega
      case rel => exact ⟨i + 1, by have := unhide hi; unfold Hid; omega, by go_num, HB3, HF3⟩
    · have i1 : ¬ (i : Int) < (N : Int) := by omega
      have HB4 : Hid (Bd w.heap.size w.heap.size ([34] ++ L.flatMap qb) wr) := by have := unhide hB; rw [List.take_of_length_le (by rw [unhide hLN]; omega)] at this; exact this
      go_wp2_with fail
      refine (wb_any (unhide HB4) 34 (by have h := flat_le L; have h2 := unhide hLN; simp only [List.length_append, List.length_singleton]; omega)).mono ?_
      rintro e W4 ⟨rfl, b4, f4⟩
      have HB5 := hide b4
      have HF4 : Hid (Below w.heap.size w W4) := (unhide hF).trans f4
      clear b4 f4
      go_wp2_with fail
      refine (str_any (unhide HB5)).mono ?_
      rintro e W5 ⟨rfl, f5⟩
      have HF5 : Hid (Below w.heap.size w W5) := (unhide HF4).trans f5
      clear f5
      go_wp2_with fail
      go_ret
      exact ⟨rfl, unhide HF5⟩
end Go.Proofs.YthiaenkolakjeaaDoor
