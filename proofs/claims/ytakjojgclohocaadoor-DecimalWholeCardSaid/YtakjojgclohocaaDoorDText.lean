/-
  The parts of a whole number's text: the program's and the document's.
-/
import Derived.Test.YtakjojgclohocaaDoorDMath
namespace Go.Proofs.YtakjojgclohocaaDoor
open Go.RowKit

set_option maxHeartbeats 1000000 in
set_option maxRecDepth 100000 in
theorem cutp_any (s p : ByteArray) (w : World) :
    Calls Tryd.prog 15 #[.string s, .string p] w fun e w' => e = .returned (.tuple #[.string ⟨(Lib.trimPrefix s.data.toList p.data.toList).toArray⟩, .bool (Lib.hasPrefix s.data.toList p.data.toList)]) ∧ w' = w := by
  go_enter Tryd.func15, Tryd.ntmps15
  go_wp2
  · have h2 : (!((s.extract 0 p.size).toList == p.toList)) = true := by assumption
    have h3 : (decide (p.size ≤ s.size) && ((s.extract 0 p.size).toList == p.toList)) = false := by
      have : ((s.extract 0 p.size).toList == p.toList) = false := by simpa using h2
      rw [this]
      simp
    go_ret2
    refine ⟨?_, rfl⟩
    rw [Lib.trimPrefix_miss s p h3, ← Lib.hasPrefix_raw, h3]
    rfl
  · have h1 : p.size ≤ s.size := by assumption
    have h2 : (!((s.extract 0 p.size).toList == p.toList)) = false := by assumption
    have h2' : ((s.extract 0 p.size).toList == p.toList) = true := by simpa using h2
    go_ret2
    refine ⟨?_, rfl⟩
    rw [Lib.trimPrefix_hit s p h1 h2', ← Lib.hasPrefix_raw, h2', decide_eq_true h1]
    rfl
  · have h1 : ¬ p.size ≤ s.size := by assumption
    have h3 : (decide (p.size ≤ s.size) && ((s.extract 0 p.size).toList == p.toList)) = false := by simp [h1]
    go_ret2
    refine ⟨?_, rfl⟩
    rw [Lib.trimPrefix_miss s p h3, ← Lib.hasPrefix_raw, h3]
    rfl

set_option maxHeartbeats 1000000 in
set_option maxRecDepth 100000 in
theorem trimp_any (s p : ByteArray) (w : World) :
    Calls Tryd.prog 16 #[.string s, .string p] w fun e w' => e = .returned (.string ⟨(Lib.trimPrefix s.data.toList p.data.toList).toArray⟩) ∧ w' = w := by
  go_enter Tryd.func16, Tryd.ntmps16
  go_wp2
  · have h1 : p.size ≤ s.size := by assumption
    have h2 : ((s.extract 0 p.size).toList == p.toList) = true := by assumption
    go_ret
    refine ⟨?_, rfl⟩
    rw [Lib.trimPrefix_hit s p h1 h2]
    rfl
  · have h2 : ((s.extract 0 p.size).toList == p.toList) = false := by assumption
    go_ret
    refine ⟨?_, rfl⟩
    rw [Lib.trimPrefix_miss s p (by rw [h2]; simp)]
    rfl
  · have h1 : ¬ p.size ≤ s.size := by assumption
    go_ret
    refine ⟨?_, rfl⟩
    rw [Lib.trimPrefix_miss s p (by simp [h1])]
    rfl

theorem pre_minus (L : List UInt8) : Lib.hasPrefix L [45] = ngt L := by
  cases L with
  | nil => rfl
  | cons a t =>
    show ((45 : UInt8) == a && true) = (a == 45)
    rw [Bool.and_true, Bool.eq_iff_iff, beq_iff_eq, beq_iff_eq]
    exact eq_comm
theorem trim_minus {L : List UInt8} (h : ngt L = true) : Lib.trimPrefix L [45] = L.drop (sgn L) := by
  unfold Lib.trimPrefix
  rw [pre_minus, h, if_pos rfl]
  cases L with
  | nil => rfl
  | cons a t =>
    have : a = 45 := by simpa [ngt] using h
    subst this
    rfl
theorem trim_plus {L : List UInt8} (h : ngt L = false) : Lib.trimPrefix L [43] = L.drop (sgn L) := by
  cases L with
  | nil => rfl
  | cons a t =>
    have h45 : a ≠ 45 := by simpa [ngt] using h
    unfold Lib.trimPrefix
    by_cases h43 : a = 43
    · subst h43; rfl
    · have : Lib.hasPrefix (a :: t) [43] = false := by
        show ((43 : UInt8) == a && true) = false
        simpa using fun e => h43 e.symm
      rw [this]
      show a :: t = (a :: t).drop (if a = 45 ∨ a = 43 then 1 else 0)
      rw [if_neg (by simp [h45, h43])]
      rfl

set_option maxHeartbeats 1000000 in
set_option maxRecDepth 100000 in
theorem cut_any (s : ByteArray) (w : World) :
    Calls Tryd.prog 11 #[.string s] w fun e w' => e = .returned (.tuple #[.bool (ngt s.data.toList), .string ⟨(s.data.toList.drop (sgn s.data.toList)).toArray⟩]) ∧ w' = w := by
  have hC := hide (fun w => cutp_any s ⟨#[45]⟩ w)
  have hT := hide (fun w => trimp_any s ⟨#[43]⟩ w)
  have h1 : Hid (Lib.hasPrefix s.data.toList (ByteArray.data ⟨#[45]⟩).toList = ngt s.data.toList) := pre_minus _
  have hm := hide (fun h => trim_minus (L := s.data.toList) h)
  have hp := hide (fun h => trim_plus (L := s.data.toList) h)
  cases hn : ngt s.data.toList with
  | true =>
    have HN := hide hn
    clear hn
    go_enter Tryd.func11, Tryd.ntmps11
    go_wp2_with fail
    refine (unhide hC _).mono ?_
    rintro e w1 ⟨rfl, rfl⟩
    rw [unhide h1, unhide HN]
    go_wp2
    go_ret2
    refine ⟨?_, rfl⟩
    have := unhide hm (unhide HN)
    rw [← this]
    rfl
  | false =>
    have HN := hide hn
    clear hn
    go_enter Tryd.func11, Tryd.ntmps11
    go_wp2_with fail
    refine (unhide hC _).mono ?_
    rintro e w1 ⟨rfl, rfl⟩
    rw [unhide h1, unhide HN]
    go_wp2_with fail
    refine (unhide hT _).mono ?_
    rintro e w1 ⟨rfl, rfl⟩
    go_wp2
    go_ret2
    refine ⟨?_, rfl⟩
    have := unhide hp (unhide HN)
    rw [← this]
    rfl
end Go.Proofs.YtakjojgclohocaaDoor
