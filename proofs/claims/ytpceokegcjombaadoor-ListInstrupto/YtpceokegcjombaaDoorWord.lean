/-
  Numbers and labels as words.
-/
import Derived.Test.YtpceokegcjombaaDoorDInt
import Derived.Test.YtpceokegcjombaaDoorJoin
import Derived.Test.YtpceokegcjombaaDoorName
import Derived.Test.YtpceokegcjombaaDoorOps2
namespace Go.Proofs.YtpceokegcjombaaDoor
open Go.RowKit
set_option linter.unusedVariables false
set_option linter.unusedSimpArgs false
theorem itoa_len (n : Int) (h : I64 n) : (Lib.itoa n).length ≤ 21 := by
  unfold I64 at h
  have := Lib.nDigits_le20 n.natAbs (by omega)
  have := Lib.nDigits_le20 n.toNat (by omega)
  unfold Lib.itoa
  split
  · rw [List.length_cons, Lib.decDigits_length]; omega
  · rw [Lib.decDigits_length]; omega
/-- The label of a place. -/
def lab (n : Int) : List UInt8 := 76 :: Lib.itoa n
theorem app_L (l : List UInt8) : (⟨#[76]⟩ ++ (⟨l.toArray⟩ : ByteArray) : ByteArray) = ⟨(76 :: l).toArray⟩ := by
  rw [show (⟨#[76]⟩ : ByteArray) = ⟨[76].toArray⟩ from rfl, ByteArray.mk_append_mk]; rfl
set_option maxHeartbeats 1000000 in
set_option maxRecDepth 100000 in
theorem num_any (n : Int) (hn : I64 n) (w : World) (hT : T10 w) : Calls Tryd.prog 33 #[.int .i64 n] w fun e w' => e = .returned (.string ⟨(Lib.itoa n).toArray⟩) ∧ Below w.heap.size w w' := by
  have HC := hide (int_any n hn.1 hn.2 w hT)
  have g : IntKind.i64.wrap n = n := by unfold I64 at hn; rw [IntKind.wrap_i64]; omega
  generalize Lib.itoa n = L at *
  clear hn hT
  go_enter Tryd.func33, Tryd.ntmps33
  go_wp2_with fail
  refine (unhide HC).mono ?_
  rintro e w1 ⟨rfl, hb⟩
  have HB := hide hb
  clear hb
  go_wp2_with fail
  go_ret
  exact ⟨rfl, unhide HB⟩
set_option maxHeartbeats 1000000 in
set_option maxRecDepth 100000 in
theorem rnum_any (n : Int) (hn : I64 n) (w : World) : Calls Tryd.prog 26 #[.int .i64 n] w fun e w' => e = .returned (.string ⟨(Lib.itoa n).toArray⟩) ∧ Below w.heap.size w w' := by
  have HC := hide (refInt_any n hn.1 hn.2 w)
  have g : IntKind.i64.wrap n = n := by unfold I64 at hn; rw [IntKind.wrap_i64]; omega
  generalize Lib.itoa n = L at *
  clear hn
  go_enter Tryd.func26, Tryd.ntmps26
  go_wp2_with fail
  refine (unhide HC).mono ?_
  rintro e w1 ⟨rfl, hb⟩
  have HB := hide hb
  clear hb
  go_wp2_with fail
  go_ret
  exact ⟨rfl, unhide HB⟩
set_option maxHeartbeats 1000000 in
set_option maxRecDepth 100000 in
theorem label_any (n : Int) (hn : I64 n) (w : World) (hT : T10 w) : Calls Tryd.prog 19 #[.int .i64 n] w fun e w' => e = .returned (.string ⟨(lab n).toArray⟩) ∧ Below w.heap.size w w' := by
  have HC := hide (num_any n hn w hT)
  have hl := itoa_len n hn
  unfold lab
  rw [← app_L]
  generalize Lib.itoa n = L at *
  have hz : (⟨L.toArray⟩ : ByteArray).size ≤ 21 := by show L.toArray.size ≤ 21; simpa using hl
  generalize (⟨L.toArray⟩ : ByteArray) = B at *
  clear hn hl hT
  go_enter Tryd.func19, Tryd.ntmps19
  go_wp2_with fail
  refine (unhide HC).mono ?_
  rintro e w1 ⟨rfl, hb⟩
  have HB := hide hb
  clear hb
  go_wp2_with fail
  go_ret
  exact ⟨rfl, unhide HB⟩
set_option maxHeartbeats 1000000 in
set_option maxRecDepth 100000 in
theorem rlabel_any (n : Int) (hn : I64 n) (w : World) : Calls Tryd.prog 11 #[.int .i64 n] w fun e w' => e = .returned (.string ⟨(lab n).toArray⟩) ∧ Below w.heap.size w w' := by
  have HC := hide (rnum_any n hn w)
  have hl := itoa_len n hn
  unfold lab
  rw [← app_L]
  generalize Lib.itoa n = L at *
  have hz : (⟨L.toArray⟩ : ByteArray).size ≤ 21 := by show L.toArray.size ≤ 21; simpa using hl
  generalize (⟨L.toArray⟩ : ByteArray) = B at *
  clear hn hl
  go_enter Tryd.func11, Tryd.ntmps11
  go_wp2_with fail
  refine (unhide HC).mono ?_
  rintro e w1 ⟨rfl, hb⟩
  have HB := hide hb
  clear hb
  go_wp2_with fail
  go_ret
  exact ⟨rfl, unhide HB⟩
end Go.Proofs.YtpceokegcjombaaDoor
