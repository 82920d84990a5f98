/-
  All digits, and the number that they write: the program's walks over runes.
-/
import Derived.Test.YtakjojgclohocaaDoorDText
namespace Go.Proofs.YtakjojgclohocaaDoor
open Go.RowKit

theorem rune_at (s : ByteArray) (i : Nat) (h : i < s.size) : (bt s.data.toList i < 128 ∧ Utf8.decode s i = (bt s.data.toList i, 1)) ∨ (128 ≤ bt s.data.toList i ∧ 128 ≤ (Utf8.decode s i).1) := by
  by_cases ha : (s[i]'h).toNat < 128
  · left
    rw [← byte_at s i h]
    exact ⟨ha, decode_ascii s i h ha⟩
  · right
    rw [← byte_at s i h]
    exact ⟨by omega, (decode_high s i h (by omega)).1⟩

set_option maxHeartbeats 1000000 in
set_option maxRecDepth 100000 in
theorem isDigit_any (r : Nat) (w : World) : Calls Tryd.prog 17 #[.int .i32 (r : Int)] w fun e w' => e = .returned (.bool (dig r)) ∧ w' = w := by
  go_enter Tryd.func17, Tryd.ntmps17
  go_wp2
  · rename_i h
    go_ret
    refine ⟨?_, rfl⟩
    unfold dig
    rw [decide_eq_true (by omega : 48 ≤ r), Bool.true_and]
    show Ending.returned (Value.bool (decide ((r : Int) ≤ 57))) = _
    rw [show decide ((r : Int) ≤ 57) = decide (r ≤ 57) from decide_eq_decide.2 (by omega)]
  · rename_i h
    go_ret
    refine ⟨?_, rfl⟩
    unfold dig
    rw [decide_eq_false (by omega : ¬ 48 ≤ r), Bool.false_and]
    rfl

/-- Of a digit's rune. -/
theorem dig_rune (s : ByteArray) (i : Nat) (h : i < s.size) : dig (Utf8.decode s i).1 = dig (bt s.data.toList i) := by
  rcases rune_at s i h with ⟨h1, h2⟩ | ⟨h1, h2⟩
  · rw [h2]
  · unfold dig
    rw [Bool.eq_iff_iff]
    simp
    omega

set_option maxHeartbeats 1000000 in
set_option maxRecDepth 100000 in
theorem all_any (s : ByteArray) (w : World) :
    Calls Tryd.prog 12 #[.string s] w fun e w' => e = .returned (.bool (allD s.data.toList)) ∧ Below w.heap.size w w' := by
  have hL := hide (Lib.size_eq s)
  have hD := hide isDigit_any
  go_enter Tryd.func12, Tryd.ntmps12
  go_wp2
  go_loopg [] s.size (fun k wr => ∃ pos : Nat, Hid (pos + k = s.size) ∧ wr = w.iter s pos ∧ Hid (∀ i, i < pos → dig (bt s.data.toList i) = true))
  case atStart => exact ⟨0, by unfold Hid; omega, rfl, fun i hi => by omega⟩
  case round =>
    obtain ⟨pos, hk, rfl, hall⟩ := hrel
    by_cases hp : pos < s.size
    · have hnx : ∀ ty, (Instr.next (.pointer (some ⟨w.heap.size, 0, none⟩)) true ty).run Tryd.prog (w.iter s pos) = _ := fun ty => run_next_any w s pos ty hp
      have hdr := hide (dig_rune s pos hp)
      have hru := hide (rune_at s pos hp)
      generalize hdec : Utf8.decode s pos = rw0 at *
      obtain ⟨r, wd⟩ := rw0
      clear hdec
      go_wp2_with fail
      refine (unhide hD _ _).mono ?_
      rintro e w1 ⟨rfl, rfl⟩
      cases hdg : dig r with
      | true =>
        have HDG := hide hdg
        clear hdg
        go_wp2
        go_roundg (gk - 1)
        case rel =>
          have h1 := unhide hru
          have h2 := (unhide hdr).symm.trans (unhide HDG)
          have h3 : bt s.data.toList pos < 128 ∧ (r, wd) = (bt s.data.toList pos, 1) := by
            rcases h1 with h | h
            · exact h
            · unfold dig at h2; simp at h2; omega
          have h4 : wd = 1 := (Prod.mk.inj h3.2).2
          subst h4
          refine ⟨pos + 1, ?_, rfl, ?_⟩
          · have := unhide hk; unfold Hid; omega
          · intro i hi
            by_cases he : i = pos
            · subst he; exact h2
            · exact unhide hall i (by omega)
        case measure => have := unhide hk; omega
      | false =>
        have HDG := hide hdg
        clear hdg
        go_wp2
        go_ret
        refine ⟨?_, (Below.refl _ w).alloc (Nat.le_refl _) _⟩
        rw [allD_not (L := s.data.toList) pos (by rw [← unhide hL]; exact hp) ((unhide hdr).symm.trans (unhide HDG))]
        rfl
    · have hnx : ∀ ty, (Instr.next (.pointer (some ⟨w.heap.size, 0, none⟩)) true ty).run Tryd.prog (w.iter s pos) = _ := fun ty => run_next_end w s pos ty hp
      go_wp2
      go_ret
      refine ⟨?_, (Below.refl _ w).alloc (Nat.le_refl _) _⟩
      have hpe : pos = s.size := by have := unhide hk; omega
      subst hpe
      congr 2
      by_cases h0 : s.size = 0
      · have hn : s.data.toList = [] := by
          apply List.eq_nil_of_length_eq_zero
          rw [← unhide hL]; exact h0
        rw [hn, allD_nil]
        simp [Lib.toList_data, hn]
      · rw [allD_of (by rw [← unhide hL]; omega) (by rw [← unhide hL]; exact unhide hall)]
        simp [Lib.toList_data]
        intro hn
        apply h0
        rw [unhide hL, hn]
        rfl

/-- What magnitude answers. -/
def MagP (L : List UInt8) (e : Ending) : Prop := ∃ v : Nat, ∃ b : Bool, e = .returned (.tuple #[.int .u64 (v : Int), .bool b]) ∧ ((b = true ∧ v = val L ∧ v ≤ 9223372036854775808) ∨ (b = false ∧ 9223372036854775808 < val L))

set_option maxHeartbeats 1000000 in
set_option maxRecDepth 100000 in
/-- Of digits alone: the number, if it is not above 2^63. -/
theorem mag_any (s : ByteArray) (w : World) (hd : Hid (allD s.data.toList = true)) :
    Calls Tryd.prog 13 #[.string s] w fun e w' => MagP s.data.toList e ∧ Below w.heap.size w w' := by
  have hL := hide (Lib.size_eq s)
  go_enter Tryd.func13, Tryd.ntmps13
  go_wp2
  go_loopg [4] s.size (fun k n wr => ∃ pos : Nat, Hid (pos + k = s.size) ∧ wr = w.iter s pos ∧ n = .int .u64 ((val (s.data.toList.take pos) : Nat) : Int) ∧ Hid (val (s.data.toList.take pos) ≤ 9223372036854775808))
  case atStart => exact ⟨0, by unfold Hid; omega, rfl, rfl, by unfold Hid; rw [List.take_zero]; decide⟩
  case round =>
    obtain ⟨pos, hk, rfl, rfl, hle⟩ := hrel
    by_cases hp : pos < s.size
    · have hnx : ∀ ty, (Instr.next (.pointer (some ⟨w.heap.size, 0, none⟩)) true ty).run Tryd.prog (w.iter s pos) = _ := fun ty => run_next_any w s pos ty hp
      have hru := hide (rune_at s pos hp)
      have hpl : pos < s.data.toList.length := by rw [← unhide hL]; exact hp
      have hb := hide (allD_at (unhide hd) pos hpl)
      have hvt := hide (val_take s.data.toList pos hpl)
      have hvl := hide (val_take_le s.data.toList (pos + 1))
      clear hpl
      have hdc : Utf8.decode s pos = (bt s.data.toList pos, 1) := by
        rcases unhide hru with h | h
        · exact h.2
        · have := unhide hb; omega
      rw [hdc] at hnx
      clear hdc hru
      obtain ⟨d, hdd⟩ : ∃ d, Hid (bt s.data.toList pos = 48 + d ∧ d ≤ 9) := ⟨bt s.data.toList pos - 48, by have := unhide hb; unfold Hid; omega⟩
      have hV : Hid (val (s.data.toList.take (pos + 1)) = 10 * val (s.data.toList.take pos) + d) := by
        have := unhide hvt; have := unhide hdd; unfold Hid; omega
      obtain ⟨c, hc⟩ : ∃ c, Hid (c = bt s.data.toList pos) := ⟨_, rfl⟩
      rw [← unhide hc] at hnx
      obtain ⟨n, hn⟩ : ∃ n, Hid (n = val (s.data.toList.take pos)) := ⟨_, rfl⟩
      rw [← unhide hn] at hle hV ⊢
      have hd9 : d ≤ 9 := (unhide hdd).2
      have hcd : (c : Int) = 48 + (d : Int) := by have h1 := (unhide hdd).1; have h2 := unhide hc; omega
      rw [hcd] at hnx
      have hn63 : n ≤ 9223372036854775808 := unhide hle
      have e1 : IntKind.i32.wrap (48 + (d : Int) - 48) = (d : Int) := by rw [IntKind.wrap_i32]; omega
      have e2 : IntKind.u64.wrap (d : Int) = (d : Int) := by rw [IntKind.wrap_u64]; omega
      have e3 : IntKind.u64.wrap (9223372036854775808 - (d : Int)) = 9223372036854775808 - (d : Int) := by rw [IntKind.wrap_u64]; omega
      have e4 : (9223372036854775808 - (d : Int)).tdiv 10 = (9223372036854775808 - (d : Int)) / 10 := by rw [Int.tdiv_eq_ediv_of_nonneg (by omega)]
      go_wp2
      · rename_i hq
        go_ret2
        refine ⟨⟨0, false, rfl, .inr ⟨rfl, ?_⟩⟩, (Below.refl _ w).alloc (Nat.le_refl _) _⟩
        have h1 := unhide hV
        have h2 := unhide hvl
        omega
      · rename_i hq
        have hq2 : 10 * n + d ≤ 9223372036854775808 := by omega
        clear hq
        have e5 : IntKind.u64.wrap (10 * (n : Int)) = 10 * (n : Int) := by rw [IntKind.wrap_u64]; omega
        have e6 : IntKind.u64.wrap (10 * (n : Int) + (d : Int)) = 10 * (n : Int) + (d : Int) := by rw [IntKind.wrap_u64]; omega
        go_wp2
        go_roundg (gk - 1)
        case rel =>
          refine ⟨pos + 1, ?_, rfl, ?_, ?_⟩
          · have := unhide hk; unfold Hid; omega
          · rw [unhide hV]; push_cast; rfl
          · unfold Hid; rw [unhide hV]; exact hq2
        case measure => have := unhide hk; omega
    · have hnx : ∀ ty, (Instr.next (.pointer (some ⟨w.heap.size, 0, none⟩)) true ty).run Tryd.prog (w.iter s pos) = _ := fun ty => run_next_end w s pos ty hp
      go_wp2
      go_ret2
      have hpe : pos = s.data.toList.length := by have := unhide hk; have := unhide hL; omega
      refine ⟨⟨_, true, rfl, .inl ⟨rfl, ?_, unhide hle⟩⟩, (Below.refl _ w).alloc (Nat.le_refl _) _⟩
      rw [hpe, List.take_length]
end Go.Proofs.YtakjojgclohocaaDoor
