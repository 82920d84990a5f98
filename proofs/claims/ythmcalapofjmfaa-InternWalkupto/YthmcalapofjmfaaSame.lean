/-
  SameTexts, kept, Pick, markText.
-/
import Derived.Test.YthmcalapofjmfaaRows3
import Derived.Lib.SlBytesConst
namespace Go.Proofs.Ythmcalapofjmfaa
open Go.RowKit Go.Maps
set_option linter.unusedVariables false

set_option maxRecDepth 100000 in
set_option maxHeartbeats 800000 in
theorem same_any {w : World} {va vb : Value} {l : List ByteArray} (ha : Rt w va l) (hb : Rt w vb l) : Calls Try.prog 19 #[va, vb] w fun e w' => e = .returned (.bool true) ∧ ∃ k, w' = w.drewN k := by
  obtain ⟨a, ca, rfl, h1, h2, h3⟩ := ha
  obtain ⟨b, cb, rfl, k1, k2, k3⟩ := hb
  obtain ⟨n, hn⟩ : ∃ n, Hid (l.length = n) := ⟨_, rfl⟩
  rw [unhide hn] at h1 k1 ⊢
  unfold maxLen at h2
  have HA := hide h3
  have HB := hide k3
  clear h3 k3
  go_enter Try.func19, Try.ntmps19
  go_wp2
  go_loopg [5] n (fun k s wr => ∃ j : Nat, Hid (j + k = n) ∧ s = .int .i64 j ∧ Hid (∃ n, wr = w.drewN n))
  case atStart => exact ⟨0, by unfold Hid; omega, rfl, 0, rfl⟩
  case round =>
    obtain ⟨j, hj, rfl, HN0⟩ := hrel
    by_cases hlt : j < n
    · obtain ⟨ba, oa, rfl, _, hca⟩ := unhide HA j (by rw [unhide hn]; exact hlt)
      obtain ⟨bb, ob, rfl, _, hcb⟩ := unhide HB j (by rw [unhide hn]; exact hlt)
      have c1 : wr.cell? ⟨ba, oa + j, none⟩ = some (.string (tx l j)) := by obtain ⟨q, e⟩ := unhide HN0; rw [e]; exact hca
      have c2 : wr.cell? ⟨bb, ob + j, none⟩ = some (.string (tx l j)) := by obtain ⟨q, e⟩ := unhide HN0; rw [e]; exact hcb
      have i0 : (0 : Int) ≤ (j : Int) := by omega
      have i1 : (j : Int) < (n : Int) := by omega
      obtain ⟨s, es⟩ : ∃ s, s = tx l j := ⟨_, rfl⟩
      rw [← es] at c1 c2
      clear hca hcb es
      go_wp2
      go_quiet (fail)
      go_wp2
      go_roundg (gk - 1)
      case measure => have := unhide hj; omega
      case rel => exact ⟨j + 1, by have := unhide hj; unfold Hid; omega, by go_num, by obtain ⟨q, e⟩ := unhide HN0; exact ⟨q + nq, by rw [e, drewN_drewN]⟩⟩
    · go_wp2
      go_ret
      exact ⟨rfl, unhide HN0⟩

theorem lentL_length (l : List ByteArray) : (lentL l).length = l.length + 64 := by simp [lentL]
theorem lentL_in {l : List ByteArray} {i : Nat} (h : i < l.length) : tx (lentL l) i = tx l i := tx_append_left h
theorem lentL_out {l : List ByteArray} {i : Nat} (h : l.length ≤ i) (h2 : i < l.length + 64) : tx (lentL l) i = mark := by
  unfold tx lentL
  rw [List.getD, List.getElem?_append_right h, List.getElem?_replicate, if_pos (by omega)]
  rfl

set_option maxRecDepth 100000 in
set_option maxHeartbeats 800000 in
theorem kept_any {w : World} {va vb : Value} {l : List ByteArray} (ha : Rt w va (lentL l)) (hb : Rt w vb l) (hM : l.length ≤ 11999999999900) : Calls Try.prog 16 #[va, vb] w fun e w' => e = .returned (.bool true) ∧ w' = w := by
  obtain ⟨a, ca, rfl, h1, h2, h3⟩ := ha
  obtain ⟨b, cb, rfl, k1, k2, k3⟩ := hb
  have hin := hide (fun i (h : i < l.length) => lentL_in h)
  have hout := hide (fun i (h : l.length ≤ i) (h2 : i < l.length + 64) => lentL_out h h2)
  rw [lentL_length] at h1 h3 ⊢
  obtain ⟨n, hn⟩ : ∃ n, Hid (l.length = n) := ⟨_, rfl⟩
  rw [unhide hn] at h1 h3 k1 hM hin hout ⊢
  unfold maxLen at h2
  have HA := hide h3
  have HB := hide k3
  clear h3 k3
  go_enter Try.func16, Try.ntmps16
  go_wp2
  go_loopg [5] (n + 64) (fun k s wr => ∃ j : Nat, Hid (j + k = n + 64) ∧ s = .int .i64 j ∧ wr = w)
  case atStart => exact ⟨0, by unfold Hid; omega, rfl, rfl⟩
  case round =>
    obtain ⟨j, hj, rfl, rfl⟩ := hrel
    by_cases hlt : j < n + 64
    · obtain ⟨ba, oa, rfl, _, c1⟩ := unhide HA j hlt
      have i0 : (0 : Int) ≤ (j : Int) := by omega
      have i1 : (j : Int) < (n : Int) + 64 := by omega
      by_cases hl : j < n
      · obtain ⟨bb, ob, rfl, _, c2⟩ := unhide HB j (by rw [unhide hn]; exact hl)
        rw [unhide hin j hl] at c1
        obtain ⟨s, es⟩ : ∃ s, s = tx l j := ⟨_, rfl⟩
        rw [← es] at c1 c2
        have i2 : (j : Int) < (n : Int) := by omega
        clear es
        go_wp2
        go_roundg (gk - 1)
        case measure => have := unhide hj; omega
        case rel => exact ⟨j + 1, by have := unhide hj; unfold Hid; omega, by go_num, rfl⟩
      · rw [unhide hout j (by omega) hlt] at c1
        unfold mark at c1
        go_wp2
        go_roundg (gk - 1)
        case measure => have := unhide hj; omega
        case rel => exact ⟨j + 1, by have := unhide hj; unfold Hid; omega, by go_num, rfl⟩
    · have i1 : ¬ (j : Int) < (n : Int) + 64 := by omega
      go_wp2
      go_ret
      exact ⟨rfl, rfl⟩

/-- What Pick answers. -/
def pick (z : Int) (n : Nat) : Nat := (z % (n : Int)).toNat
theorem pick_lt (z : Int) {n : Nat} (h : 0 < n) : pick z n < n := by
  unfold pick
  have h1 := Int.emod_nonneg z (show (n : Int) ≠ 0 by omega)
  have h2 := Int.emod_lt_of_pos z (show (0 : Int) < (n : Int) by omega)
  omega
theorem ret_int {k : IntKind} {a b : Int} (h : a = b) : Ending.returned (.int k a) = .returned (.int k b) := by rw [h]
theorem pick_val (z : Int) {n : Nat} (h : 0 < n) : ((pick z n : Nat) : Int) = z % (n : Int) := by
  unfold pick
  have h1 := Int.emod_nonneg z (show (n : Int) ≠ 0 by omega)
  omega
theorem tmodN (z : Int) {n : Nat} (h : 0 < n) : (z.tmod (n : Int) = z % (n : Int) ∧ 0 ≤ z.tmod (n : Int)) ∨ (z.tmod (n : Int) = z % (n : Int) - (n : Int) ∧ z.tmod (n : Int) < 0) := by
  have h1 := Int.emod_nonneg z (show (n : Int) ≠ 0 by omega)
  have h2 := Int.emod_lt_of_pos z (show (0 : Int) < (n : Int) by omega)
  have h3 := @Int.tmod_eq_emod z (n : Int)
  by_cases c : 0 ≤ z ∨ (n : Int) ∣ z
  · rw [if_pos c] at h3
    left; omega
  · rw [if_neg c] at h3
    right
    simp only [Int.natAbs_natCast] at h3
    omega
set_option maxRecDepth 100000 in
set_option maxHeartbeats 800000 in
theorem pick2_any (w : World) (z : Int) : Calls Try.prog 10 #[.int .i64 z, .int .i64 2] w fun e w' => e = .returned (.int .i64 ((pick z 2 : Nat) : Int)) ∧ w' = w := by
  have hp := pick_val z (n := 2) (by omega)
  by_cases hn : Int.tmod z 2 < 0
  · have e : ((pick z 2 : Nat) : Int) = Int.tmod z 2 + 2 := by
      rcases tmodN z (n := 2) (by omega) with ⟨h1, h2⟩ | ⟨h1, h2⟩ <;> simp at h1 h2 hp <;> omega
    have hb : -2 ≤ Int.tmod z 2 := by omega
    rw [e]
    clear hp e
    go_enter Try.func10, Try.ntmps10
    go_wp2
    all_goals go_ret
    all_goals first | exact ⟨rfl, rfl⟩ | (refine ⟨ret_int ?_, rfl⟩; omega)
  · have e : ((pick z 2 : Nat) : Int) = Int.tmod z 2 := by
      rcases tmodN z (n := 2) (by omega) with ⟨h1, h2⟩ | ⟨h1, h2⟩ <;> simp at h1 h2 hp <;> omega
    rw [e]
    clear hp e
    have hn' : decide (Int.tmod z 2 < 0) = false := decide_eq_false hn
    go_enter Try.func10, Try.ntmps10
    go_wp2
    all_goals go_ret
    all_goals first | exact ⟨rfl, rfl⟩ | (refine ⟨ret_int ?_, rfl⟩; omega)
set_option maxRecDepth 100000 in
set_option maxHeartbeats 800000 in
theorem pick8_any (w : World) (z : Int) : Calls Try.prog 10 #[.int .i64 z, .int .i64 8] w fun e w' => e = .returned (.int .i64 ((pick z 8 : Nat) : Int)) ∧ w' = w := by
  have hp := pick_val z (n := 8) (by omega)
  by_cases hn : Int.tmod z 8 < 0
  · have e : ((pick z 8 : Nat) : Int) = Int.tmod z 8 + 8 := by
      rcases tmodN z (n := 8) (by omega) with ⟨h1, h2⟩ | ⟨h1, h2⟩ <;> simp at h1 h2 hp <;> omega
    have hb : -8 ≤ Int.tmod z 8 := by omega
    rw [e]
    clear hp e
    go_enter Try.func10, Try.ntmps10
    go_wp2
    all_goals go_ret
    all_goals first | exact ⟨rfl, rfl⟩ | (refine ⟨ret_int ?_, rfl⟩; omega)
  · have e : ((pick z 8 : Nat) : Int) = Int.tmod z 8 := by
      rcases tmodN z (n := 8) (by omega) with ⟨h1, h2⟩ | ⟨h1, h2⟩ <;> simp at h1 h2 hp <;> omega
    rw [e]
    clear hp e
    have hn' : decide (Int.tmod z 8 < 0) = false := decide_eq_false hn
    go_enter Try.func10, Try.ntmps10
    go_wp2
    all_goals go_ret
    all_goals first | exact ⟨rfl, rfl⟩ | (refine ⟨ret_int ?_, rfl⟩; omega)

/-- The mark of a place. -/
def mrk (k i : Nat) : ByteArray := ⟨#[35, UInt8.ofNat (k % 256), UInt8.ofNat (k / 256 % 256), UInt8.ofNat (i % 256), UInt8.ofNat (i / 256 % 256)]⟩
theorem mrk_size (k i : Nat) : (mrk k i).size = 5 := rfl
theorem five (w : World) (a b c d : Nat) (ha : a < 256) (hb : b < 256) (hc : c < 256) (hd : d < 256) (W : World) (hW : W = w.alloc (.cells #[.int .u8 35, .int .u8 (a : Int), .int .u8 (b : Int), .int .u8 (c : Int), .int .u8 (d : Int)] 5)) :
    (convert 83 9 (.slice (some ⟨w.heap.size, 0, none⟩) 5 5)).run Try.prog W = .ok (.string ⟨#[35, UInt8.ofNat a, UInt8.ofNat b, UInt8.ofNat c, UInt8.ofNat d]⟩) W := by
  have h := run_convert_bytes_back (P := Try.prog) W 83 9 5 ⟨w.heap.size, 0, none⟩ 5 [35, UInt8.ofNat a, UInt8.ofNat b, UInt8.ofNat c, UInt8.ofNat d] Try.underlying83 Try.underlying5 Try.underlying9 (by
    intro j hj
    have hg := heap_alloc_new w (.cells #[.int .u8 35, .int .u8 (a : Int), .int .u8 (b : Int), .int .u8 (c : Int), .int .u8 (d : Int)] 5)
    rw [Go.WideShapes.add_plain, hW]
    simp only [World.cell?, hg]
    have hj5 : j < 5 := hj
    match j, hj5 with
    | 0, _ => rfl
    | 1, _ => simp; omega
    | 2, _ => simp; omega
    | 3, _ => simp; omega
    | 4, _ => simp; omega)
  exact h

set_option maxRecDepth 100000 in
set_option maxHeartbeats 800000 in
theorem mark_any (w : World) (k i : Nat) (hk : k < 140737488355328) (hi : i < 140737488355328) : Calls Try.prog 38 #[.int .i64 (k : Int), .int .i64 (i : Int)] w fun e w' => e = .returned (.string (mrk k i)) ∧ ∃ o, w' = w.alloc o := by
  have hcv := five w (k % 256) (k / 256 % 256) (i % 256) (i / 256 % 256) (by omega) (by omega) (by omega) (by omega)
  simp only [Int.natCast_emod, Int.natCast_ediv, Int.cast_ofNat_Int] at hcv
  go_enter Try.func38, Try.ntmps38
  go_wp2
  go_ret
  exact ⟨rfl, _, rfl⟩
end Go.Proofs.Ythmcalapofjmfaa
