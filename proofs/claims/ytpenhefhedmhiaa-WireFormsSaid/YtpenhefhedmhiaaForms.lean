/-
  P1.1, P1.7: the form of a number, and how a sign is folded in.
-/
import Derived.Test.YtpenhefhedmhiaaSame
import Derived.Test.YtpenhefhedmhiaaDigits
namespace Go.Proofs.Ytpenhefhedmhiaa
open Go.RowKit

/-- A number written by a new writer. -/
theorem writtenUint (y : Int) (m n : Nat) (hm : Hid (y.toNat = m)) (hn : Hid (Wm.ulen 9 m = n)) (w : World) (h0 : 0 ≤ y) (h1 : y < 18446744073709551616) :
    Calls Try.prog 9 #[.agg #[.int .i64 0, .int .i64 1, .int .u64 y, .string ByteArray.empty]] w fun e w' => ∃ g cap, e = .returned (.tuple #[.slice (some ⟨g, 0, none⟩) n cap, .bool true]) ∧
      g < w'.heap.size ∧ Rd w' (.slice (some ⟨g, 0, none⟩) n cap) (Wm.uform 9 m) ∧ Below w.heap.size w w' := by
  obtain ⟨k, rfl⟩ := Int.eq_ofNat_of_zero_le h0
  obtain rfl : k = m := by have := unhide hm; simpa using this
  obtain rfl := unhide hn
  refine (written_any 0 1 k ByteArray.empty w (by decide) (by decide) (by omega)).mono ?_
  rintro e w' ⟨v, rfl, ho, hB⟩
  rw [show pform 1 k ByteArray.empty = Wm.uform 9 k from rfl] at ho
  have hR := Rd.of_own ho
  obtain ⟨g, cap, rfl, _, h2, _⟩ := own_cells ho (by rw [Wm.uform_length]; have := Wm.ulen_bd 9 k; omega)
  rw [Wm.uform_length] at hR ⊢
  exact ⟨g, cap, rfl, h2, hR, hB⟩

/-- A number with a sign written by a new writer. -/
theorem writtenInt (x : Nat) (w : World) (h1 : x < 2 ^ 64) :
    Calls Try.prog 9 #[.agg #[.int .i64 0, .int .i64 2, .int .u64 x, .string ByteArray.empty]] w fun e w' => ∃ v, e = .returned (.tuple #[v, .bool true]) ∧
      Rd w' v (Wm.uform 9 (foldI (toI64 x)).toNat) ∧ Below w.heap.size w w' := by
  refine (written_any 0 2 x ByteArray.empty w (by decide) (by decide) h1).mono ?_
  rintro e w' ⟨v, rfl, ho, hB⟩
  rw [show pform 2 x ByteArray.empty = Wm.uform 9 (foldI (toI64 x)).toNat from rfl] at ho
  exact ⟨v, rfl, Rd.of_own ho, hB⟩

/-- What a round of the loop meets. -/
theorem Rd.get {w : World} {g n cap i : Nat} {bs : List Int} (h : Rd w (.slice (some ⟨g, 0, none⟩) n cap) bs) (hi : i < bs.length) : w.cell? ⟨g, i, none⟩ = some (.int .u8 (bs.getD i 0)) := by
  rcases h with ⟨h, _⟩ | ⟨b, off, cap', h, _, _, _, h4⟩
  · simp at h
  · simp at h
    obtain ⟨⟨rfl, rfl⟩, _, _⟩ := h
    have := h4 i hi
    rwa [Nat.zero_add] at this

set_option maxRecDepth 100000 in
set_option maxHeartbeats 1600000 in
theorem wireForms_walk (x : Nat) (w : World) (hx : x < 2 ^ 64) :
    Calls Try.prog 4 #[.int .u64 x] w fun e w' => e = .returned (.bool true) ∧ Below w.heap.size w w' := by
  have hfit := hide (Wm.fits9 x hx)
  have hbd := Wm.ulen_bd 9 x
  obtain ⟨n, hn⟩ : ∃ n, Hid (Wm.ulen 9 x = n) := ⟨_, rfl⟩
  have hL := hide (fun w => uintLen_any x w (by omega))
  rw [unhide hn] at hbd hL
  obtain ⟨hn1, hn2⟩ := hbd
  have hbne : ∀ (b c : Bool) (w : World), (binOp .neq 4 (.bool b) (.bool c)).run Try.prog w = .ok (.bool (b != c)) w := fun b c w => by cases b <;> cases c <;> kernel_rfl
  go_enter Try.func4, Try.ntmps4
  go_wp2_with fail
  refine (writtenUint x x n (Int.toNat_natCast x) hn _ (by omega) (by omega)).mono ?_
  rintro e w1 ⟨g, cap, rfl, hg, hR, hB1⟩
  have HR := hide hR
  have HB1 := hide hB1
  clear hR hB1
  have hz1 : decide ((n : Int) < 1) = false := by rw [decide_eq_false_iff_not]; omega
  have hz2 : decide ((10 : Int) < (n : Int)) = false := by rw [decide_eq_false_iff_not]; omega
  go_wp2
  go_loopg [5, 6, 7, 8] n (fun k r i _ _ wr => wr = w1 ∧ ∃ j : Nat, Hid (j + k = n) ∧ i = .int .i64 j ∧ r = .int .u64 ((x / 128 ^ j : Nat) : Int))
  case atStart => exact ⟨rfl, 0, by unfold Hid; omega, rfl, by simp⟩
  case round =>
    obtain ⟨rfl, j, hj, rfl, rfl⟩ := hrel
    by_cases hlt : j < n
    · have hc := (unhide HR).get (i := j) (by rw [Wm.uform_length, unhide hn]; exact hlt)
      rw [Wm.udig_get 9 x (unhide hfit) j (by rw [unhide hn]; exact hlt)] at hc
      have hle : x / 128 ^ j < 2 ^ 64 := Nat.lt_of_le_of_lt (Nat.div_le_self _ _) hx
      have hnx : x / 128 ^ (j + 1) = x / 128 ^ j / 128 := by rw [Nat.pow_succ, Nat.div_div_eq_div_mul]
      have hend : Hid (∀ r : Nat, x / 128 ^ j = r → x / 128 ^ (j + 1) = r / 128) := fun r h => by rw [hnx, h]
      clear hnx
      by_cases hla : j + 1 = n
      · have hd : Wm.udig 9 x j = x / 128 ^ j := by rw [Wm.udig, unhide hn, if_pos hla]
        have hl := Wm.udig_last 9 x (unhide hfit) j (by rw [unhide hn]; exact hla)
        rw [hd] at hc
        clear hd
        generalize hr : x / 128 ^ j = r at *
        obtain ⟨hl1, hl2⟩ := hl
        have hq0 : ((j : Int) == (n : Int) - 1) = true := by rw [beq_iff_eq]; omega
        clear hr
        by_cases hj0 : j = 0
        · subst hj0
          have hq7 : ((0 : Int) == (n : Int) - 1) = true := by rw [beq_iff_eq]; omega
          clear hl2 hq0
          go_wp2
          go_roundg (gk - 1)
          case measure => have := unhide hj; omega
          case rel => exact ⟨rfl, 0 + 1, by have := unhide hj; unfold Hid; omega, by go_num, congrArg (Value.int IntKind.u64) (by rw [unhide hend r rfl]; omega)⟩
        · have hr0 := hl2 (by omega)
          have hq5 : ((r : Int) == 0) = false := by rw [beq_eq_false_iff_ne]; omega
          have hq6 : (0 : Int) < (j : Int) := by omega
          clear hl2
          go_wp2
          go_roundg (gk - 1)
          case measure => have := unhide hj; omega
          case rel => exact ⟨rfl, j + 1, by have := unhide hj; unfold Hid; omega, by go_num, congrArg (Value.int IntKind.u64) (by rw [unhide hend r rfl]; omega)⟩
      · have hd : Wm.udig 9 x j = x / 128 ^ j % 128 + 128 := by rw [Wm.udig, unhide hn, if_neg hla]
        rw [hd] at hc
        clear hd
        generalize hr : x / 128 ^ j = r at *
        have hq0 : ((j : Int) == (n : Int) - 1) = false := by rw [beq_eq_false_iff_ne]; omega
        clear hr
        go_wp2
        go_roundg (gk - 1)
        case measure => have := unhide hj; omega
        case rel => exact ⟨rfl, j + 1, by have := unhide hj; unfold Hid; omega, by go_num, congrArg (Value.int IntKind.u64) (by rw [unhide hend r rfl]; omega)⟩
    · obtain rfl : j = n := by have := unhide hj; omega
      have he := Wm.udig_end 9 x (unhide hfit)
      rw [unhide hn] at he
      rw [he]
      clear he
      have HX := hide hx
      by_cases hs : x < 9223372036854775808
      · have ht : Hid ((foldI (toI64 x)).toNat = 2 * x) := by unfold Hid toI64 foldI; rw [if_pos hs, if_pos (by omega)]; omega
        obtain ⟨n2, hn2'⟩ : ∃ n2, Hid (Wm.ulen 9 (2 * x) = n2) := ⟨_, rfl⟩
        go_wp2_with fail
        refine (writtenInt x wr (unhide HX)).mono ?_
        rintro e w2 ⟨vs, rfl, hRs, hB2⟩
        rw [unhide ht] at hRs
        have HRs := hide hRs
        have HB2 := hide hB2
        clear hRs hB2
        go_wp2_with fail
        refine (writtenUint _ (2 * x) n2 (by unfold Hid; omega) hn2' _ (by omega) (by omega)).mono ?_
        rintro e w3 ⟨gp, cp, rfl, hgp, hRp, hB3⟩
        have HRp := hide hRp
        have HRs3 := hide ((unhide HRs).below hB3)
        have HB3 : Hid (Below w.heap.size w w3) := (unhide HB1).trans (((unhide HB2).mono (unhide HB1).size).trans (hB3.mono (Nat.le_trans (unhide HB1).size (unhide HB2).size)))
        clear hRp hB3 HRs HB2 HB1
        go_wp2_with fail
        refine (unhide hL w3).mono ?_
        rintro e w4 ⟨rfl, rfl⟩
        go_wp2_with fail
        refine (same_any _ _ _ _ (unhide HRs3) (unhide HRp)).mono ?_
        rintro e w5 ⟨rfl, k, rfl⟩
        go_wp2
        go_ret
        exact ⟨rfl, below_drewN (unhide HB3) _⟩
      · have ht : Hid ((foldI (toI64 x)).toNat = 36893488147419103231 - 2 * x) := by unfold Hid toI64 foldI; rw [if_neg hs, if_neg (by omega)]; omega
        obtain ⟨t, hw64⟩ : ∃ t, wrap64 (x : Int) = t := ⟨_, rfl⟩
        have htt : t = (x : Int) - 18446744073709551616 := by rw [← hw64]; unfold wrap64; omega
        have ht0 : t < 0 := by omega
        have ht1 : -9223372036854775808 ≤ t := by omega
        have HTT := hide htt
        clear htt
        obtain ⟨n2, hn2'⟩ : ∃ n2, Hid (Wm.ulen 9 (36893488147419103231 - 2 * x) = n2) := ⟨_, rfl⟩
        go_wp2_with fail
        refine (writtenInt x wr (unhide HX)).mono ?_
        rintro e w2 ⟨vs, rfl, hRs, hB2⟩
        rw [unhide ht] at hRs
        have HRs := hide hRs
        have HB2 := hide hB2
        clear hRs hB2
        go_wp2_with fail
        refine (writtenUint _ (36893488147419103231 - 2 * x) n2 (by have := unhide HTT; unfold Hid; omega) hn2' _ (by omega) (by omega)).mono ?_
        rintro e w3 ⟨gp, cp, rfl, hgp, hRp, hB3⟩
        have HRp := hide hRp
        have HRs3 := hide ((unhide HRs).below hB3)
        have HB3 : Hid (Below w.heap.size w w3) := (unhide HB1).trans (((unhide HB2).mono (unhide HB1).size).trans (hB3.mono (Nat.le_trans (unhide HB1).size (unhide HB2).size)))
        clear hRp hB3 HRs HB2 HB1
        go_wp2_with fail
        refine (unhide hL w3).mono ?_
        rintro e w4 ⟨rfl, rfl⟩
        go_wp2_with fail
        refine (same_any _ _ _ _ (unhide HRs3) (unhide HRp)).mono ?_
        rintro e w5 ⟨rfl, k, rfl⟩
        go_wp2
        go_ret
        exact ⟨rfl, below_drewN (unhide HB3) _⟩
end Go.Proofs.Ytpenhefhedmhiaa
