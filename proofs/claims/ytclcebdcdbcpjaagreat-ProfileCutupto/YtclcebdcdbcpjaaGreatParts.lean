/-
  The parts: word, unfold, atMost.
-/
import Derived.Test.YtclcebdcdbcpjaaGreatTake
namespace Go.Proofs.YtclcebdcdbcpjaaGreat
open Go.RowKit

/-- All are bytes. -/
def BOk (bs : List Int) : Prop := ∀ b ∈ bs, 0 ≤ b ∧ b < 256

/-- The form of a number from its i-th byte on: the number and what is left behind it, or the error. -/
def unum : Nat → Nat → List Int → Except Int (Nat × List Int)
  | _, _, [] => .error 2
  | i, acc, b :: t => if i = 9 ∧ b ≠ 1 ∨ 0 < i ∧ b = 0 then .error 4 else
      if b < 128 then .ok (acc + (b.toNat % 128) * 128 ^ i, t) else unum (i + 1) (acc + (b.toNat % 128) * 128 ^ i) t

theorem unum_cons (i acc : Nat) (b : Int) (t : List Int) : unum i acc (b :: t) = if i = 9 ∧ b ≠ 1 ∨ 0 < i ∧ b = 0 then .error 4 else
      if b < 128 then .ok (acc + (b.toNat % 128) * 128 ^ i, t) else unum (i + 1) (acc + (b.toNat % 128) * 128 ^ i) t := by rw [unum]

/-- What a part of a reader comes to. -/
def Came (r rb : Nat) (w : World) (e0 : Int) (f : Nat → Value) (o : Except Int (Nat × List Int)) (e : Ending) (w' : World) : Prop :=
  match o with
  | .ok (x, t) => e = .returned (f x) ∧ ∃ v2, Rdr w' r rb v2 t e0 ∧ RFr r w w'
  | .error k => e = errPanic k ∧ ∃ v2 bs2, Rdr w' r rb v2 bs2 e0 ∧ RFr r w w'

theorem and127 : ∀ n : Fin 256, n.val &&& 127 = n.val % 128 := by decide +kernel
theorem and127i (b : Int) (h0 : 0 ≤ b) (h1 : b < 256) : bits BinOp.and IntKind.u8 b 127 = ((b.toNat % 128 : Nat) : Int) := by
  have h := u8_and_nat b.toNat 127 (by omega) (by omega)
  rw [and127 ⟨b.toNat, by omega⟩, Int.toNat_of_nonneg h0] at h
  exact h
theorem pow9 {i : Nat} (hi : i ≤ 9) : 128 ^ i ≤ 2 ^ 63 := Nat.le_trans (Nat.pow_le_pow_right (by omega) hi) (by decide)
/-- A digit laid above the digits so far. -/
theorem or_digit (i acc c : Nat) (hi : i ≤ 9) (ha : acc < 128 ^ i) (hc : c * 128 ^ i < 2 ^ 64) : bits .or .u64 (acc : Int) ((c * 128 ^ i : Nat) : Int) = ((acc + c * 128 ^ i : Nat) : Int) := by
  have e : (128 : Nat) ^ i = 2 ^ (7 * i) := by rw [Nat.pow_mul]
  have h2 := Nat.two_pow_add_eq_or_of_lt (i := 7 * i) (b := acc) (by rw [← e]; exact ha) c
  rw [← e, Nat.mul_comm] at h2
  have h3 := pow9 hi
  rw [u64_or_nat acc (c * 128 ^ i) (by omega) (by omega), Nat.or_comm, ← h2, Nat.add_comm]

theorem wrapU (n : Nat) (h : n < 2 ^ 64) : IntKind.u64.wrap (n : Int) = (n : Int) := by
  simp only [IntKind.wrap_u64]; omega
theorem or9 (acc c : Nat) (hc : c = 1) (ha : acc < 128 ^ 9) : bits .or .u64 (acc : Int) (IntKind.u64.wrap ((c : Int) * 9223372036854775808)) = ((acc + c * 128 ^ 9 : Nat) : Int) := by
  subst hc
  rw [← or_digit 9 acc 1 (by omega) ha (by decide)]
  rfl
theorem or_lt (i acc c : Nat) (hi : i < 9) (hc : c < 128) (ha : acc < 128 ^ i) : bits .or .u64 (acc : Int) (IntKind.u64.wrap ((c : Int) * 2 ^ (7 * i))) = ((acc + c * 128 ^ i : Nat) : Int) := by
  have e : (128 : Nat) ^ i = 2 ^ (7 * i) := by rw [Nat.pow_mul]
  have h1 : 128 ^ (i + 1) ≤ 2 ^ 63 := pow9 (by omega)
  have h2 : c * 128 ^ i < 128 ^ (i + 1) := by rw [Nat.pow_succ, Nat.mul_comm (128 ^ i)]; exact Nat.mul_lt_mul_of_pos_right hc (Nat.pow_pos (by omega))
  rw [← or_digit i acc c (by omega) ha (by omega), show ((c : Int) * 2 ^ (7 * i)) = ((c * 128 ^ i : Nat) : Int) from by rw [e, Int.natCast_mul, Int.natCast_pow]; rfl, wrapU _ (by omega)]
theorem or_first (acc c : Nat) (hc : c < 128) (ha : acc < 128 ^ 0) : bits .or .u64 (acc : Int) (c : Int) = ((acc + c * 128 ^ 0 : Nat) : Int) := by
  rw [← or_digit 0 acc c (by omega) ha (by omega)]; simp
theorem acc_next {i acc c : Nat} (hc : c < 128) (ha : acc < 128 ^ i) : acc + c * 128 ^ i < 128 ^ (i + 1) := by
  have h2 : c * 128 ^ i + 128 ^ i ≤ 128 ^ (i + 1) := by
    rw [Nat.pow_succ, Nat.mul_comm (128 ^ i), ← Nat.succ_mul]; exact Nat.mul_le_mul_right _ hc
  omega

set_option maxHeartbeats 1600000 in
set_option maxRecDepth 100000 in
theorem number_any (r : Nat) {rb : Nat} (v : Value) (bs : List Int) (e0 : Int) (w : World) (h : Rdr w r rb v bs e0) (hB : BOk bs) :
    Calls Tryz.prog 84 #[.pointer (some ⟨r, 0, none⟩)] w fun e w' => Came r rb w e0 (fun x => .int .u64 x) (unum 0 0 bs) e w' := by
  obtain ⟨o, ho⟩ : ∃ o, Hid (unum 0 0 bs = o) := ⟨_, rfl⟩
  rw [unhide ho]
  have HB := hide hB
  have H := hide h
  clear h hB
  go_enter Tryz.func84, Tryz.ntmps84
  go_wp2
  go_loopg [3, 4, 5] 10 (fun k x s _ wr => ∃ (i acc : Nat) (rest : List Int) (v2 : Value), Hid (i + k = 10) ∧ Hid (acc < 128 ^ i) ∧ i ≤ 9 ∧ x = .int .u64 (acc : Int) ∧ s = .int .i64 (7 * (i : Int)) ∧
    Hid (Rdr wr r rb v2 rest e0 ∧ BOk rest ∧ RFr r w wr ∧ unum i acc rest = o))
  case atStart => exact ⟨0, 0, bs, v, rfl, by unfold Hid; simp, by omega, rfl, rfl, unhide H, unhide HB, RFr.refl _ _, unhide ho⟩
  case round =>
    obtain ⟨i, acc, rest, v2, hik, hacc, hi9, rfl, rfl, hR⟩ := hrel
    cases rest with
    | nil =>
      have hO := hide (one_short r v2 e0 wr (unhide hR).1)
      go_wp2_with fail
      refine (unhide hO).mono ?_
      rintro e w' ⟨rfl, rfl⟩
      refine ⟨rfl, ?_⟩
      rw [← (unhide hR).2.2.2]
      exact ⟨rfl, v2, [], (unhide hR).1, (unhide hR).2.2.1⟩
    | cons b t =>
      obtain ⟨hb0, hb1⟩ := (unhide hR).2.1 b (by simp)
      have hO := hide (one_ok r v2 b t e0 wr (unhide hR).1)
      have hBt : Hid (BOk t) := fun b hb => (unhide hR).2.1 b (by simp [hb])
      by_cases h1 : i = 9 ∧ b ≠ 1
      · have hU : Hid (Except.error 4 = o) := by rw [← (unhide hR).2.2.2, unum_cons, if_pos (.inl h1)]; rfl
        obtain ⟨rfl, hb⟩ := h1
        have q1 : (b != 1) = true := by rw [bne_iff_ne]; exact hb
        clear hb
        go_wp2_with fail
        refine (unhide hO).mono ?_
        rintro e w' ⟨rfl, v3, hW, hF⟩
        have HW := hide (And.intro hW hF)
        clear hW hF
        go_wp2
        refine ⟨rfl, ?_⟩
        rw [← unhide hU]
        exact ⟨rfl, v3, t, (unhide HW).1, (unhide hR).2.2.1.trans (unhide HW).2⟩
      by_cases h2 : 0 < i ∧ b = 0
      · have hU : Hid (Except.error 4 = o) := by rw [← (unhide hR).2.2.2, unum_cons, if_pos (.inr h2)]; rfl
        obtain ⟨hi0, rfl⟩ := h2
        have q1 : ((7 * (i : Int)) == 63) = false := by rw [beq_eq_false_iff_ne]; intro e; exact h1 ⟨by omega, by simp⟩
        have q2 : (0 : Int) < 7 * (i : Int) := by omega
        clear h1
        go_wp2_with fail
        refine (unhide hO).mono ?_
        rintro e w' ⟨rfl, v3, hW, hF⟩
        have HW := hide (And.intro hW hF)
        clear hW hF
        go_wp2
        refine ⟨rfl, ?_⟩
        rw [← unhide hU]
        exact ⟨rfl, v3, t, (unhide HW).1, (unhide hR).2.2.1.trans (unhide HW).2⟩
      have hU := (unhide hR).2.2.2
      rw [unum_cons, if_neg (fun h => h.elim h1 h2)] at hU
      have HU := hide hU
      have hand := and127i b hb0 hb1
      obtain ⟨c, hc⟩ : ∃ c, b.toNat % 128 = c := ⟨_, rfl⟩
      have hc1 : c < 128 := by omega
      rw [hc] at hand HU
      have HC := hide hc
      clear hU hc
      by_cases h9 : i = 9
      · subst h9
        obtain rfl : b = 1 := by
          rcases Int.decEq b 1 with h | h
          · exact (h1 ⟨rfl, h⟩).elim
          · exact h
        go_wp2_with fail
        refine (unhide hO).mono ?_
        rintro e w' ⟨rfl, v3, hW, hF⟩
        have HW := hide (And.intro hW hF)
        clear hW hF
        go_wp2
        go_ret
        rw [← unhide HU, if_pos (by omega)]
        exact ⟨ret_int (or9 acc c (unhide HC).symm (unhide hacc)), v3, (unhide HW).1, (unhide hR).2.2.1.trans (unhide HW).2⟩
      · have hi8 : i < 9 := by omega
        have HN := hide (acc_next hc1 (unhide hacc))
        by_cases h0 : i = 0
        · subst h0
          clear h1 h2
          by_cases hlt : b < 128
          · go_wp2_with fail
            refine (unhide hO).mono ?_
            rintro e w' ⟨rfl, v3, hW, hF⟩
            have HW := hide (And.intro hW hF)
            clear hW hF
            go_wp2
            go_ret
            rw [← unhide HU, if_pos hlt]
            exact ⟨ret_int (or_first acc c hc1 (unhide hacc)), v3, (unhide HW).1, (unhide hR).2.2.1.trans (unhide HW).2⟩
          · go_wp2_with fail
            refine (unhide hO).mono ?_
            rintro e w' ⟨rfl, v3, hW, hF⟩
            have HW := hide (And.intro hW hF)
            clear hW hF
            go_wp2
            go_roundg (gk - 1)
            case measure => have := unhide hik; omega
            case rel => exact ⟨0 + 1, acc + c * 128 ^ 0, t, v3, by have := unhide hik; unfold Hid; omega, unhide HN, by omega, congrArg (Value.int IntKind.u64) (or_first acc c hc1 (unhide hacc)), by go_num, (unhide HW).1, unhide hBt, (unhide hR).2.2.1.trans (unhide HW).2, by have := unhide HU; rw [if_neg (by omega)] at this; exact this⟩
        · have q1 : ((7 * (i : Int)) == 63) = false := by rw [beq_eq_false_iff_ne]; omega
          have q2 : (0 : Int) < 7 * (i : Int) := by omega
          have q3 : (b == 0) = false := by rw [beq_eq_false_iff_ne]; intro e; exact h2 ⟨by omega, e⟩
          clear h1 h2
          by_cases hlt : b < 128
          · go_wp2_with fail
            refine (unhide hO).mono ?_
            rintro e w' ⟨rfl, v3, hW, hF⟩
            have HW := hide (And.intro hW hF)
            clear hW hF
            go_wp2
            go_ret
            rw [← unhide HU, if_pos hlt]
            exact ⟨ret_int (or_lt i acc c hi8 hc1 (unhide hacc)), v3, (unhide HW).1, (unhide hR).2.2.1.trans (unhide HW).2⟩
          · go_wp2_with fail
            refine (unhide hO).mono ?_
            rintro e w' ⟨rfl, v3, hW, hF⟩
            have HW := hide (And.intro hW hF)
            clear hW hF
            go_wp2
            go_roundg (gk - 1)
            case measure => have := unhide hik; omega
            case rel => exact ⟨i + 1, acc + c * 128 ^ i, t, v3, by have := unhide hik; unfold Hid; omega, unhide HN, by omega, congrArg (Value.int IntKind.u64) (or_lt i acc c hi8 hc1 (unhide hacc)), by go_num, (unhide HW).1, unhide hBt, (unhide hR).2.2.1.trans (unhide HW).2, by have := unhide HU; rw [if_neg (by omega)] at this; exact this⟩


/-- The number that so many bytes are, the highest first. -/
def wnum : Nat → List Int → Nat
  | acc, [] => acc
  | acc, b :: t => wnum (acc * 256 + b.toNat) t

theorem wnum_take (acc : Nat) (l : List Int) (j : Nat) (hj : j < l.length) : wnum acc (l.take (j + 1)) = wnum acc (l.take j) * 256 + (l.getD j 0).toNat := by
  induction l generalizing acc j with
  | nil => simp at hj
  | cons b t ih =>
    cases j with
    | zero => simp [wnum]
    | succ j => simp only [List.take_succ_cons, wnum, List.getD_cons_succ]; exact ih _ j (by simpa using hj)

theorem wnum_lt (l : List Int) (acc : Nat) (hB : BOk l) : wnum acc l < (acc + 1) * 256 ^ l.length := by
  induction l generalizing acc with
  | nil => simp [wnum]
  | cons b t ih =>
    have hb := hB b (by simp)
    have h := ih (acc * 256 + b.toNat) (fun c hc => hB c (by simp [hc]))
    have h2 : (acc * 256 + b.toNat + 1) * 256 ^ t.length ≤ ((acc + 1) * 256) * 256 ^ t.length := Nat.mul_le_mul_right _ (by omega)
    rw [Nat.mul_assoc, ← Nat.pow_succ'] at h2
    simp only [wnum, List.length_cons]
    exact Nat.lt_of_lt_of_le h h2
theorem or_byte (x : Nat) (b : Int) (hx : x < 256 ^ 7) (h0 : 0 ≤ b) (h1 : b < 256) : bits .or .u64 (IntKind.u64.wrap ((x : Int) * 256)) b = ((x * 256 + b.toNat : Nat) : Int) := by
  have h2 := Nat.two_pow_add_eq_or_of_lt (i := 8) (b := b.toNat) (by omega) x
  have h3 : x * 256 < 2 ^ 64 := by have : (256 : Nat) ^ 7 = 2 ^ 56 := by decide
                                   omega
  have hb : b = ((b.toNat : Nat) : Int) := by omega
  rw [show ((x : Int) * 256) = ((x * 256 : Nat) : Int) from by omega, wrapU _ h3]
  have h4 := u64_or_nat (x * 256) b.toNat (by omega) (by omega)
  rw [← hb] at h4
  rw [h4, Nat.mul_comm x 256]
  exact congrArg _ h2.symm

theorem word_pre (l : List Int) (hB : ∀ i, i < 8 → 0 ≤ l.getD i 0 ∧ l.getD i 0 < 256) (hl : l.length = 8) (j : Nat) (hj : j < 8) : wnum 0 (l.take j) < 256 ^ 7 := by
  have h := wnum_lt (l.take j) 0 (fun b hb => by
    obtain ⟨i, hi, rfl⟩ := List.getElem_of_mem hb
    rw [List.length_take] at hi
    have := hB i (by omega)
    rw [List.getD_eq_getElem?_getD, List.getElem?_eq_getElem (by omega)] at this
    simpa using this)
  rw [List.length_take] at h
  have h2 : 256 ^ (min j l.length) ≤ 256 ^ 7 := Nat.pow_le_pow_right (by omega) (by omega)
  omega

theorem xor_i64_zero (n : Nat) (h : n < 2 ^ 63) : bits .xor .i64 (n : Int) 0 = (n : Int) := by
  have e : bits .xor .i64 (n : Int) 0 = IntKind.i64.wrap ((BitVec.ofInt 64 (n : Int) ^^^ BitVec.ofInt 64 0).toNat : Int) := rfl
  rw [e, BitVec.ofInt_natCast, show BitVec.ofInt 64 0 = 0#64 from rfl, BitVec.xor_zero, BitVec.toNat_ofNat, IntKind.wrap_i64]
  omega
theorem xor_i64_ones (n : Nat) (h : n < 2 ^ 63) : bits .xor .i64 (n : Int) (-1) = -(n : Int) - 1 := by
  have e : bits .xor .i64 (n : Int) (-1) = IntKind.i64.wrap ((BitVec.ofInt 64 (n : Int) ^^^ BitVec.ofInt 64 (-1)).toNat : Int) := rfl
  rw [e, BitVec.ofInt_natCast, show BitVec.ofInt 64 (-1) = BitVec.allOnes 64 from by decide, BitVec.xor_allOnes, BitVec.toNat_not, BitVec.toNat_ofNat, IntKind.wrap_i64]
  omega

/-- The number with a sign that a number stands for. -/
def unfoldI (x : Nat) : Int := if x % 2 = 0 then ((x / 2 : Nat) : Int) else -((x / 2 : Nat) : Int) - 1

set_option maxHeartbeats 400000 in
set_option maxRecDepth 100000 in
theorem unfold_any (x : Nat) (w : World) (hx : x < 2 ^ 64) :
    Calls Tryz.prog 120 #[.int .u64 x] w fun e w' => e = .returned (.int .i64 (unfoldI x)) ∧ w' = w := by
  have hand : bits BinOp.and IntKind.u64 (x : Int) 1 = ((x % 2 : Nat) : Int) := by
    have h := u64_and_nat x 1 (by omega) (by omega)
    rw [Nat.and_one_is_mod] at h
    exact h
  have hlt : x % 2 < 2 := Nat.mod_lt _ (by omega)
  rcases Nat.mod_two_eq_zero_or_one x with h2 | h2
  · rw [h2] at hand
    go_enter Tryz.func120, Tryz.ntmps120
    go_wp2
    go_ret
    exact ⟨ret_int (by rw [show ((x : Int) / 2) = ((x / 2 : Nat) : Int) from by omega, xor_i64_zero _ (by omega), unfoldI, if_pos h2]), rfl⟩
  · rw [h2] at hand
    go_enter Tryz.func120, Tryz.ntmps120
    go_wp2
    go_ret
    exact ⟨ret_int (by rw [show ((x : Int) / 2) = ((x / 2 : Nat) : Int) from by omega, xor_i64_ones _ (by omega), unfoldI, if_neg (by omega)]), rfl⟩

/-- A number that is not above most (which counts as 0 where it is below). -/
def unumMost (most : Int) (bs : List Int) : Except Int (Nat × List Int) :=
  match unum 0 0 bs with
  | .ok (x, t) => if max most 0 < (x : Int) then .error 5 else .ok (x, t)
  | .error k => .error k

theorem unum_lt (i acc : Nat) (bs : List Int) (x : Nat) (t : List Int) (hi : i ≤ 9) (ha : acc < 128 ^ i) (hB : BOk bs) (h : unum i acc bs = .ok (x, t)) : x < 2 ^ 64 ∧ BOk t := by
  induction bs generalizing i acc with
  | nil => simp [unum] at h
  | cons b l ih =>
    have hb := hB b (by simp)
    rw [unum_cons] at h
    split at h
    · cases h
    · rename_i hn
      have hBl : BOk l := fun c hc => hB c (by simp [hc])
      split at h
      · cases h
        refine ⟨?_, hBl⟩
        by_cases h9 : i = 9
        · subst h9
          have : b = 1 := by
            rcases Int.decEq b 1 with h | h
            · exact (hn (.inl ⟨rfl, h⟩)).elim
            · exact h
          subst this
          have : (128 : Nat) ^ 9 = 2 ^ 63 := by decide
          simp only [Int.toNat_one, Nat.reduceMod, Nat.one_mul]
          omega
        · have h1 := acc_next (c := b.toNat % 128) (Nat.mod_lt _ (by omega)) ha
          have h2 := pow9 (i := i + 1) (by omega)
          omega
      · by_cases h9 : i = 9
        · subst h9
          exact (hn (.inl ⟨rfl, by omega⟩)).elim
        · exact ih (i + 1) _ (by omega) (acc_next (Nat.mod_lt _ (by omega)) ha) hBl h

set_option maxHeartbeats 400000 in
set_option maxRecDepth 100000 in
theorem atMost_any (r : Nat) {rb : Nat} (v : Value) (bs : List Int) (e0 most : Int) (w : World) (h : Rdr w r rb v bs e0) (hB : BOk bs) (hm : most ≤ 9223372036854775807) :
    Calls Tryz.prog 67 #[.pointer (some ⟨r, 0, none⟩), .int .i64 most] w fun e w' => Came r rb w e0 (fun x => .int .i64 x) (unumMost most bs) e w' := by
  have hN := hide (number_any r v bs e0 w h hB)
  unfold unumMost
  rcases hu : unum 0 0 bs with k | ⟨x, t⟩
  · rw [hu] at hN
    clear h
    go_enter Tryz.func67, Tryz.ntmps67
    go_wp2_with fail
    refine (unhide hN).mono ?_
    rintro e w' ⟨rfl, hh⟩
    exact ⟨rfl, rfl, hh⟩
  · rw [hu] at hN
    have hx := (unum_lt 0 0 bs x t (by omega) (by simp) hB hu).1
    clear h hB hu
    by_cases hc : max most 0 < (x : Int)
    · simp only [if_pos hc]
      go_enter Tryz.func67, Tryz.ntmps67
      go_wp2_with fail
      refine (unhide hN).mono ?_
      rintro e w' ⟨rfl, v2, hW, hF⟩
      have HH := hide (And.intro hW hF)
      clear hW hF
      go_wp2
      exact ⟨rfl, rfl, v2, t, (unhide HH).1, (unhide HH).2⟩
    · simp only [if_neg hc]
      go_enter Tryz.func67, Tryz.ntmps67
      go_wp2_with fail
      refine (unhide hN).mono ?_
      rintro e w' ⟨rfl, v2, hW, hF⟩
      have HH := hide (And.intro hW hF)
      clear hW hF
      go_wp2
      go_ret
      exact ⟨rfl, v2, (unhide HH).1, (unhide HH).2⟩
end Go.Proofs.YtclcebdcdbcpjaaGreat
