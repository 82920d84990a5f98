/-
  The parts: word, unfold, atMost.
-/
import Derived.Test.YtaldacjeeccbhaaNum
namespace Go.Proofs.Ytaldacjeeccbhaa
open Go.RowKit

/-- The number that so many bytes are, the highest first. -/
def wnum : Nat → List Int → Nat
  | acc, [] => acc
  | acc, b :: t => wnum (acc * 256 + b.toNat) t

theorem wnum_take (acc : Nat) (l : List Int) (j : Nat) (hj : j < l.length) : wnum acc (l.take (j + 1)) = wnum acc (l.take j) * 256 + (l.getD j 0).toNat := by
  induction l generalizing acc j with
  | nil => simp at hj
  | cons b t ih =>
    cases j with
    | zero => simp [wnum]
    | succ j => simp only [List.take_succ_cons, wnum, List.getD_cons_succ]; exact ih _ j (by simpa using hj)

theorem wnum_lt (l : List Int) (acc : Nat) (hB : BOk l) : wnum acc l < (acc + 1) * 256 ^ l.length := by
  induction l generalizing acc with
  | nil => simp [wnum]
  | cons b t ih =>
    have hb := hB b (by simp)
    have h := ih (acc * 256 + b.toNat) (fun c hc => hB c (by simp [hc]))
    have h2 : (acc * 256 + b.toNat + 1) * 256 ^ t.length ≤ ((acc + 1) * 256) * 256 ^ t.length := Nat.mul_le_mul_right _ (by omega)
    rw [Nat.mul_assoc, ← Nat.pow_succ'] at h2
    simp only [wnum, List.length_cons]
    exact Nat.lt_of_lt_of_le h h2
theorem or_byte (x : Nat) (b : Int) (hx : x < 256 ^ 7) (h0 : 0 ≤ b) (h1 : b < 256) : bits .or .u64 (IntKind.u64.wrap ((x : Int) * 256)) b = ((x * 256 + b.toNat : Nat) : Int) := by
  have h2 := Nat.two_pow_add_eq_or_of_lt (i := 8) (b := b.toNat) (by omega) x
  have h3 : x * 256 < 2 ^ 64 := by have : (256 : Nat) ^ 7 = 2 ^ 56 := by decide
                                   omega
  have hb : b = ((b.toNat : Nat) : Int) := by omega
  rw [show ((x : Int) * 256) = ((x * 256 : Nat) : Int) from by omega, wrapU _ h3]
  have h4 := u64_or_nat (x * 256) b.toNat (by omega) (by omega)
  rw [← hb] at h4
  rw [h4, Nat.mul_comm x 256]
  exact congrArg _ h2.symm

theorem word_pre (l : List Int) (hB : ∀ i, i < 8 → 0 ≤ l.getD i 0 ∧ l.getD i 0 < 256) (hl : l.length = 8) (j : Nat) (hj : j < 8) : wnum 0 (l.take j) < 256 ^ 7 := by
  have h := wnum_lt (l.take j) 0 (fun b hb => by
    obtain ⟨i, hi, rfl⟩ := List.getElem_of_mem hb
    rw [List.length_take] at hi
    have := hB i (by omega)
    rw [List.getD_eq_getElem?_getD, List.getElem?_eq_getElem (by omega)] at this
    simpa using this)
  rw [List.length_take] at h
  have h2 : 256 ^ (min j l.length) ≤ 256 ^ 7 := Nat.pow_le_pow_right (by omega) (by omega)
  omega

theorem xor_i64_zero (n : Nat) (h : n < 2 ^ 63) : bits .xor .i64 (n : Int) 0 = (n : Int) := by
  have e : bits .xor .i64 (n : Int) 0 = IntKind.i64.wrap ((BitVec.ofInt 64 (n : Int) ^^^ BitVec.ofInt 64 0).toNat : Int) := rfl
  rw [e, BitVec.ofInt_natCast, show BitVec.ofInt 64 0 = 0#64 from rfl, BitVec.xor_zero, BitVec.toNat_ofNat, IntKind.wrap_i64]
  omega
theorem xor_i64_ones (n : Nat) (h : n < 2 ^ 63) : bits .xor .i64 (n : Int) (-1) = -(n : Int) - 1 := by
  have e : bits .xor .i64 (n : Int) (-1) = IntKind.i64.wrap ((BitVec.ofInt 64 (n : Int) ^^^ BitVec.ofInt 64 (-1)).toNat : Int) := rfl
  rw [e, BitVec.ofInt_natCast, show BitVec.ofInt 64 (-1) = BitVec.allOnes 64 from by decide, BitVec.xor_allOnes, BitVec.toNat_not, BitVec.toNat_ofNat, IntKind.wrap_i64]
  omega

/-- The number with a sign that a number stands for. -/
def unfoldI (x : Nat) : Int := if x % 2 = 0 then ((x / 2 : Nat) : Int) else -((x / 2 : Nat) : Int) - 1

set_option maxHeartbeats 400000 in
set_option maxRecDepth 100000 in
theorem unfold_any (x : Nat) (w : World) (hx : x < 2 ^ 64) :
    Calls Try.prog 112 #[.int .u64 x] w fun e w' => e = .returned (.int .i64 (unfoldI x)) ∧ w' = w := by
  have hand : bits BinOp.and IntKind.u64 (x : Int) 1 = ((x % 2 : Nat) : Int) := by
    have h := u64_and_nat x 1 (by omega) (by omega)
    rw [Nat.and_one_is_mod] at h
    exact h
  have hlt : x % 2 < 2 := Nat.mod_lt _ (by omega)
  rcases Nat.mod_two_eq_zero_or_one x with h2 | h2
  · rw [h2] at hand
    go_enter Try.func112, Try.ntmps112
    go_wp2
    go_ret
    exact ⟨ret_int (by rw [show ((x : Int) / 2) = ((x / 2 : Nat) : Int) from by omega, xor_i64_zero _ (by omega), unfoldI, if_pos h2]), rfl⟩
  · rw [h2] at hand
    go_enter Try.func112, Try.ntmps112
    go_wp2
    go_ret
    exact ⟨ret_int (by rw [show ((x : Int) / 2) = ((x / 2 : Nat) : Int) from by omega, xor_i64_ones _ (by omega), unfoldI, if_neg (by omega)]), rfl⟩

/-- A number that is not above most (which counts as 0 where it is below). -/
def unumMost (most : Int) (bs : List Int) : Except Int (Nat × List Int) :=
  match unum 0 0 bs with
  | .ok (x, t) => if max most 0 < (x : Int) then .error 5 else .ok (x, t)
  | .error k => .error k

theorem unum_lt (i acc : Nat) (bs : List Int) (x : Nat) (t : List Int) (hi : i ≤ 9) (ha : acc < 128 ^ i) (hB : BOk bs) (h : unum i acc bs = .ok (x, t)) : x < 2 ^ 64 ∧ BOk t := by
  induction bs generalizing i acc with
  | nil => simp [unum] at h
  | cons b l ih =>
    have hb := hB b (by simp)
    rw [unum_cons] at h
    split at h
    · cases h
    · rename_i hn
      have hBl : BOk l := fun c hc => hB c (by simp [hc])
      split at h
      · cases h
        refine ⟨?_, hBl⟩
        by_cases h9 : i = 9
        · subst h9
          have : b = 1 := by
            rcases Int.decEq b 1 with h | h
            · exact (hn (.inl ⟨rfl, h⟩)).elim
            · exact h
          subst this
          have : (128 : Nat) ^ 9 = 2 ^ 63 := by decide
          simp only [Int.toNat_one, Nat.reduceMod, Nat.one_mul]
          omega
        · have h1 := acc_next (c := b.toNat % 128) (Nat.mod_lt _ (by omega)) ha
          have h2 := pow9 (i := i + 1) (by omega)
          omega
      · by_cases h9 : i = 9
        · subst h9
          exact (hn (.inl ⟨rfl, by omega⟩)).elim
        · exact ih (i + 1) _ (by omega) (acc_next (Nat.mod_lt _ (by omega)) ha) hBl h

set_option maxHeartbeats 400000 in
set_option maxRecDepth 100000 in
theorem atMost_any (r : Nat) {rb : Nat} (v : Value) (bs : List Int) (e0 most : Int) (w : World) (h : Rdr w r rb v bs e0) (hB : BOk bs) (hm : most ≤ 9223372036854775807) :
    Calls Try.prog 91 #[.pointer (some ⟨r, 0, none⟩), .int .i64 most] w fun e w' => Came r rb w e0 (fun x => .int .i64 x) (unumMost most bs) e w' := by
  have hN := hide (number_any r v bs e0 w h hB)
  unfold unumMost
  rcases hu : unum 0 0 bs with k | ⟨x, t⟩
  · rw [hu] at hN
    clear h
    go_enter Try.func91, Try.ntmps91
    go_wp2_with fail
    refine (unhide hN).mono ?_
    rintro e w' ⟨rfl, hh⟩
    exact ⟨rfl, rfl, hh⟩
  · rw [hu] at hN
    have hx := (unum_lt 0 0 bs x t (by omega) (by simp) hB hu).1
    clear h hB hu
    by_cases hc : max most 0 < (x : Int)
    · simp only [if_pos hc]
      go_enter Try.func91, Try.ntmps91
      go_wp2_with fail
      refine (unhide hN).mono ?_
      rintro e w' ⟨rfl, v2, hW, hF⟩
      have HH := hide (And.intro hW hF)
      clear hW hF
      go_wp2
      exact ⟨rfl, rfl, v2, t, (unhide HH).1, (unhide HH).2⟩
    · simp only [if_neg hc]
      go_enter Try.func91, Try.ntmps91
      go_wp2_with fail
      refine (unhide hN).mono ?_
      rintro e w' ⟨rfl, v2, hW, hF⟩
      have HH := hide (And.intro hW hF)
      clear hW hF
      go_wp2
      go_ret
      exact ⟨rfl, v2, (unhide HH).1, (unhide HH).2⟩
end Go.Proofs.Ytaldacjeeccbhaa
