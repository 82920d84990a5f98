/-
  What is read is what would be written. (No Go in sight.)
-/
import Derived.Test.YtaldacjeeccbhaaBackMath
namespace Go.Proofs.Ytaldacjeeccbhaa
open Go.RowKit

theorem unum_inv : ∀ (bs : List Int) (i acc x : Nat) (t : List Int), i ≤ 9 → BOk bs → unum i acc bs = .ok (x, t) → ∃ y, x = acc + y * 128 ^ i ∧ Wm.uform (9 - i) y ++ t = bs ∧ (0 < i → 0 < y) := by
  intro bs
  induction bs with
  | nil => intro i acc x t _ _ h; simp [unum] at h
  | cons b l ih =>
    intro i acc x t hi hB h
    have hb := hB b (by simp)
    rw [unum_cons] at h
    split at h
    · cases h
    · rename_i hn
      split at h
      · rename_i hlt
        cases h
        refine ⟨b.toNat, by rw [Nat.mod_eq_of_lt (by omega)], ?_, fun hi0 => ?_⟩
        · rw [uform_lt _ _ (by omega)]
          have : ((b.toNat : Nat) : Int) = b := by omega
          rw [this]; rfl
        · have : b ≠ 0 := fun e => hn (.inr ⟨hi0, e⟩)
          omega
      · rename_i hge
        have hi9 : i ≠ 9 := fun e => hn (.inl ⟨e, by omega⟩)
        obtain ⟨y, h1, h2, h3⟩ := ih (i + 1) _ x t (by omega) (fun c hc => hB c (by simp [hc])) h
        have hy := h3 (by omega)
        refine ⟨b.toNat % 128 + 128 * y, ?_, ?_, fun _ => by omega⟩
        · rw [h1, Nat.pow_succ, Nat.add_mul, Nat.mul_comm (128 ^ i) 128, ← Nat.mul_assoc, Nat.mul_comm y 128, Nat.add_assoc]
        · rw [show 9 - i = (9 - (i + 1)) + 1 from by omega, uform_ge _ _ (by omega), show (b.toNat % 128 + 128 * y) / 128 = y from by omega, List.cons_append, h2]
          have : (((b.toNat % 128 + 128 * y) % 128 + 128 : Nat) : Int) = b := by omega
          rw [this]

theorem unum_one (bs : List Int) (x : Nat) (t : List Int) (hB : BOk bs) (h : unum 0 0 bs = .ok (x, t)) : Wm.uform 9 x ++ t = bs := by
  obtain ⟨y, h1, h2, _⟩ := unum_inv bs 0 0 x t (by omega) hB h
  have : x = y := by simpa using h1
  rw [this]; exact h2
theorem fold_unfold (x : Nat) : foldI (unfoldI x) = (x : Int) := by
  unfold unfoldI foldI
  split
  · rw [if_pos (by omega)]; omega
  · rw [if_neg (by omega)]; omega
theorem unfold_bd (x : Nat) (hx : x < 2 ^ 64) : -9223372036854775808 ≤ unfoldI x ∧ unfoldI x ≤ 9223372036854775807 := by
  unfold unfoldI; split <;> omega

/-- One read and the write of its answer. -/
structure Step (bs : List Int) (e0 : Int) (form left : List Int) (e : Int) : Prop where
  ok : BOk left
  same : e = 0 → e0 = 0 ∧ form ++ left = bs
  len : form.length + left.length ≤ bs.length + 8

theorem stepByte (bs : List Int) (e0 : Int) (hB : BOk bs) : ∃ b left e, rres (.int .u8 0) (gByte bs) bs e0 = (.int .u8 b, left, e) ∧ Step bs e0 [b] left e := by
  unfold rres
  by_cases he : e0 = 0
  · rw [if_pos he]
    cases bs with
    | nil => exact ⟨0, [], 2, rfl, ⟨hB, by omega, by simp⟩⟩
    | cons b t => exact ⟨b, t, 0, rfl, ⟨fun c hc => hB c (by simp [hc]), fun _ => ⟨he, rfl⟩, by simp; omega⟩⟩
  · rw [if_neg he]
    exact ⟨0, bs, e0, rfl, ⟨hB, fun h => (he h).elim, by simp; omega⟩⟩

theorem ulen0 : Wm.ulen 9 0 = 1 := rfl
theorem unum_err (i acc : Nat) (bs : List Int) (k : Int) (h : unum i acc bs = .error k) : k ≠ 0 := by
  induction bs generalizing i acc with
  | nil => simp [unum] at h; omega
  | cons b l ih =>
    rw [unum_cons] at h
    split at h
    · cases h; omega
    · split at h
      · cases h
      · exact ih _ _ h

theorem stepUint (bs : List Int) (e0 : Int) (hB : BOk bs) : ∃ (x : Nat) (left : List Int) (e : Int), rres (.int .u64 0) (gNum (fun x => .int .u64 x) (unum 0 0 bs)) bs e0 = (.int .u64 x, left, e) ∧ x < 2 ^ 64 ∧ Step bs e0 (Wm.uform 9 x) left e := by
  unfold rres
  by_cases he : e0 = 0
  · rw [if_pos he]
    rcases hu : unum 0 0 bs with k | ⟨x, t⟩
    · exact ⟨0, bs, k, rfl, by omega, ⟨hB, fun h => (unum_err 0 0 bs k hu h).elim, by rw [Wm.uform_length, ulen0]; omega⟩⟩
    · have h1 := unum_lt 0 0 bs x t (by omega) (by simp) hB hu
      have h2 := unum_one bs x t hB hu
      exact ⟨x, t, 0, rfl, h1.1, ⟨h1.2, fun _ => ⟨he, h2⟩, by have := congrArg List.length h2; rw [List.length_append] at this; omega⟩⟩
  · rw [if_neg he]
    exact ⟨0, bs, e0, rfl, by omega, ⟨hB, fun h => (he h).elim, by rw [Wm.uform_length, ulen0]; omega⟩⟩

theorem fold_zero : (foldI 0).toNat = 0 := rfl
theorem stepInt (bs : List Int) (e0 : Int) (hB : BOk bs) : ∃ (n : Int) (left : List Int) (e : Int), rres (.int .i64 0) (gNum (fun x => .int .i64 (unfoldI x)) (unum 0 0 bs)) bs e0 = (.int .i64 n, left, e) ∧ (-9223372036854775808 ≤ n ∧ n ≤ 9223372036854775807) ∧ Step bs e0 (Wm.uform 9 (foldI n).toNat) left e := by
  unfold rres
  by_cases he : e0 = 0
  · rw [if_pos he]
    rcases hu : unum 0 0 bs with k | ⟨x, t⟩
    · exact ⟨0, bs, k, rfl, by omega, ⟨hB, fun h => (unum_err 0 0 bs k hu h).elim, by rw [fold_zero, Wm.uform_length, ulen0]; omega⟩⟩
    · have h1 := unum_lt 0 0 bs x t (by omega) (by simp) hB hu
      have h2 := unum_one bs x t hB hu
      refine ⟨unfoldI x, t, 0, rfl, unfold_bd x h1.1, ⟨h1.2, fun _ => ⟨he, ?_⟩, ?_⟩⟩
      · rw [fold_unfold, Int.toNat_natCast]; exact h2
      · rw [fold_unfold, Int.toNat_natCast]; have := congrArg List.length h2; rw [List.length_append] at this; omega
  · rw [if_neg he]
    exact ⟨0, bs, e0, rfl, by omega, ⟨hB, fun h => (he h).elim, by rw [fold_zero, Wm.uform_length, ulen0]; omega⟩⟩

end Go.Proofs.Ytaldacjeeccbhaa
