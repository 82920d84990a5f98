/-
  What is read is what would be written. (No Go in sight.)
-/
import Derived.Test.YtclcebdcdbcpjaaGreatRaw
namespace Go.Proofs.YtclcebdcdbcpjaaGreat
open Go.RowKit

theorem uform_zero (x : Nat) : Wm.uform 0 x = [(x : Int)] := rfl
theorem uform_lt (f x : Nat) (h : x < 128) : Wm.uform f x = [(x : Int)] := by
  cases f with
  | zero => rfl
  | succ f => rw [Wm.uform, if_pos h]
theorem uform_ge (f x : Nat) (h : ¬ x < 128) : Wm.uform (f + 1) x = ((x % 128 + 128 : Nat) : Int) :: Wm.uform f (x / 128) := by rw [Wm.uform, if_neg h]

/-- What holds of the number that is left at the i-th digit. -/
def Fits (i f x : Nat) : Prop := i + f = 9 ∧ x * 128 ^ i < 2 ^ 64 ∧ (0 < i → 0 < x)
theorem Fits.start (x : Nat) (h : x < 2 ^ 64) : Fits 0 9 x := ⟨rfl, by simpa using h, by omega⟩
theorem Fits.next {i f x : Nat} (h : Fits i (f + 1) x) (hx : ¬ x < 128) : Fits (i + 1) f (x / 128) := by
  obtain ⟨h1, h2, h3⟩ := h
  refine ⟨by omega, ?_, fun _ => by omega⟩
  have : x / 128 * 128 ^ (i + 1) ≤ x * 128 ^ i := by
    rw [Nat.pow_succ, Nat.mul_comm (128 ^ i), ← Nat.mul_assoc]
    exact Nat.mul_le_mul_right _ (Nat.div_mul_le_self x 128)
  omega
theorem Fits.last {i x : Nat} (h : Fits i 0 x) : x = 1 := by
  obtain ⟨h1, h2, h3⟩ := h
  obtain rfl : i = 9 := by omega
  have : (128 : Nat) ^ 9 = 2 ^ 63 := by decide
  rw [this] at h2
  omega

/-- A form is read back, and what lies behind it is left. -/
theorem unum_back : ∀ (f i acc x : Nat) (rest : List Int), Fits i f x → unum i acc (Wm.uform f x ++ rest) = .ok (acc + x * 128 ^ i, rest) := by
  intro f
  induction f with
  | zero =>
    intro i acc x rest h
    have hx := h.last
    subst hx
    rw [uform_zero, List.singleton_append, unum_cons, if_neg (by omega), if_pos (by omega)]
    simp
  | succ f ih =>
    intro i acc x rest h
    by_cases hl : x < 128
    · rw [uform_lt _ _ hl, List.singleton_append, unum_cons, if_neg ?_, if_pos (by omega)]
      · rw [Int.toNat_natCast, Nat.mod_eq_of_lt hl]
      · have := h.1
        have := h.2.2
        omega
    · rw [uform_ge _ _ hl, List.cons_append, unum_cons, if_neg ?_, if_neg (by omega), ih (i + 1) _ (x / 128) rest (h.next hl)]
      · rw [Int.toNat_natCast]
        have e : acc + (x % 128 + 128) % 128 * 128 ^ i + x / 128 * 128 ^ (i + 1) = acc + x * 128 ^ i := by
          rw [show (x % 128 + 128) % 128 = x % 128 from by omega, Nat.pow_succ, Nat.mul_comm (128 ^ i) 128, ← Nat.mul_assoc, Nat.add_assoc, ← Nat.add_mul]
          congr 2
          omega
        rw [e]
      · have := h.1
        omega

/-- A proper beginning of a form is none. -/
theorem unum_begin : ∀ (f i acc x c : Nat), Fits i f x → c < Wm.ulen f x → unum i acc ((Wm.uform f x).take c) = .error 2 := by
  intro f
  induction f with
  | zero =>
    intro i acc x c h hc
    simp only [Wm.ulen] at hc
    obtain rfl : c = 0 := by omega
    rfl
  | succ f ih =>
    intro i acc x c h hc
    by_cases hl : x < 128
    · rw [Wm.ulen, if_pos hl] at hc
      obtain rfl : c = 0 := by omega
      rfl
    · rw [Wm.ulen, if_neg hl] at hc
      cases c with
      | zero => rfl
      | succ c =>
        rw [uform_ge _ _ hl, List.take_succ_cons, unum_cons, if_neg ?_, if_neg (by omega), ih (i + 1) _ (x / 128) c (h.next hl) (by omega)]
        have := h.1
        omega

theorem unum_form (x : Nat) (rest : List Int) (h : x < 2 ^ 64) : unum 0 0 (Wm.uform 9 x ++ rest) = .ok (x, rest) := by
  rw [unum_back 9 0 0 x rest (Fits.start x h)]; simp

theorem uform_bok : ∀ f x, x < 128 * 128 ^ f → BOk (Wm.uform f x) := by
  intro f
  induction f with
  | zero => intro x hx b hb; simp [Wm.uform] at hb hx; omega
  | succ f ih =>
    intro x hx b hb
    by_cases hl : x < 128
    · rw [uform_lt _ _ hl] at hb; simp at hb; omega
    · rw [uform_ge _ _ hl] at hb
      rcases List.mem_cons.1 hb with rfl | hb
      · omega
      · exact ih (x / 128) (by rw [Nat.pow_succ] at hx; omega) b hb
theorem BOk.append {a b : List Int} (ha : BOk a) (hb : BOk b) : BOk (a ++ b) := fun x hx => by
  rcases List.mem_append.1 hx with h | h
  · exact ha x h
  · exact hb x h
theorem BOk.take {a : List Int} (ha : BOk a) (n : Nat) : BOk (a.take n) := fun x hx => ha x (List.mem_of_mem_take hx)
theorem BOk.drop {a : List Int} (ha : BOk a) (n : Nat) : BOk (a.drop n) := fun x hx => ha x (List.mem_of_mem_drop hx)


theorem unum_inv : ∀ (bs : List Int) (i acc x : Nat) (t : List Int), i ≤ 9 → BOk bs → unum i acc bs = .ok (x, t) → ∃ y, x = acc + y * 128 ^ i ∧ Wm.uform (9 - i) y ++ t = bs ∧ (0 < i → 0 < y) := by
  intro bs
  induction bs with
  | nil => intro i acc x t _ _ h; simp [unum] at h
  | cons b l ih =>
    intro i acc x t hi hB h
    have hb := hB b (by simp)
    rw [unum_cons] at h
    split at h
    · cases h
    · rename_i hn
      split at h
      · rename_i hlt
        cases h
        refine ⟨b.toNat, by rw [Nat.mod_eq_of_lt (by omega)], ?_, fun hi0 => ?_⟩
        · rw [uform_lt _ _ (by omega)]
          have : ((b.toNat : Nat) : Int) = b := by omega
          rw [this]; rfl
        · have : b ≠ 0 := fun e => hn (.inr ⟨hi0, e⟩)
          omega
      · rename_i hge
        have hi9 : i ≠ 9 := fun e => hn (.inl ⟨e, by omega⟩)
        obtain ⟨y, h1, h2, h3⟩ := ih (i + 1) _ x t (by omega) (fun c hc => hB c (by simp [hc])) h
        have hy := h3 (by omega)
        refine ⟨b.toNat % 128 + 128 * y, ?_, ?_, fun _ => by omega⟩
        · rw [h1, Nat.pow_succ, Nat.add_mul, Nat.mul_comm (128 ^ i) 128, ← Nat.mul_assoc, Nat.mul_comm y 128, Nat.add_assoc]
        · rw [show 9 - i = (9 - (i + 1)) + 1 from by omega, uform_ge _ _ (by omega), show (b.toNat % 128 + 128 * y) / 128 = y from by omega, List.cons_append, h2]
          have : (((b.toNat % 128 + 128 * y) % 128 + 128 : Nat) : Int) = b := by omega
          rw [this]

theorem unum_one (bs : List Int) (x : Nat) (t : List Int) (hB : BOk bs) (h : unum 0 0 bs = .ok (x, t)) : Wm.uform 9 x ++ t = bs := by
  obtain ⟨y, h1, h2, _⟩ := unum_inv bs 0 0 x t (by omega) hB h
  have : x = y := by simpa using h1
  rw [this]; exact h2
theorem fold_unfold (x : Nat) : foldI (unfoldI x) = (x : Int) := by
  unfold unfoldI foldI
  split
  · rw [if_pos (by omega)]; omega
  · rw [if_neg (by omega)]; omega
theorem unfold_bd (x : Nat) (hx : x < 2 ^ 64) : -9223372036854775808 ≤ unfoldI x ∧ unfoldI x ≤ 9223372036854775807 := by
  unfold unfoldI; split <;> omega

/-- One read and the write of its answer. -/
structure Step (bs : List Int) (e0 : Int) (form left : List Int) (e : Int) : Prop where
  ok : BOk left
  same : e = 0 → e0 = 0 ∧ form ++ left = bs
  len : form.length + left.length ≤ bs.length + 8

theorem stepByte (bs : List Int) (e0 : Int) (hB : BOk bs) : ∃ b left e, rres (.int .u8 0) (gByte bs) bs e0 = (.int .u8 b, left, e) ∧ Step bs e0 [b] left e := by
  unfold rres
  by_cases he : e0 = 0
  · rw [if_pos he]
    cases bs with
    | nil => exact ⟨0, [], 2, rfl, ⟨hB, by omega, by simp⟩⟩
    | cons b t => exact ⟨b, t, 0, rfl, ⟨fun c hc => hB c (by simp [hc]), fun _ => ⟨he, rfl⟩, by simp; omega⟩⟩
  · rw [if_neg he]
    exact ⟨0, bs, e0, rfl, ⟨hB, fun h => (he h).elim, by simp; omega⟩⟩

theorem ulen0 : Wm.ulen 9 0 = 1 := rfl
theorem unum_err (i acc : Nat) (bs : List Int) (k : Int) (h : unum i acc bs = .error k) : k ≠ 0 := by
  induction bs generalizing i acc with
  | nil => simp [unum] at h; omega
  | cons b l ih =>
    rw [unum_cons] at h
    split at h
    · cases h; omega
    · split at h
      · cases h
      · exact ih _ _ h

theorem stepUint (bs : List Int) (e0 : Int) (hB : BOk bs) : ∃ (x : Nat) (left : List Int) (e : Int), rres (.int .u64 0) (gNum (fun x => .int .u64 x) (unum 0 0 bs)) bs e0 = (.int .u64 x, left, e) ∧ x < 2 ^ 64 ∧ Step bs e0 (Wm.uform 9 x) left e := by
  unfold rres
  by_cases he : e0 = 0
  · rw [if_pos he]
    rcases hu : unum 0 0 bs with k | ⟨x, t⟩
    · exact ⟨0, bs, k, rfl, by omega, ⟨hB, fun h => (unum_err 0 0 bs k hu h).elim, by rw [Wm.uform_length, ulen0]; omega⟩⟩
    · have h1 := unum_lt 0 0 bs x t (by omega) (by simp) hB hu
      have h2 := unum_one bs x t hB hu
      exact ⟨x, t, 0, rfl, h1.1, ⟨h1.2, fun _ => ⟨he, h2⟩, by have := congrArg List.length h2; rw [List.length_append] at this; omega⟩⟩
  · rw [if_neg he]
    exact ⟨0, bs, e0, rfl, by omega, ⟨hB, fun h => (he h).elim, by rw [Wm.uform_length, ulen0]; omega⟩⟩

theorem fold_zero : (foldI 0).toNat = 0 := rfl
theorem stepInt (bs : List Int) (e0 : Int) (hB : BOk bs) : ∃ (n : Int) (left : List Int) (e : Int), rres (.int .i64 0) (gNum (fun x => .int .i64 (unfoldI x)) (unum 0 0 bs)) bs e0 = (.int .i64 n, left, e) ∧ (-9223372036854775808 ≤ n ∧ n ≤ 9223372036854775807) ∧ Step bs e0 (Wm.uform 9 (foldI n).toNat) left e := by
  unfold rres
  by_cases he : e0 = 0
  · rw [if_pos he]
    rcases hu : unum 0 0 bs with k | ⟨x, t⟩
    · exact ⟨0, bs, k, rfl, by omega, ⟨hB, fun h => (unum_err 0 0 bs k hu h).elim, by rw [fold_zero, Wm.uform_length, ulen0]; omega⟩⟩
    · have h1 := unum_lt 0 0 bs x t (by omega) (by simp) hB hu
      have h2 := unum_one bs x t hB hu
      refine ⟨unfoldI x, t, 0, rfl, unfold_bd x h1.1, ⟨h1.2, fun _ => ⟨he, ?_⟩, ?_⟩⟩
      · rw [fold_unfold, Int.toNat_natCast]; exact h2
      · rw [fold_unfold, Int.toNat_natCast]; have := congrArg List.length h2; rw [List.length_append] at this; omega
  · rw [if_neg he]
    exact ⟨0, bs, e0, rfl, by omega, ⟨hB, fun h => (he h).elim, by rw [fold_zero, Wm.uform_length, ulen0]; omega⟩⟩

end Go.Proofs.YtclcebdcdbcpjaaGreat
