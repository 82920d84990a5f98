/-
  Forms read back. (No Go in sight.)
-/
import Derived.Test.YtaldacjeeccbhaaRaw
namespace Go.Proofs.Ytaldacjeeccbhaa
open Go.RowKit

theorem uform_zero (x : Nat) : Wm.uform 0 x = [(x : Int)] := rfl
theorem uform_lt (f x : Nat) (h : x < 128) : Wm.uform f x = [(x : Int)] := by
  cases f with
  | zero => rfl
  | succ f => rw [Wm.uform, if_pos h]
theorem uform_ge (f x : Nat) (h : ¬ x < 128) : Wm.uform (f + 1) x = ((x % 128 + 128 : Nat) : Int) :: Wm.uform f (x / 128) := by rw [Wm.uform, if_neg h]

/-- What holds of the number that is left at the i-th digit. -/
def Fits (i f x : Nat) : Prop := i + f = 9 ∧ x * 128 ^ i < 2 ^ 64 ∧ (0 < i → 0 < x)
theorem Fits.start (x : Nat) (h : x < 2 ^ 64) : Fits 0 9 x := ⟨rfl, by simpa using h, by omega⟩
theorem Fits.next {i f x : Nat} (h : Fits i (f + 1) x) (hx : ¬ x < 128) : Fits (i + 1) f (x / 128) := by
  obtain ⟨h1, h2, h3⟩ := h
  refine ⟨by omega, ?_, fun _ => by omega⟩
  have : x / 128 * 128 ^ (i + 1) ≤ x * 128 ^ i := by
    rw [Nat.pow_succ, Nat.mul_comm (128 ^ i), ← Nat.mul_assoc]
    exact Nat.mul_le_mul_right _ (Nat.div_mul_le_self x 128)
  omega
theorem Fits.last {i x : Nat} (h : Fits i 0 x) : x = 1 := by
  obtain ⟨h1, h2, h3⟩ := h
  obtain rfl : i = 9 := by omega
  have : (128 : Nat) ^ 9 = 2 ^ 63 := by decide
  rw [this] at h2
  omega

/-- A form is read back, and what lies behind it is left. -/
theorem unum_back : ∀ (f i acc x : Nat) (rest : List Int), Fits i f x → unum i acc (Wm.uform f x ++ rest) = .ok (acc + x * 128 ^ i, rest) := by
  intro f
  induction f with
  | zero =>
    intro i acc x rest h
    have hx := h.last
    subst hx
    rw [uform_zero, List.singleton_append, unum_cons, if_neg (by omega), if_pos (by omega)]
    simp
  | succ f ih =>
    intro i acc x rest h
    by_cases hl : x < 128
    · rw [uform_lt _ _ hl, List.singleton_append, unum_cons, if_neg ?_, if_pos (by omega)]
      · rw [Int.toNat_natCast, Nat.mod_eq_of_lt hl]
      · have := h.1
        have := h.2.2
        omega
    · rw [uform_ge _ _ hl, List.cons_append, unum_cons, if_neg ?_, if_neg (by omega), ih (i + 1) _ (x / 128) rest (h.next hl)]
      · rw [Int.toNat_natCast]
        have e : acc + (x % 128 + 128) % 128 * 128 ^ i + x / 128 * 128 ^ (i + 1) = acc + x * 128 ^ i := by
          rw [show (x % 128 + 128) % 128 = x % 128 from by omega, Nat.pow_succ, Nat.mul_comm (128 ^ i) 128, ← Nat.mul_assoc, Nat.add_assoc, ← Nat.add_mul]
          congr 2
          omega
        rw [e]
      · have := h.1
        omega

/-- A proper beginning of a form is none. -/
theorem unum_begin : ∀ (f i acc x c : Nat), Fits i f x → c < Wm.ulen f x → unum i acc ((Wm.uform f x).take c) = .error 2 := by
  intro f
  induction f with
  | zero =>
    intro i acc x c h hc
    simp only [Wm.ulen] at hc
    obtain rfl : c = 0 := by omega
    rfl
  | succ f ih =>
    intro i acc x c h hc
    by_cases hl : x < 128
    · rw [Wm.ulen, if_pos hl] at hc
      obtain rfl : c = 0 := by omega
      rfl
    · rw [Wm.ulen, if_neg hl] at hc
      cases c with
      | zero => rfl
      | succ c =>
        rw [uform_ge _ _ hl, List.take_succ_cons, unum_cons, if_neg ?_, if_neg (by omega), ih (i + 1) _ (x / 128) c (h.next hl) (by omega)]
        have := h.1
        omega

theorem unum_form (x : Nat) (rest : List Int) (h : x < 2 ^ 64) : unum 0 0 (Wm.uform 9 x ++ rest) = .ok (x, rest) := by
  rw [unum_back 9 0 0 x rest (Fits.start x h)]; simp

theorem uform_bok : ∀ f x, x < 128 * 128 ^ f → BOk (Wm.uform f x) := by
  intro f
  induction f with
  | zero => intro x hx b hb; simp [Wm.uform] at hb hx; omega
  | succ f ih =>
    intro x hx b hb
    by_cases hl : x < 128
    · rw [uform_lt _ _ hl] at hb; simp at hb; omega
    · rw [uform_ge _ _ hl] at hb
      rcases List.mem_cons.1 hb with rfl | hb
      · omega
      · exact ih (x / 128) (by rw [Nat.pow_succ] at hx; omega) b hb
theorem BOk.append {a b : List Int} (ha : BOk a) (hb : BOk b) : BOk (a ++ b) := fun x hx => by
  rcases List.mem_append.1 hx with h | h
  · exact ha x h
  · exact hb x h
theorem BOk.take {a : List Int} (ha : BOk a) (n : Nat) : BOk (a.take n) := fun x hx => ha x (List.mem_of_mem_take hx)
theorem BOk.drop {a : List Int} (ha : BOk a) (n : Nat) : BOk (a.drop n) := fun x hx => ha x (List.mem_of_mem_drop hx)
end Go.Proofs.Ytaldacjeeccbhaa
