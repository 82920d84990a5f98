import Derived.Lib.BitFns
import Derived.Laws.BitsAllLaws
namespace Go.Proofs.YtclcebdcdbcpjaaGreat.Wm
open Go

/-- How many digits to the base 128 (fuel: f). -/
def ulen : Nat → Nat → Nat
  | 0, _ => 1
  | f + 1, x => if x < 128 then 1 else 1 + ulen f (x / 128)

theorem or1_half (x : Nat) : (x ||| 1) / 2 = x / 2 := by
  rw [Nat.or_div_two]; simp

theorem or1_ne (x : Nat) : x ||| 1 ≠ 0 := by
  intro h
  have := congrArg (fun n => n.testBit 0) h
  simp at this

theorem or1_lt (x : Nat) (h : x < 2 ^ 64) : x ||| 1 < 2 ^ 64 := Nat.or_lt_two_pow h (by omega)

theorem bitLen_or1 (x : Nat) (h0 : x ≠ 0) (h : x < 2 ^ 64) : Lib.bitLen (x ||| 1) = Lib.bitLen x := by
  rw [Lib.bitLen_half (x ||| 1) (or1_ne x) (or1_lt x h), or1_half, ← Lib.bitLen_half x h0 h]

theorem small : ∀ n : Fin 128, (Lib.bitLen (n.val ||| 1) + 6) / 7 = 1 := by decide +kernel

theorem ulen_eq : ∀ (f x : Nat), x < 128 * 128 ^ f → x < 2 ^ 64 → (Lib.bitLen (x ||| 1) + 6) / 7 = ulen f x := by
  intro f
  induction f with
  | zero =>
    intro x hx _
    exact small ⟨x, by simpa using hx⟩
  | succ f ih =>
    intro x hx h
    unfold ulen
    by_cases hl : x < 128
    · rw [if_pos hl]; exact small ⟨x, hl⟩
    · rw [if_neg hl, ← ih (x / 128) (by rw [Nat.pow_succ] at hx; omega) (by omega),
        bitLen_or1 x (by omega) h, bitLen_or1 (x / 128) (by omega) (by omega), Lib.bitLen_shift 7 x (by omega) h]
      simp only [Nat.reducePow]
      omega

theorem ulen_main (x : Nat) (h : x < 18446744073709551616) : (Lib.bitLen (x ||| 1) + 6) / 7 = ulen 9 x :=
  ulen_eq 9 x (by simp only [Nat.reducePow, Nat.reduceMul]; omega) (by simpa using h)
theorem ulen_bd : ∀ (f x : Nat), 1 ≤ ulen f x ∧ ulen f x ≤ f + 1 := by
  intro f
  induction f with
  | zero => intro x; simp [ulen]
  | succ f ih => intro x; unfold ulen; have := ih (x / 128); split <;> omega

/-- The form of a number: its digits to the base 128, the lowest first (fuel: f). -/
def uform : Nat → Nat → List Int
  | 0, x => [(x : Int)]
  | f + 1, x => if x < 128 then [(x : Int)] else ((x % 128 + 128 : Nat) : Int) :: uform f (x / 128)

theorem uform_length : ∀ f x, (uform f x).length = ulen f x := by
  intro f
  induction f with
  | zero => intro x; rfl
  | succ f ih => intro x; unfold uform ulen; split <;> simp [ih]; omega

/-- Ahead of a round: z is left, at most k digits but the last are to come, done are written. -/
def UAt (x z k : Nat) (done : List Int) : Prop := k + done.length = 9 ∧ z < 128 * 128 ^ k ∧ done ++ uform k z = uform 9 x
theorem UAt.start (x : Nat) (h : x < 2 ^ 64) : UAt x x 9 [] := ⟨rfl, by simp only [Nat.reducePow, Nat.reduceMul] at h ⊢; omega, rfl⟩
theorem UAt.len {x z k : Nat} {done : List Int} (h : UAt x z k done) : done.length ≤ 9 := by have := h.1; omega
theorem UAt.next {x z k : Nat} {done : List Int} (h : UAt x z k done) (hz : 128 ≤ z) : ∃ m, k = m + 1 ∧ UAt x (z / 128) m (done ++ [((z % 128 + 128 : Nat) : Int)]) := by
  obtain ⟨h1, h2, h3⟩ := h
  cases k with
  | zero => omega
  | succ m =>
    refine ⟨m, rfl, by simp; omega, by rw [Nat.pow_succ] at h2; omega, ?_⟩
    rw [← h3, uform, if_neg (by omega)]; simp
theorem UAt.done {x z k : Nat} {done : List Int} (h : UAt x z k done) (hz : z < 128) : done ++ [(z : Int)] = uform 9 x := by
  rw [← h.2.2]
  cases k with
  | zero => rfl
  | succ m => rw [uform, if_pos hz]
theorem or128 : ∀ n : Fin 256, n.val ||| 128 = n.val % 128 + 128 := by decide +kernel
theorem or128i (z : Nat) : bits BinOp.or IntKind.u8 ((z : Int) % 256) 128 = ((z % 128 + 128 : Nat) : Int) := by
  have h := u8_or_nat (z % 256) 128 (by omega) (by omega)
  rw [show ((z : Int) % 256) = ((z % 256 : Nat) : Int) from by omega, show (128 : Int) = ((128 : Nat) : Int) from rfl, h, or128 ⟨z % 256, by omega⟩]
  simp only []
  omega
end Go.Proofs.YtclcebdcdbcpjaaGreat.Wm
