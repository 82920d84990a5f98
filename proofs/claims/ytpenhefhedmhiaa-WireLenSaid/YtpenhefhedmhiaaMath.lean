import Derived.Lib.BitFns
namespace Go.Proofs.Ytpenhefhedmhiaa.Wm
open Go

/-- How many digits to the base 128 (fuel: f). -/
def ulen : Nat → Nat → Nat
  | 0, _ => 1
  | f + 1, x => if x < 128 then 1 else 1 + ulen f (x / 128)

theorem or1_half (x : Nat) : (x ||| 1) / 2 = x / 2 := by
  rw [Nat.or_div_two]; simp

theorem or1_ne (x : Nat) : x ||| 1 ≠ 0 := by
  intro h
  have := congrArg (fun n => n.testBit 0) h
  simp at this

theorem or1_lt (x : Nat) (h : x < 2 ^ 64) : x ||| 1 < 2 ^ 64 := Nat.or_lt_two_pow h (by omega)

theorem bitLen_or1 (x : Nat) (h0 : x ≠ 0) (h : x < 2 ^ 64) : Lib.bitLen (x ||| 1) = Lib.bitLen x := by
  rw [Lib.bitLen_half (x ||| 1) (or1_ne x) (or1_lt x h), or1_half, ← Lib.bitLen_half x h0 h]

theorem small : ∀ n : Fin 128, (Lib.bitLen (n.val ||| 1) + 6) / 7 = 1 := by decide +kernel

theorem ulen_eq : ∀ (f x : Nat), x < 128 * 128 ^ f → x < 2 ^ 64 → (Lib.bitLen (x ||| 1) + 6) / 7 = ulen f x := by
  intro f
  induction f with
  | zero =>
    intro x hx _
    exact small ⟨x, by simpa using hx⟩
  | succ f ih =>
    intro x hx h
    unfold ulen
    by_cases hl : x < 128
    · rw [if_pos hl]; exact small ⟨x, hl⟩
    · rw [if_neg hl, ← ih (x / 128) (by rw [Nat.pow_succ] at hx; omega) (by omega),
        bitLen_or1 x (by omega) h, bitLen_or1 (x / 128) (by omega) (by omega), Lib.bitLen_shift 7 x (by omega) h]
      simp only [Nat.reducePow]
      omega

theorem ulen_main (x : Nat) (h : x < 18446744073709551616) : (Lib.bitLen (x ||| 1) + 6) / 7 = ulen 9 x :=
  ulen_eq 9 x (by simp only [Nat.reducePow, Nat.reduceMul]; omega) (by simpa using h)
theorem ulen_bd : ∀ (f x : Nat), 1 ≤ ulen f x ∧ ulen f x ≤ f + 1 := by
  intro f
  induction f with
  | zero => intro x; simp [ulen]
  | succ f ih => intro x; unfold ulen; have := ih (x / 128); split <;> omega
end Go.Proofs.Ytpenhefhedmhiaa.Wm
