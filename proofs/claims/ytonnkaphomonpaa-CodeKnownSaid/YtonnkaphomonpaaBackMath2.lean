/-
  What is written is read back. (No Go in sight.)
-/
import Derived.Test.YtonnkaphomonpaaOneMath
namespace Go.Proofs.Ytonnkaphomonpaa
open Go.RowKit

theorem unfold_fold (n : Int) : unfoldI (foldI n).toNat = n := by
  unfold foldI unfoldI
  split <;> split <;> omega

theorem toStr_strI (s : ByteArray) : toStr (strI s) = s := by
  unfold toStr strI
  rw [List.map_map]
  have e : ((fun b : Int => UInt8.ofNat b.toNat) ∘ fun b : UInt8 => (b.toNat : Int)) = id := by
    funext b
    simp
  rw [e, List.map_id]

theorem wnum_append (a b : List Int) (acc : Nat) : wnum acc (a ++ b) = wnum (wnum acc a) b := by
  induction a generalizing acc with
  | nil => rfl
  | cons z r ih => rw [List.cons_append, wnum, wnum, ih]

theorem wnum_wpre_at (x : Nat) (hx : x < 2 ^ 64) : ∀ j, j ≤ 8 → wnum 0 (wpre x j) = x / 2 ^ (64 - 8 * j) := by
  intro j
  induction j with
  | zero =>
    intro _
    rw [show wpre x 0 = [] from rfl, wnum]
    exact (Nat.div_eq_of_lt (by simpa using hx)).symm
  | succ j ih =>
    intro hj
    rw [wpre_succ, wnum_append, ih (by omega), wnum, wnum]
    rw [show 64 - 8 * j = (56 - 8 * j) + 8 from by omega, show 64 - 8 * (j + 1) = 56 - 8 * j from by omega, Nat.pow_add, ← Nat.div_div_eq_div_mul]
    rw [Int.toNat_natCast]
    omega

theorem wnum_wpre (x : Nat) (hx : x < 2 ^ 64) : wnum 0 (wpre x 8) = x := by
  rw [wnum_wpre_at x hx 8 (Nat.le_refl _)]
  simp

theorem take_app (a b : List Int) (n : Nat) (h : a.length = n) : (a ++ b).take n = a := by subst h; simp
theorem drop_app (a b : List Int) (n : Nat) (h : a.length = n) : (a ++ b).drop n = b := by subst h; simp

theorem gWord_back (x : Nat) (rest : List Int) (hx : x < 2 ^ 64) : gWord (wpre x 8 ++ rest) = .ok (.int .u64 (x : Int), rest) := by
  unfold gWord
  rw [if_neg (by rw [List.length_append, wpre_length]; omega), take_app _ _ _ (wpre_length x 8), drop_app _ _ _ (wpre_length x 8), wnum_wpre x hx]

theorem unumMost_back (most : Int) (x : Nat) (rest : List Int) (hx : x < 2 ^ 64) (hm : (x : Int) ≤ most) : unumMost most (Wm.uform 9 x ++ rest) = .ok (x, rest) := by
  unfold unumMost
  rw [unum_form x rest hx]
  dsimp only
  rw [if_neg (by omega)]

theorem gText_back (s : ByteArray) (rest : List Int) (hs : s.size < 2 ^ 63) : gText (s.size : Int) (Wm.uform 9 s.size ++ strI s ++ rest) = .ok (.string s, rest) := by
  unfold gText
  rw [List.append_assoc, unumMost_back _ _ _ (by omega) (Int.le_refl _)]
  dsimp only
  rw [if_neg (by rw [List.length_append, strI_length]; omega), take_app _ _ _ (strI_length s), drop_app _ _ _ (strI_length s), toStr_strI]

/-- What WireBack's first row writes of one call. -/
def bform (kind : Int) (x : Nat) (s : ByteArray) : List Int := if kind < 0 ∨ 4 < kind then strI s else pform kind x s
theorem bform_bok (kind : Int) (x : Nat) (s : ByteArray) (hx : x < 2 ^ 64) (hs : s.size < 2 ^ 63) : BOk (bform kind x s) := by
  unfold bform
  split
  · exact strI_bok s
  · exact pform_bok kind x s hx hs
theorem bform_le (kind : Int) (x : Nat) (s : ByteArray) : (bform kind x s).length ≤ 10 + s.size := by
  unfold bform
  split
  · rw [strI_length]; omega
  · exact pform_le kind x s
theorem rres_ok (zero u : Value) (bs t : List Int) : rres zero (.ok (u, t)) bs 0 = (u, t, 0) := rfl
end Go.Proofs.Ytonnkaphomonpaa
