/-
  What is written is read back. (No Go in sight.)
-/
import Derived.Test.YtaldacjeeccbhaaOneMath
namespace Go.Proofs.Ytaldacjeeccbhaa
open Go.RowKit

theorem unfold_fold (n : Int) : unfoldI (foldI n).toNat = n := by
  unfold foldI unfoldI
  split <;> split <;> omega

theorem take_app (a b : List Int) (n : Nat) (h : a.length = n) : (a ++ b).take n = a := by subst h; simp
theorem drop_app (a b : List Int) (n : Nat) (h : a.length = n) : (a ++ b).drop n = b := by subst h; simp

theorem unumMost_back (most : Int) (x : Nat) (rest : List Int) (hx : x < 2 ^ 64) (hm : (x : Int) ≤ most) : unumMost most (Wm.uform 9 x ++ rest) = .ok (x, rest) := by
  unfold unumMost
  rw [unum_form x rest hx]
  dsimp only
  rw [if_neg (by omega)]

theorem rres_ok (zero u : Value) (bs t : List Int) : rres zero (.ok (u, t)) bs 0 = (u, t, 0) := rfl
end Go.Proofs.Ytaldacjeeccbhaa
