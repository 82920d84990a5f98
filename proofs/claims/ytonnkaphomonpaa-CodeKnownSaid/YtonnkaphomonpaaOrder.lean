/-
  P1.11: words stand in the order of their numbers.
-/
import Derived.Test.YtonnkaphomonpaaWritten
import Derived.Deep.QuietTactic
import Derived.BigQuiet
namespace Go.Proofs.Ytonnkaphomonpaa
open Go.RowKit

/-- The k-th byte of a word. -/
def wby (x k : Nat) : Nat := x / 2 ^ (56 - 8 * k) % 256
/-- Above the k-th byte x and y are one. -/
def PEq (x y k : Nat) : Prop := x / 2 ^ (64 - 8 * k) = y / 2 ^ (64 - 8 * k)

theorem pow_split (k : Nat) (hk : k < 8) : (2 : Nat) ^ (64 - 8 * k) = 2 ^ (56 - 8 * k) * 256 := by
  rw [show 64 - 8 * k = (56 - 8 * k) + 8 from by omega, Nat.pow_add]
theorem PEq.start (x y : Nat) (hx : x < 2 ^ 64) (hy : y < 2 ^ 64) : PEq x y 0 := by
  unfold PEq; rw [Nat.div_eq_of_lt (by simpa using hx), Nat.div_eq_of_lt (by simpa using hy)]
theorem PEq.next {x y k : Nat} (h : PEq x y k) (hk : k < 8) (e : wby x k = wby y k) : PEq x y (k + 1) := by
  unfold PEq wby at *
  rw [pow_split k hk, ← Nat.div_div_eq_div_mul, ← Nat.div_div_eq_div_mul] at h
  rw [show 64 - 8 * (k + 1) = 56 - 8 * k from by omega]
  omega
theorem PEq.done {x y : Nat} (h : PEq x y 8) : x = y := by simpa [PEq] using h
theorem lt_of_div_lt {x y n : Nat} (h : x / n < y / n) : x < y := by
  rcases Nat.lt_or_ge x y with h' | h'
  · exact h'
  · have := Nat.div_le_div_right (c := n) h'; omega
theorem PEq.ne {x y k : Nat} (h : PEq x y k) (hk : k < 8) (e : wby x k ≠ wby y k) : (wby x k < wby y k ↔ x < y) ∧ x ≠ y := by
  unfold PEq wby at *
  rw [pow_split k hk, ← Nat.div_div_eq_div_mul, ← Nat.div_div_eq_div_mul] at h
  generalize hX : x / 2 ^ (56 - 8 * k) = X at *
  generalize hY : y / 2 ^ (56 - 8 * k) = Y at *
  rcases Nat.lt_or_ge X Y with h' | h'
  · have := lt_of_div_lt (x := x) (y := y) (n := 2 ^ (56 - 8 * k)) (by omega)
    omega
  · have := lt_of_div_lt (x := y) (y := x) (n := 2 ^ (56 - 8 * k)) (by omega)
    omega

/-- The bytes of a row that is owned, cell by cell. -/
theorem own_cells {w : World} {base : Nat} {v : Value} {bs : List Int} (h : w.ownsRow base 5 1 v bs.length (bs.map By)) (hn : 0 < bs.length) :
    ∃ g cap, v = .slice (some ⟨g, 0, none⟩) bs.length cap ∧ base ≤ g ∧ g < w.heap.size ∧ ∀ i, i < bs.length → w.cell? ⟨g, i, none⟩ = some (.int .u8 (bs.getD i 0)) := by
  obtain ⟨g, cap, rfl, h1, h2⟩ := h.form hn
  refine ⟨g, cap, rfl, h1, h2, fun i hi => ?_⟩
  have := @World.ownsRow.cells w base 5 1 _ bs.length (bs.map By) h g rfl i (By (bs.getD i 0)) (by simp [List.getD, hi])
  rw [addr_add0] at this
  simpa [By] using this

theorem pform3 (x : Nat) (s : ByteArray) : pform 3 x s = wpre x 8 := rfl
theorem wpre_get (x i : Nat) (hi : i < 8) : (wpre x 8).getD i 0 = ((wby x i : Nat) : Int) := by
  simp [wpre, wby, List.getD, hi]

theorem drewN_drewN (w : World) (a b : Nat) : (w.drewN a).drewN b = w.drewN (a + b) := by
  simp [World.drewN, Nat.add_assoc]

end Go.Proofs.Ytonnkaphomonpaa
