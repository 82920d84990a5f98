/-
  Texts of digits, and the numbers that they write.
-/
import Derived.Test.YtakjojgclohocaaDoorRows
import Derived.WalkKit
import Derived.WalkSpells
import Derived.WalkLawsBesides
import Derived.Lib.Strings
import Derived.Lib.Slices
import Derived.Lib.Walk
import Derived.Lib.OthersKept
import Derived.Deep.LoopGhost
import Derived.Deep.Upon
import Derived.Deep.RegionLaw
namespace Go.Proofs.YtakjojgclohocaaDoor
open Go.RowKit

def Hid (p : Prop) : Prop := p
theorem hide {p : Prop} (h : p) : Hid p := h
theorem unhide {p : Prop} (h : Hid p) : p := h

/-- The byte at a place, as a number. -/
def bt (L : List UInt8) (i : Nat) : Nat := (L.getD i 0).toNat
def dig (n : Nat) : Bool := decide (48 ≤ n) && decide (n ≤ 57)
def allD (L : List UInt8) : Bool := !L.isEmpty && L.all fun b => dig b.toNat
/-- The number that digits write. -/
def val (L : List UInt8) : Nat := L.foldl (fun n b => 10 * n + (b.toNat - 48)) 0

theorem val_snoc (L : List UInt8) (b : UInt8) : val (L ++ [b]) = 10 * val L + (b.toNat - 48) := by simp [val]
theorem val_app (L M : List UInt8) : val L ≤ val (L ++ M) := by
  induction M generalizing L with
  | nil => simp
  | cons b t ih =>
    have h1 := ih (L ++ [b])
    rw [val_snoc] at h1
    rw [show L ++ b :: t = L ++ [b] ++ t by simp]
    omega

theorem take_snoc (L : List UInt8) (i : Nat) (h : i < L.length) : L.take (i + 1) = L.take i ++ [L.getD i 0] := by
  rw [List.take_add_one, List.getElem?_eq_getElem h]
  simp [List.getD_eq_getElem?_getD, List.getElem?_eq_getElem h]
theorem val_take (L : List UInt8) (i : Nat) (h : i < L.length) : val (L.take (i + 1)) = 10 * val (L.take i) + (bt L i - 48) := by
  rw [take_snoc L i h, val_snoc]; rfl
theorem val_take_le (L : List UInt8) (i : Nat) : val (L.take i) ≤ val L := by
  have := val_app (L.take i) (L.drop i)
  rwa [List.take_append_drop] at this

theorem allD_at {L : List UInt8} (h : allD L = true) (i : Nat) (hi : i < L.length) : 48 ≤ bt L i ∧ bt L i ≤ 57 := by
  unfold allD at h
  rw [Bool.and_eq_true] at h
  have := List.all_eq_true.1 h.2 (L.getD i 0) (by rw [List.getD_eq_getElem?_getD, List.getElem?_eq_getElem hi]; exact List.getElem_mem _)
  unfold dig at this
  rw [Bool.and_eq_true, decide_eq_true_eq, decide_eq_true_eq] at this
  exact this
theorem allD_not {L : List UInt8} (i : Nat) (hi : i < L.length) (h : dig (bt L i) = false) : allD L = false := by
  cases hd : allD L with
  | false => rfl
  | true =>
    have h1 := allD_at hd i hi
    unfold dig at h
    simp at h
    omega
theorem allD_of {L : List UInt8} (h0 : 0 < L.length) (h : ∀ i, i < L.length → dig (bt L i) = true) : allD L = true := by
  unfold allD
  rw [Bool.and_eq_true]
  constructor
  · cases L with
    | nil => simp at h0
    | cons a t => rfl
  · rw [List.all_eq_true]
    intro b hb
    obtain ⟨i, hi, rfl⟩ := List.getElem_of_mem hb
    have := h i hi
    unfold bt at this
    rwa [List.getD_eq_getElem?_getD, List.getElem?_eq_getElem hi] at this
theorem allD_nil : allD [] = false := rfl

/-- How many bytes of a sign there are, and whether it is a minus. -/
def sgn : List UInt8 → Nat
  | b :: _ => if b = 45 ∨ b = 43 then 1 else 0
  | [] => 0
def ngt : List UInt8 → Bool
  | b :: _ => b == 45
  | [] => false

theorem byte_at (s : ByteArray) (i : Nat) (h : i < s.size) : (s[i]'h).toNat = bt s.data.toList i := by
  unfold bt
  have h2 : i < s.data.toList.length := by rw [← Lib.size_eq]; exact h
  rw [List.getD_eq_getElem?_getD, List.getElem?_eq_getElem h2]
  rfl

/-- What a text is as a whole number: the number, and the error's number. -/
def pres (L : List UInt8) : Int × Nat :=
  let M := L.drop (sgn L)
  if allD M = false then (0, 6)
  else if ngt L then (if val M ≤ 9223372036854775808 then (-(val M : Int), 0) else (0, 5))
  else (if val M < 9223372036854775808 then ((val M : Int), 0) else (0, 5))

theorem sgn_le (L : List UInt8) : sgn L ≤ L.length := by
  cases L with
  | nil => simp [sgn]
  | cons a t =>
    show (if a = 45 ∨ a = 43 then 1 else 0) ≤ t.length + 1
    split <;> omega
theorem sgn_one (L : List UInt8) : sgn L ≤ 1 := by
  cases L with
  | nil => simp [sgn]
  | cons a t =>
    show (if a = 45 ∨ a = 43 then 1 else 0) ≤ 1
    split <;> omega
theorem ngt_bt {L : List UInt8} (h : 0 < L.length) : ngt L = decide (bt L 0 = 45) := by
  cases L with
  | nil => simp at h
  | cons a t =>
    show (a == 45) = decide (a.toNat = 45)
    rw [Bool.eq_iff_iff, beq_iff_eq, decide_eq_true_eq, ← UInt8.toNat_inj]
    exact Iff.rfl
theorem sgn_bt {L : List UInt8} (h : 0 < L.length) : sgn L = if bt L 0 = 45 ∨ bt L 0 = 43 then 1 else 0 := by
  cases L with
  | nil => simp at h
  | cons a t =>
    show (if a = 45 ∨ a = 43 then 1 else 0) = if a.toNat = 45 ∨ a.toNat = 43 then 1 else 0
    simp only [← UInt8.toNat_inj]
    rfl
end Go.Proofs.YtakjojgclohocaaDoor
