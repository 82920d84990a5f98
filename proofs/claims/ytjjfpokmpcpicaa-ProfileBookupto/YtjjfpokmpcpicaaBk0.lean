/-
  The places of a book, in order.
-/
import Derived.Test.YtjjfpokmpcpicaaPB
namespace Go.Proofs.Ytjjfpokmpcpicaa
set_option linter.unusedVariables false
/-- The places of one function. -/
def plr (i n : Nat) : List (Int × Int) := (List.range n).map (fun j => ((i : Int), ((j : Nat) : Int)))
/-- The places of functions of so many instructions, from function i on. -/
def plc : List Nat → Nat → List (Int × Int)
  | [], _ => []
  | n :: r, i => plr i n ++ plc r (i + 1)
theorem mem_plr {i n : Nat} {x : Int × Int} : x ∈ plr i n ↔ ∃ j : Nat, j < n ∧ x = ((i : Int), (j : Int)) := by
  unfold plr
  rw [List.mem_map]
  constructor
  · rintro ⟨j, hj, rfl⟩; exact ⟨j, List.mem_range.1 hj, rfl⟩
  · rintro ⟨j, hj, rfl⟩; exact ⟨j, List.mem_range.2 hj, rfl⟩
theorem mem_plc : ∀ (sh : List Nat) (i : Nat) (x : Int × Int), x ∈ plc sh i ↔ ∃ (a n j : Nat), sh[a]? = some n ∧ j < n ∧ x = (((i + a : Nat) : Int), (j : Int))
  | [], i, x => by simp [plc]
  | m :: r, i, x => by
    rw [plc, List.mem_append, mem_plr, mem_plc r (i + 1) x]
    constructor
    · rintro (⟨j, hj, rfl⟩ | ⟨a, n, j, h1, h2, rfl⟩)
      · exact ⟨0, m, j, rfl, hj, rfl⟩
      · exact ⟨a + 1, n, j, by simpa using h1, h2, by simp; omega⟩
    · rintro ⟨a, n, j, h1, h2, rfl⟩
      cases a with
      | zero => simp at h1; subst h1; exact .inl ⟨j, h2, rfl⟩
      | succ a => exact .inr ⟨a, n, j, by simpa using h1, h2, by simp; omega⟩
/-- One place ahead of another. -/
def ltP (x y : Int × Int) : Prop := x.1 < y.1 ∨ (x.1 = y.1 ∧ x.2 < y.2)
theorem plr_sorted (i n : Nat) : (plr i n).Pairwise ltP := by
  unfold plr
  rw [List.pairwise_map]
  exact List.pairwise_lt_range.imp (fun {a b} h => .inr ⟨rfl, by simp; exact h⟩)
theorem plc_sorted : ∀ (sh : List Nat) (i : Nat), (plc sh i).Pairwise ltP
  | [], _ => List.Pairwise.nil
  | m :: r, i => by
    rw [plc, List.pairwise_append]
    refine ⟨plr_sorted i m, plc_sorted r (i + 1), fun x hx y hy => ?_⟩
    obtain ⟨j, _, rfl⟩ := mem_plr.1 hx
    obtain ⟨a, n, k, _, _, rfl⟩ := (mem_plc r (i + 1) y).1 hy
    exact .inl (by simp; omega)
theorem ltP_ne {x y : Int × Int} (h : ltP x y) : x ≠ y := by
  rintro rfl
  unfold ltP at h
  omega
theorem plc_nodup (sh : List Nat) (i : Nat) : (plc sh i).Nodup := (plc_sorted sh i).imp ltP_ne
theorem plc_len : ∀ (sh : List Nat) (i : Nat), (plc sh i).length = sh.sum
  | [], _ => rfl
  | m :: r, i => by rw [plc, List.length_append, plc_len r (i + 1), List.sum_cons]; simp [plr]
/-- What holds the places, each once, and is laid in order, is the list of places. -/
theorem plc_uniq {sh : List Nat} {l : List (Int × Int)} (hn : l.Nodup) (hm : ∀ x, x ∈ l ↔ x ∈ plc sh 0) (le : Int × Int → Int × Int → Bool) (hle : ∀ x y, le x y = true ↔ ¬ ltP y x) : l.mergeSort le = plc sh 0 := by
  have tr : ∀ a b c : Int × Int, le a b = true → le b c = true → le a c = true := fun a b c h1 h2 => by
    rw [hle] at *
    unfold ltP at *
    omega
  have to : ∀ a b : Int × Int, (le a b || le b a) = true := fun a b => by
    rw [Bool.or_eq_true, hle, hle]
    unfold ltP
    omega
  refine List.Perm.eq_of_pairwise (le := fun a b => le a b = true) (fun a b _ _ h1 h2 => ?_) (List.pairwise_mergeSort tr to l) ((plc_sorted sh 0).imp (fun {a b} h => ?_)) ((List.mergeSort_perm l le).trans ((List.perm_ext_iff_of_nodup hn (plc_nodup sh 0)).2 hm))
  · rw [hle] at h1 h2
    unfold ltP at h1 h2
    obtain ⟨a1, a2⟩ := a
    obtain ⟨b1, b2⟩ := b
    simp only at h1 h2
    have e1 : a1 = b1 := by omega
    have e2 : a2 = b2 := by omega
    rw [e1, e2]
  · rw [hle]
    unfold ltP at *
    omega
end Go.Proofs.Ytjjfpokmpcpicaa
