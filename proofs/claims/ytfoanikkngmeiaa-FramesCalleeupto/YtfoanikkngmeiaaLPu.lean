/-
  Which objects make a heap: in plain words.
-/
import Derived.Test.YtfoanikkngmeiaaKpt
import Derived.Test.YtfoanikkngmeiaaPcl
namespace Go.Proofs.Ytfoanikkngmeiaa
open Go.RowKit
set_option linter.unusedVariables false
set_option linter.unusedSimpArgs false
/-- The bits of a real that is right. -/
def rlU (n : Int) : Bool := decide (bits .and .u64 n 9223372036854775807 ≤ 9218868437227405312) || (n == 9221120237041090560)
theorem andNot_sign (n : Int) : bits .andNot .u64 n 9223372036854775808 = bits .and .u64 n 9223372036854775807 := by
  unfold bits
  have h : ~~~(BitVec.ofInt 64 9223372036854775808) = BitVec.ofInt 64 9223372036854775807 := by decide
  show IntKind.wrap .u64 ((BitVec.ofInt 64 n &&& ~~~(BitVec.ofInt 64 9223372036854775808)).toNat : Int) = IntKind.wrap .u64 ((BitVec.ofInt 64 n &&& BitVec.ofInt 64 9223372036854775807).toNat : Int)
  rw [h]
/-- Is a value right, among objects of these kinds? -/
def vRb (ks : List Int) (p : Int × Int) : Bool :=
  if p.1 = 0 then p.2 == 0
  else if p.1 = 1 then (p.2 == 0 || p.2 == 1)
  else if p.1 = 2 then true
  else if p.1 = 3 then rlU (IntKind.u64.wrap p.2)
  else if p.1 = 4 ∨ p.1 = 5 then decide (0 ≤ p.2)
  else if 6 ≤ p.1 ∧ p.1 ≤ 9 then decide (0 ≤ p.2) && decide (ks[p.2.toNat]? = some p.1)
  else false
/-- Keys that a record may have. -/
noncomputable def kRb (l : List Int) : Bool := Dc ((∀ k ∈ l, 0 ≤ k) ∧ l.Nodup)
/-- Has an object what its kind has, and nothing else? -/
noncomputable def fRb (o : Ob) : Bool :=
  if o.kind = 6 then decide (o.its.length ≤ 4096) && decide (o.keys.length = 0) && (o.fn == 0) && ((o.cap == 0) && !o.shut)
  else if o.kind = 7 then decide (o.its.length ≤ 256) && decide (o.its.length = o.keys.length) && kRb o.keys && (o.fn == 0) && ((o.cap == 0) && !o.shut)
  else if o.kind = 8 then decide (o.its.length ≤ 4096) && decide (o.keys.length = 0) && decide (0 ≤ o.fn) && ((o.cap == 0) && !o.shut)
  else if o.kind = 9 then decide (1 ≤ o.cap) && decide (o.cap ≤ 64) && decide ((o.its.length : Int) ≤ o.cap) && decide (o.keys.length = 0) && (o.fn == 0)
  else false
noncomputable def oRb (ks : List Int) (o : Ob) : Bool := fRb o && o.its.all (vRb ks)
def kinds (os : List Ob) : List Int := os.map (·.kind)
noncomputable def lRb (os : List Ob) : Bool := os.all (oRb (kinds os))
theorem srt_iff (l : List Int) : (∀ (i : Nat) (k : Int), (l.mergeSort (fun x y => decide (x ≤ y)))[i]? = some k → 0 ≤ k ∧ (0 < i → (l.mergeSort (fun x y => decide (x ≤ y)))[i - 1]? ≠ some k)) ↔ (∀ k ∈ l, 0 ≤ k) ∧ l.Nodup := by
  have hp : (l.mergeSort (fun x y => decide (x ≤ y))).Perm l := List.mergeSort_perm _ _
  have hs : (l.mergeSort (fun x y => decide (x ≤ y))).Pairwise (fun x y => decide (x ≤ y) = true) := List.pairwise_mergeSort (fun a b c h1 h2 => by simp only [decide_eq_true_eq] at *; omega) (fun a b => by simp only [Bool.or_eq_true, decide_eq_true_eq]; omega) l
  generalize l.mergeSort (fun x y => decide (x ≤ y)) = s at *
  rw [List.pairwise_iff_getElem] at hs
  constructor
  · intro h
    have h1 : ∀ k ∈ s, 0 ≤ k := fun k hk => by
      obtain ⟨i, hi, rfl⟩ := List.getElem_of_mem hk
      exact (h i _ (List.getElem?_eq_getElem hi)).1
    refine ⟨fun k hk => h1 k (hp.mem_iff.2 hk), hp.nodup_iff.1 ?_⟩
    unfold List.Nodup
    rw [List.pairwise_iff_getElem]
    intro i j hi hj hij e
    have a1 := h j _ (List.getElem?_eq_getElem hj)
    have a2 := a1.2 (by omega)
    rw [List.getElem?_eq_getElem (by omega)] at a2
    have b1 := hs (j - 1) j (by omega) hj (by omega)
    simp only [decide_eq_true_eq] at b1
    have b2 : s[i] ≤ s[j - 1] := by
      rcases Nat.lt_or_ge i (j - 1) with q | q
      · have := hs i (j - 1) hi (by omega) q; simpa using this
      · have : i = j - 1 := by omega
        subst this; exact Int.le_refl _
    have : s[j - 1] = s[j] := by omega
    exact a2 (by rw [this])
  · rintro ⟨h1, h2⟩ i k hk
    obtain ⟨hi, rfl⟩ := List.getElem?_eq_some_iff.1 hk
    refine ⟨h1 _ (hp.mem_iff.1 (List.getElem_mem hi)), fun h0 e => ?_⟩
    obtain ⟨hj, e⟩ := List.getElem?_eq_some_iff.1 e
    have hn := hp.nodup_iff.2 h2
    unfold List.Nodup at hn
    rw [List.pairwise_iff_getElem] at hn
    exact hn (i - 1) i hj hi (by omega) e
end Go.Proofs.Ytfoanikkngmeiaa
