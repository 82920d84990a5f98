/-
  Whole numbers there and back.
-/
import Derived.Test.YtakjojgclohocaaDoorDInt
namespace Go.Proofs.YtakjojgclohocaaDoor
open Go.RowKit

/-- Without needless noughts ahead. -/
def nz : List UInt8 → List UInt8
  | [] => []
  | [a] => [a]
  | a :: b :: t => if a = 48 then nz (b :: t) else a :: b :: t

theorem nz_snoc (M : List UInt8) (b : UInt8) (h : M ≠ []) : nz (M ++ [b]) = if nz M = [48] then [b] else nz M ++ [b] := by
  induction M with
  | nil => exact absurd rfl h
  | cons a t ih =>
    cases t with
    | nil =>
      show (if a = 48 then nz [b] else [a, b]) = if [a] = [48] then [b] else [a] ++ [b]
      by_cases ha : a = 48
      · subst ha; rfl
      · rw [if_neg ha, if_neg (by simpa using ha)]; rfl
    | cons c t =>
      show (if a = 48 then nz ((c :: t) ++ [b]) else a :: c :: (t ++ [b])) = if (if a = 48 then nz (c :: t) else a :: c :: t) = [48] then [b] else (if a = 48 then nz (c :: t) else a :: c :: t) ++ [b]
      by_cases ha : a = 48
      · rw [if_pos ha, if_pos ha, ih (by simp)]
      · rw [if_neg ha, if_neg ha, if_neg (by simp)]; rfl

theorem allD_split {M : List UInt8} {b : UInt8} (h : allD (M ++ [b]) = true) : (M = [] ∨ allD M = true) ∧ 48 ≤ b.toNat ∧ b.toNat ≤ 57 := by
  unfold allD at h
  rw [Bool.and_eq_true, List.all_append, Bool.and_eq_true] at h
  obtain ⟨_, h1, h2⟩ := h
  refine ⟨?_, ?_⟩
  · cases M with
    | nil => exact .inl rfl
    | cons a t => right; unfold allD; rw [h1]; rfl
  · simp [dig] at h2
    exact h2

theorem dgt_of {b : UInt8} (h : 48 ≤ b.toNat ∧ b.toNat ≤ 57) : dgt (b.toNat - 48) = b := by
  unfold dgt
  rw [show 48 + (b.toNat - 48) = b.toNat by omega]
  exact UInt8.ofNat_toNat

theorem dec_zero_iff {v : Nat} : Lib.decDigits v = [48] ↔ v = 0 := by
  constructor
  · intro h
    by_cases h10 : v < 10
    · rw [Lib.decDigits_one h10] at h
      have h2 : UInt8.ofNat (48 + v) = 48 := by simpa using h
      have h3 := congrArg UInt8.toNat h2
      rw [UInt8.toNat_ofNat'] at h3
      have : (48 : UInt8).toNat = 48 := rfl
      omega
    · rw [← preD_dec] at h
      have hl := congrArg List.length h
      unfold preD at hl
      rw [if_neg h10, List.length_append, Lib.decDigits_length] at hl
      have := Lib.nDigits_pos (v / 10)
      simp at hl
      omega
  · rintro rfl
    exact Lib.decDigits_one (by omega)

theorem nz_dec_of (k : Nat) : ∀ (M : List UInt8), M.length = k → allD M = true → nz M = Lib.decDigits (val M) := by
  induction k with
  | zero =>
    intro M hl h
    rw [List.eq_nil_of_length_eq_zero hl, allD_nil] at h
    cases h
  | succ k ih0 =>
    intro M hl h
    obtain ⟨M, b, rfl⟩ : ∃ M' b, M = M' ++ [b] := ⟨M.dropLast, M.getLast (by intro e; rw [e] at hl; simp at hl), (List.dropLast_concat_getLast _).symm⟩
    have ih := fun h => ih0 M (by simpa using hl) h
    obtain ⟨h1, h2⟩ := allD_split h
    rw [val_snoc]
    rcases h1 with rfl | h1
    · show [b] = Lib.decDigits (10 * 0 + (b.toNat - 48))
      rw [Lib.decDigits_one (by omega), show 10 * 0 + (b.toNat - 48) = b.toNat - 48 by omega]
      rw [show UInt8.ofNat (48 + (b.toNat - 48)) = dgt (b.toNat - 48) from rfl, dgt_of h2]
    · have hM : M ≠ [] := by rintro rfl; rw [allD_nil] at h1; cases h1
      rw [nz_snoc M b hM, ih h1]
      by_cases hz : val M = 0
      · rw [if_pos (dec_zero_iff.2 hz), hz, Lib.decDigits_one (by omega), show 10 * 0 + (b.toNat - 48) = b.toNat - 48 by omega]
        rw [show UInt8.ofNat (48 + (b.toNat - 48)) = dgt (b.toNat - 48) from rfl, dgt_of h2]
      · rw [if_neg (fun e => hz (dec_zero_iff.1 e)), ← preD_dec (10 * val M + (b.toNat - 48))]
        unfold preD
        rw [if_neg (by omega), show (10 * val M + (b.toNat - 48)) / 10 = val M by omega, show (10 * val M + (b.toNat - 48)) % 10 = b.toNat - 48 by omega, dgt_of h2]

theorem nz_dec (M : List UInt8) (h : allD M = true) : nz M = Lib.decDigits (val M) := nz_dec_of M.length M rfl h
theorem pres_eq (L : List UInt8) : pres L = if allD (L.drop (sgn L)) = false then ((0 : Int), 6)
  else if ngt L then (if val (L.drop (sgn L)) ≤ 9223372036854775808 then (-(val (L.drop (sgn L)) : Int), 0) else (0, 5))
  else (if val (L.drop (sgn L)) < 9223372036854775808 then ((val (L.drop (sgn L)) : Int), 0) else (0, 5)) := rfl

theorem nz_step {M : List UInt8} {j : Nat} (h : j + 1 < M.length) (h48 : bt M j = 48) : nz (M.drop j) = nz (M.drop (j + 1)) := by
  have h1 : M.drop j = M.getD j 0 :: M.drop (j + 1) := by
    rw [List.drop_eq_getElem_cons (by omega), List.getD_eq_getElem?_getD, List.getElem?_eq_getElem (by omega)]
    rfl
  have h2 : M.drop (j + 1) = M.getD (j + 1) 0 :: M.drop (j + 2) := by
    rw [List.drop_eq_getElem_cons (by omega), List.getD_eq_getElem?_getD, List.getElem?_eq_getElem (by omega)]
    rfl
  have h3 : M.getD j 0 = 48 := by
    have : (M.getD j 0).toNat = (48 : UInt8).toNat := h48
    exact UInt8.toNat_inj.1 this
  rw [h1, h3, h2]
  show (if (48 : UInt8) = 48 then _ else _) = _
  rw [if_pos rfl]
theorem nz_stop {M : List UInt8} {j : Nat} (hj : j < M.length) (h : ¬ (j + 1 < M.length ∧ bt M j = 48)) : nz (M.drop j) = M.drop j := by
  have h1 : M.drop j = M.getD j 0 :: M.drop (j + 1) := by
    rw [List.drop_eq_getElem_cons (by omega), List.getD_eq_getElem?_getD, List.getElem?_eq_getElem (by omega)]
    rfl
  by_cases hl : j + 1 < M.length
  · have h2 : M.drop (j + 1) = M.getD (j + 1) 0 :: M.drop (j + 2) := by
      rw [List.drop_eq_getElem_cons (by omega), List.getD_eq_getElem?_getD, List.getElem?_eq_getElem (by omega)]
      rfl
    have h3 : M.getD j 0 ≠ 48 := by
      intro e
      exact h ⟨hl, by unfold bt; rw [e]; rfl⟩
    rw [h1, h2]
    show (if M.getD j 0 = 48 then _ else _) = _
    rw [if_neg h3]
  · have h2 : M.drop (j + 1) = [] := List.drop_eq_nil_of_le (by omega)
    rw [h1, h2]
    rfl

/-- A text without needless noughts and without a plus. -/
def nl (L : List UInt8) : List UInt8 := if ngt L = true ∧ nz (L.drop (sgn L)) ≠ [48] then 45 :: nz (L.drop (sgn L)) else nz (L.drop (sgn L))

theorem val_dec (u : Nat) : val (Lib.decDigits u) = u ∧ allD (Lib.decDigits u) = true := by
  induction u using Nat.strongRecOn with
  | _ u ih =>
    have hd : ∀ r, r < 10 → (dgt r).toNat = 48 + r := by
      intro r hr
      unfold dgt
      rw [UInt8.toNat_ofNat']
      omega
    by_cases h : u < 10
    · rw [Lib.decDigits_one h, show UInt8.ofNat (48 + u) = dgt u from rfl]
      constructor
      · show 10 * 0 + ((dgt u).toNat - 48) = u
        rw [hd u h]; omega
      · show (true && (dig (dgt u).toNat && true)) = true
        rw [hd u h]
        simp [dig]
        omega
    · have h1 := ih (u / 10) (by omega)
      rw [← preD_dec]
      unfold preD
      rw [if_neg h, val_snoc, h1.1, hd _ (by omega)]
      refine ⟨by omega, ?_⟩
      have h2 := h1.2
      unfold allD at h2 ⊢
      rw [Bool.and_eq_true] at h2
      rw [List.all_append, h2.2, Bool.and_eq_true]
      refine ⟨by cases Lib.decDigits (u / 10) <;> rfl, ?_⟩
      show (true && (dig (dgt (u % 10)).toNat && true)) = true
      rw [hd _ (by omega)]
      simp [dig]
      omega

theorem dec_head {u : Nat} : ngt (Lib.decDigits u) = false ∧ sgn (Lib.decDigits u) = 0 := by
  have h := (val_dec u).2
  have hl : 0 < (Lib.decDigits u).length := by rw [Lib.decDigits_length]; exact Lib.nDigits_pos u
  have h0 := allD_at h 0 hl
  rw [ngt_bt hl, sgn_bt hl]
  exact ⟨decide_eq_false (by omega), if_neg (by omega)⟩

theorem pres_itoa (n : Int) (h0 : -9223372036854775808 ≤ n) (h1 : n ≤ 9223372036854775807) : pres (Lib.itoa n) = (n, 0) := by
  unfold Lib.itoa
  by_cases hn : n < 0
  · rw [if_pos hn]
    unfold pres
    have hv := val_dec n.natAbs
    show (if allD (Lib.decDigits n.natAbs) = false then ((0 : Int), 6) else if true = true then (if val (Lib.decDigits n.natAbs) ≤ 9223372036854775808 then (-(val (Lib.decDigits n.natAbs) : Int), 0) else (0, 5)) else _) = _
    rw [hv.1, hv.2, if_neg (by simp), if_pos rfl, if_pos (by omega)]
    congr 1
    omega
  · rw [if_neg hn, pres_eq]
    have hv := val_dec n.toNat
    have hh := dec_head (u := n.toNat)
    rw [hh.1, hh.2, List.drop_zero, hv.1, hv.2, if_neg (by simp), if_neg (by simp), if_pos (by omega)]
    congr 1
    omega

theorem itoa_nl {L : List UInt8} (h : (pres L).2 = 0) : allD (L.drop (sgn L)) = true ∧ Lib.itoa (pres L).1 = nl L ∧ -9223372036854775808 ≤ (pres L).1 ∧ (pres L).1 ≤ 9223372036854775807 := by
  rw [pres_eq] at h ⊢
  unfold nl
  generalize L.drop (sgn L) = M at *
  cases hd : allD M with
  | false => rw [hd, if_pos rfl] at h; cases h
  | true =>
    simp only [hd, Bool.true_eq_false, if_false] at h ⊢
    rw [nz_dec M hd]
    cases hn : ngt L with
    | true =>
      simp only [hn, if_true] at h ⊢
      by_cases hv : val M ≤ 9223372036854775808
      · rw [if_pos hv]
        refine ⟨trivial, ?_, by show _ ≤ -(val M : Int); omega, by show -(val M : Int) ≤ _; omega⟩
        show Lib.itoa (-(val M : Int)) = _
        by_cases hz : val M = 0
        · rw [hz]
          have : Lib.decDigits 0 = [48] := dec_zero_iff.2 rfl
          rw [if_neg (by simp [this])]
          rfl
        · rw [if_pos ⟨trivial, fun e => hz (dec_zero_iff.1 e)⟩]
          unfold Lib.itoa
          rw [if_pos (by omega), show (-(val M : Int)).natAbs = val M by omega]
      · rw [if_neg hv] at h; cases h
    | false =>
      simp only [hn, Bool.false_eq_true, if_false, false_and] at h ⊢
      by_cases hv : val M < 9223372036854775808
      · rw [if_pos hv]
        refine ⟨trivial, ?_, by show _ ≤ (val M : Int); omega, by show (val M : Int) ≤ _; omega⟩
        show Lib.itoa (val M : Int) = _
        unfold Lib.itoa
        rw [if_neg (by omega)]
        rfl
      · rw [if_neg hv] at h; cases h
end Go.Proofs.YtakjojgclohocaaDoor
