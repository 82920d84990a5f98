/-
  New.
-/
import Derived.Test.YtjjfpokmpcpicaaBk4
namespace Go.Proofs.Ytjjfpokmpcpicaa
open Go.RowKit Go.Maps
set_option linter.unusedVariables false
set_option linter.unusedSimpArgs false
/-- A function's own cells. -/
structure Fv where
  name : ByteArray
  params : Int
  locals : Int
  cv : Value
  hv : Value
def enF (f : Fv) : List Value := [.string f.name, .int .i64 f.params, .int .i64 f.locals, f.cv, f.hv]
theorem zF : ∀ p, (enF p).length = 5 := fun _ => rfl
/-- A program of which it can be read how many instructions each function has. -/
def PgL (w : World) (v : Value) (sh : List Nat) : Prop :=
  ∃ (cv fa : Value) (xs : List Fv), v = .agg #[cv, fa] ∧ xs.length = sh.length ∧ Rx w 5 fa xs.length (flt enF xs) ∧ (∃ ca cn cc, cv = .slice ca cn cc) ∧ ∀ (i n : Nat) (x : Fv), sh[i]? = some n → xs[i]? = some x → ∃ a c ha hn hc, x.cv = .slice a n c ∧ x.hv = .slice ha hn hc
theorem PgL.below {w w' : World} {v : Value} {sh : List Nat} {B : Nat} (h : PgL w v sh) (k : Below B w w') (hB : w.heap.size ≤ B) : PgL w' v sh := by
  obtain ⟨cv, fa, xs, e, h1, h2, h3, h4⟩ := h
  exact ⟨cv, fa, xs, e, h1, h2.below k hB, h3, h4⟩
/-- What a new book holds. -/
def newP (sh : List Nat) (f : List (List Sp)) : List (List Sp) := (List.range sh.length).map (fun i => (List.range (sh.getD i 0)).map (fun j => atP f ((i : Nat) : Int) ((j : Nat) : Int)))
theorem newP_len (sh : List Nat) (f : List (List Sp)) : (newP sh f).length = sh.length := by simp [newP]
theorem newP_at {sh : List Nat} {f : List (List Sp)} {i n : Nat} (h : sh[i]? = some n) : (newP sh f)[i]? = some ((List.range n).map (fun j => atP f (i : Int) ((j : Nat) : Int))) := by
  unfold newP
  have hi := (List.getElem?_eq_some_iff.1 h).1
  rw [List.getElem?_map, List.getElem?_range hi]
  simp [h]
theorem newP_lens (sh : List Nat) (f : List (List Sp)) : (newP sh f).map List.length = sh := by
  refine List.ext_getElem? (fun i => ?_)
  rw [List.getElem?_map]
  cases h : sh[i]? with
  | some n => rw [newP_at h]; simp
  | none =>
    have : (newP sh f)[i]? = none := List.getElem?_eq_none (by rw [newP_len]; exact List.getElem?_eq_none_iff.1 h)
    rw [this]; rfl
/-- What is laid in ahead of place j of function i. -/
noncomputable def nwS (sh : List Nat) (f : List (List Sp)) (i j : Nat) (s : Int × Int) : Option Sp := open Classical in if ∃ a b n : Nat, s = ((a : Int), (b : Int)) ∧ sh[a]? = some n ∧ b < n ∧ (a < i ∨ (a = i ∧ b < j)) then some (atP f s.1 s.2) else none
theorem nwS_zero (sh : List Nat) (f : List (List Sp)) (s : Int × Int) : nwS sh f 0 0 s = none := by
  unfold nwS
  rw [if_neg]
  rintro ⟨a, b, n, _, _, _, h⟩
  omega
theorem nwS_at (sh : List Nat) (f : List (List Sp)) (i j : Nat) : nwS sh f i j ((i : Int), (j : Int)) = none := by
  unfold nwS
  rw [if_neg]
  rintro ⟨a, b, n, e, _, _, h⟩
  simp at e
  omega
theorem nwS_step {sh : List Nat} (f : List (List Sp)) {i n : Nat} (hn : sh[i]? = some n) {j : Nat} (hj : j < n) (s : Int × Int) : nwS sh f i (j + 1) s = open Classical in if s = ((i : Int), (j : Int)) then some (atP f (i : Int) (j : Int)) else nwS sh f i j s := by
  by_cases e : s = ((i : Int), (j : Int))
  · subst e
    rw [if_pos rfl]
    unfold nwS
    rw [if_pos ⟨i, j, n, rfl, hn, hj, .inr ⟨rfl, by omega⟩⟩]
  · rw [if_neg e]
    unfold nwS
    by_cases q : ∃ a b n : Nat, s = ((a : Int), (b : Int)) ∧ sh[a]? = some n ∧ b < n ∧ (a < i ∨ (a = i ∧ b < j))
    · rw [if_pos q, if_pos]
      obtain ⟨a, b, m, h1, h2, h3, h4⟩ := q
      exact ⟨a, b, m, h1, h2, h3, by omega⟩
    · rw [if_neg q, if_neg]
      rintro ⟨a, b, m, h1, h2, h3, h4⟩
      refine q ⟨a, b, m, h1, h2, h3, ?_⟩
      rcases h4 with h4 | ⟨h4, h5⟩
      · exact .inl h4
      · refine .inr ⟨h4, ?_⟩
        have : b ≠ j := fun q2 => e (by rw [h1, h4, q2])
        omega
theorem nwS_next {sh : List Nat} (f : List (List Sp)) {i n : Nat} (hn : sh[i]? = some n) (s : Int × Int) : nwS sh f (i + 1) 0 s = nwS sh f i n s := by
  unfold nwS
  congr 1
  refine propext ⟨?_, ?_⟩
  · rintro ⟨a, b, m, h1, h2, h3, h4⟩
    refine ⟨a, b, m, h1, h2, h3, ?_⟩
    by_cases e : a = i
    · subst e; rw [hn] at h2; cases h2; exact .inr ⟨rfl, h3⟩
    · omega
  · rintro ⟨a, b, m, h1, h2, h3, h4⟩
    exact ⟨a, b, m, h1, h2, h3, by omega⟩
theorem nwS_end (sh : List Nat) (f : List (List Sp)) (s : Int × Int) : nwS sh f sh.length 0 s = spAt (newP sh f) s := by
  unfold nwS
  split
  · rename_i q
    obtain ⟨a, b, n, rfl, h2, h3, h4⟩ := q
    rw [spAt_of (newP_at h2) (j := b) (x := atP f (a : Int) (b : Int)) (by rw [List.getElem?_map, List.getElem?_range h3]; rfl)]
  · rename_i q
    cases h : spAt (newP sh f) s with
    | none => rfl
    | some x =>
      obtain ⟨i, j, l, rfl, h1, h2⟩ := spAt_some h
      have hi : i < sh.length := by rw [← newP_len sh f]; exact (List.getElem?_eq_some_iff.1 h1).1
      have hs : sh[i]? = some sh[i] := List.getElem?_eq_getElem hi
      rw [newP_at hs] at h1
      cases h1
      exact absurd ⟨i, j, sh[i], rfl, hs, by have := (List.getElem?_eq_some_iff.1 h2).1; simpa using this, .inl hi⟩ q
theorem tog_zero {x : Sp} (h : okS x) : tog spZ x = x := by
  obtain ⟨x0, x1, x2, x3⟩ := x
  obtain ⟨⟨p1, p2⟩, p3, p4, p5, p6⟩ := h
  simp only at p1 p2 p3 p4 p5 p6
  unfold tog spZ
  have e0 : cnt 0 x0 = x0 := by unfold cnt; rw [if_neg (by omega), if_neg (by omega)]; omega
  have e3 : cal 0 x3 = x3 := by unfold cal; rw [if_pos (.inl rfl)]
  have e1 : ∀ y : Int, 0 ≤ y ∧ y < 65536 → orU 0 y = y := fun y hy => by
    unfold orU
    rw [u16_or _ _ (by omega) (by omega) hy.1 hy.2]
    simp [Int.toNat_of_nonneg hy.1]
  simp only [e0, e3, e1 _ p3, e1 _ p4]
theorem OkF.atP' {f : List (List Sp)} (h : OkF f) (n k : Int) : okS (atP f n k) := by
  unfold atP
  split
  · unfold okS spZ; simp
  · cases e : f[n.toNat]? with
    | none => simp; unfold okS spZ; simp
    | some l =>
      simp
      cases e2 : l[k.toNat]? with
      | none => simp; unfold okS spZ; simp
      | some x => exact h l (List.mem_of_getElem? e) x (List.mem_of_getElem? e2)
theorem newP_ok {sh : List Nat} {f : List (List Sp)} (h : OkF f) : OkF (newP sh f) := fun l hl s hs => by
  unfold newP at hl
  rw [List.mem_map] at hl
  obtain ⟨i, _, rfl⟩ := hl
  rw [List.mem_map] at hs
  obtain ⟨j, _, rfl⟩ := hs
  exact h.atP' _ _
end Go.Proofs.Ytjjfpokmpcpicaa
