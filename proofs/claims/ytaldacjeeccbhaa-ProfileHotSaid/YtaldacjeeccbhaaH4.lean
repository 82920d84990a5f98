/-
  Hot by choosing, and Hot by sorting.
-/
import Derived.Test.YtaldacjeeccbhaaH3
namespace Go.Proofs.Ytaldacjeeccbhaa
open Go.RowKit
set_option linter.unusedVariables false
set_option linter.unusedSimpArgs false
/-- One comes ahead of the other. -/
def ltI (f : List (List Sp)) (x y : Int) : Prop := cn0 f y < cn0 f x ∨ (cn0 f y = cn0 f x ∧ x < y)
theorem uniqH (f : List (List Sp)) : ∀ l m : List Int, l.Pairwise (ltI f) → m.Pairwise (ltI f) → (∀ x, x ∈ l ↔ x ∈ m) → l = m := by
  intro l
  induction l with
  | nil =>
    intro m _ _ h
    cases m with
    | nil => rfl
    | cons b m => have := (h b).2 (by simp); simp at this
  | cons a l ih =>
    intro m hl hm h
    cases m with
    | nil => have := (h a).1 (by simp); simp at this
    | cons b m =>
      rw [List.pairwise_cons] at hl hm
      have e : a = b := by
        rcases List.mem_cons.1 ((h a).1 (by simp)) with q | q
        · exact q
        · rcases List.mem_cons.1 ((h b).2 (by simp)) with r | r
          · exact r.symm
          · have h1 := hm.1 a q
            have h2 := hl.1 b r
            unfold ltI at h1 h2
            omega
      subst e
      rw [ih m hl.2 hm.2 (fun x => ⟨fun q => ?_, fun q => ?_⟩)]
      · rcases List.mem_cons.1 ((h x).1 (by simp [q])) with r | r
        · subst r; have := hl.1 x q; unfold ltI at this; omega
        · exact r
      · rcases List.mem_cons.1 ((h x).2 (by simp [q])) with r | r
        · subst r; have := hm.1 x q; unfold ltI at this; omega
        · exact r
theorem hotP_mem (f : List (List Sp)) (least : Int) (n : Nat) (x : Int) : x ∈ hotP f least n ↔ ∃ j : Nat, j < n ∧ x = (j : Int) ∧ least ≤ cn0 f (j : Int) := by
  unfold hotP
  simp only [List.mem_map, List.mem_filter, List.mem_range, decide_eq_true_eq]
  constructor
  · rintro ⟨j, ⟨h1, h2⟩, h3⟩; exact ⟨j, h1, h3.symm, h2⟩
  · rintro ⟨j, h1, h2, h3⟩; exact ⟨j, ⟨h1, h3⟩, h2.symm⟩
theorem hotP_nd (f : List (List Sp)) (least : Int) (n : Nat) : (hotP f least n).Nodup := by
  unfold hotP
  refine List.Pairwise.map _ (fun a b (h : a ≠ b) => by omega) (List.Pairwise.filter _ List.nodup_range)
theorem leH_iff (f : List (List Sp)) (x y : Int) : leH f x y = true ↔ ¬ ltI f y x := by
  unfold leH ltI
  rw [ltH]
  simp
  omega
theorem hotS_pw (f : List (List Sp)) (least : Int) : (hotS f least).Pairwise (ltI f) := by
  unfold hotS
  have h1 : ((hotP f least f.length).mergeSort (leH f)).Pairwise (fun a b => leH f a b = true) := List.pairwise_mergeSort (fun a b c h1 h2 => by rw [leH_iff] at *; unfold ltI at *; omega) (fun a b => by
    by_cases h : leH f a b = true
    · simp [h]
    · have : leH f b a = true := by rw [leH_iff] at *; unfold ltI at *; omega
      simp [this]) _
  have h2 : ((hotP f least f.length).mergeSort (leH f)).Nodup := (List.mergeSort_perm _ _).nodup_iff.2 (hotP_nd f least _)
  refine (h1.and h2).imp (fun {a b} h => ?_)
  obtain ⟨q, r⟩ := h
  rw [leH_iff] at q
  unfold ltI at *
  omega
theorem hotS_mem (f : List (List Sp)) (least : Int) (x : Int) : x ∈ hotS f least ↔ ∃ j : Nat, j < f.length ∧ x = (j : Int) ∧ least ≤ cn0 f (j : Int) := by
  unfold hotS
  rw [(List.mergeSort_perm _ _).mem_iff, hotP_mem]
/-- Who is left out at first. -/
def ob (f : List (List Sp)) (least : Int) (n : Nat) : List Bool := (List.range n).map (fun (i : Nat) => decide (cn0 f (i : Int) < least))
theorem ob_succ (f : List (List Sp)) (least : Int) (n : Nat) : ob f least (n + 1) = ob f least n ++ [decide (cn0 f (n : Int) < least)] := by
  unfold ob
  rw [List.range_succ, List.map_append, List.map_singleton]
theorem ob_len (f : List (List Sp)) (least : Int) (n : Nat) : (ob f least n).length = n := by simp [ob]
theorem ob_at (f : List (List Sp)) (least : Int) (n i : Nat) (h : i < n) : (ob f least n)[i]? = some (decide (cn0 f (i : Int) < least)) := by simp [ob, h]
/-- The first of those that are left that none has more than. -/
def bst (f : List (List Sp)) (out : List Bool) : Nat → Int
  | 0 => -1
  | n + 1 => if out[n]? = some false ∧ (bst f out n < 0 ∨ cn0 f (bst f out n) < cn0 f (n : Int)) then (n : Int) else bst f out n
theorem bst_spec (f : List (List Sp)) (out : List Bool) (n : Nat) : (bst f out n = -1 ∧ ∀ j : Nat, j < n → out[j]? ≠ some false) ∨ ∃ b : Nat, bst f out n = (b : Int) ∧ b < n ∧ out[b]? = some false ∧ ∀ j : Nat, j < n → out[j]? = some false → (j : Int) = (b : Int) ∨ ltI f (b : Int) (j : Int) := by
  induction n with
  | zero => exact .inl ⟨rfl, fun j hj => by omega⟩
  | succ n ih =>
    unfold bst
    rcases ih with ⟨h1, h2⟩ | ⟨b, h1, h2, h3, h4⟩
    · rw [h1]
      by_cases h : out[n]? = some false
      · rw [if_pos ⟨h, .inl (by omega)⟩]
        refine .inr ⟨n, rfl, by omega, h, fun j hj hf => ?_⟩
        rcases Nat.lt_or_ge j n with q | q
        · exact absurd hf (h2 j q)
        · exact .inl (by omega)
      · rw [if_neg (fun q => h q.1)]
        refine .inl ⟨rfl, fun j hj => ?_⟩
        rcases Nat.lt_or_ge j n with q | q
        · exact h2 j q
        · rw [show j = n by omega]; exact h
    · rw [h1]
      by_cases h : out[n]? = some false ∧ ((b : Int) < 0 ∨ cn0 f (b : Int) < cn0 f (n : Int))
      · rw [if_pos h]
        have hc : cn0 f (b : Int) < cn0 f (n : Int) := by omega
        refine .inr ⟨n, rfl, by omega, h.1, fun j hj hf => ?_⟩
        rcases Nat.lt_or_ge j n with q | q
        · right
          rcases h4 j q hf with r | r
          · rw [r]; exact .inl hc
          · unfold ltI at *; omega
        · exact .inl (by omega)
      · rw [if_neg h]
        refine .inr ⟨b, rfl, by omega, h3, fun j hj hf => ?_⟩
        rcases Nat.lt_or_ge j n with q | q
        · exact h4 j q hf
        · have e : j = n := by omega
          subst e
          have : ¬ cn0 f (b : Int) < cn0 f (j : Int) := fun q => h ⟨hf, .inr q⟩
          right
          unfold ltI
          omega
/-- While it is chosen: who is out, what is told already, how many rounds. -/
structure HI (f : List (List Sp)) (least : Int) (out : List Bool) (l : List Int) (k : Nat) : Prop where
  len : out.length = f.length
  pw : l.Pairwise (ltI f)
  ah : ∀ x ∈ l, ∀ j : Nat, out[j]? = some false → ltI f x (j : Int)
  mem : ∀ j : Nat, j < f.length → (least ≤ cn0 f (j : Int) ↔ ((j : Int) ∈ l ∨ out[j]? = some false))
  old : ∀ x ∈ l, ∃ j : Nat, j < f.length ∧ x = (j : Int)
  cnt : out.countP (fun b => !b) + k ≤ f.length
  ll : l.length ≤ k
theorem HI.start (f : List (List Sp)) (least : Int) : HI f least (ob f least f.length) [] 0 where
  len := ob_len _ _ _
  pw := List.Pairwise.nil
  ah := by simp
  mem j hj := by rw [ob_at _ _ _ _ hj]; simp
  old := by simp
  cnt := by have := List.countP_le_length (p := fun b => !b) (l := ob f least f.length); rw [ob_len] at this; omega
  ll := by simp
theorem HI.done {f : List (List Sp)} {least : Int} {out : List Bool} {l : List Int} {k : Nat} (h : HI f least out l k) (hn : ∀ j : Nat, j < f.length → out[j]? ≠ some false) : l = hotS f least := by
  refine uniqH f l _ h.pw (hotS_pw f least) (fun x => ?_)
  rw [hotS_mem]
  constructor
  · intro q
    obtain ⟨j, h1, rfl⟩ := h.old x q
    exact ⟨j, h1, rfl, (h.mem j h1).2 (.inl q)⟩
  · rintro ⟨j, h1, rfl, h2⟩
    rcases (h.mem j h1).1 h2 with q | q
    · exact q
    · exact absurd q (hn j h1)
theorem HI.full {f : List (List Sp)} {least : Int} {out : List Bool} {l : List Int} {k : Nat} (h : HI f least out l k) (hk : k = f.length) : l = hotS f least := by
  refine h.done (fun j hj hf => ?_)
  have h1 : out.countP (fun b => !b) = 0 := by have := h.cnt; omega
  have h2 := List.countP_eq_zero.1 h1 false (List.mem_of_getElem? hf)
  simp at h2
theorem HI.step {f : List (List Sp)} {least : Int} {out : List Bool} {l : List Int} {k b : Nat} (h : HI f least out l k) (hb : b < f.length) (ho : out[b]? = some false) (hm : ∀ j : Nat, j < f.length → out[j]? = some false → (j : Int) = (b : Int) ∨ ltI f (b : Int) (j : Int)) : HI f least (out.set b true) (l ++ [(b : Int)]) (k + 1) where
  len := by rw [List.length_set]; exact h.len
  pw := by
    rw [List.pairwise_append]
    refine ⟨h.pw, by simp, fun x hx y hy => ?_⟩
    simp only [List.mem_singleton] at hy
    subst hy
    exact h.ah x hx b ho
  ah x hx j hj := by
    rw [List.getElem?_set] at hj
    split at hj
    · split at hj <;> simp at hj
    · have hjl : j < f.length := by rw [← h.len]; exact (List.getElem?_eq_some_iff.1 hj).1
      rcases List.mem_append.1 hx with q | q
      · exact h.ah x q j hj
      · simp only [List.mem_singleton] at q
        subst q
        rcases hm j hjl hj with r | r
        · omega
        · exact r
  mem j hj := by
    rw [h.mem j hj, List.getElem?_set]
    by_cases e : b = j
    · subst e
      simp [ho]
    · simp only [if_neg e, List.mem_append, List.mem_singleton]
      constructor
      · rintro (q | q)
        · exact .inl (.inl q)
        · exact .inr q
      · rintro ((q | q) | q)
        · exact .inl q
        · omega
        · exact .inr q
  old x hx := by
    rcases List.mem_append.1 hx with q | q
    · exact h.old x q
    · simp only [List.mem_singleton] at q
      exact ⟨b, hb, q⟩
  cnt := by
    obtain ⟨h1, h2⟩ := List.getElem?_eq_some_iff.1 ho
    have hp : 0 < out.countP (fun b => !b) := List.countP_pos_iff.2 ⟨false, List.mem_of_getElem? ho, rfl⟩
    rw [List.countP_set h1, h2]
    simp only [Bool.not_false, Bool.not_true, ↓reduceIte, Bool.false_eq_true]
    have := h.cnt
    omega
  ll := by simp; exact h.ll
end Go.Proofs.Ytaldacjeeccbhaa
