/-
  A book in memory.
-/
import Derived.Test.YtjjfpokmpcpicaaBk0
import Derived.Test.YtjjfpokmpcpicaaBk1
import Derived.Test.YtjjfpokmpcpicaaPMg1
namespace Go.Proofs.Ytjjfpokmpcpicaa
open Go.RowKit Go.Maps
set_option linter.unusedVariables false
set_option linter.unusedSimpArgs false
/-- A spot's cells. -/
def spC (s : Sp) : Array Value := #[.int .i64 s.c, .int .i64 s.k, .int .u32 s.a, .int .u32 s.b]
/-- The spot at a place. -/
def spAt (f : List (List Sp)) (s : Int × Int) : Option Sp := if 0 ≤ s.1 ∧ 0 ≤ s.2 then (f[s.1.toNat]?).bind (fun l => l[s.2.toNat]?) else none
theorem spAt_of {f : List (List Sp)} {i j : Nat} {l : List Sp} {x : Sp} (h1 : f[i]? = some l) (h2 : l[j]? = some x) : spAt f ((i : Int), (j : Int)) = some x := by
  unfold spAt
  rw [if_pos ⟨by simp, by simp⟩]
  simp [h1, h2]
theorem spAt_some {f : List (List Sp)} {s : Int × Int} {x : Sp} (h : spAt f s = some x) : ∃ (i j : Nat) (l : List Sp), s = ((i : Int), (j : Int)) ∧ f[i]? = some l ∧ l[j]? = some x := by
  unfold spAt at h
  split at h
  · rename_i q
    rw [Option.bind_eq_some_iff] at h
    obtain ⟨l, h1, h2⟩ := h
    refine ⟨s.1.toNat, s.2.toNat, l, ?_, h1, h2⟩
    obtain ⟨a, b⟩ := s
    simp only at q ⊢
    rw [Int.toNat_of_nonneg q.1, Int.toNat_of_nonneg q.2]
  · cases h
theorem spAt_plc (f : List (List Sp)) (s : Int × Int) : (spAt f s).isSome = true ↔ s ∈ plc (f.map List.length) 0 := by
  rw [mem_plc]
  constructor
  · intro h
    obtain ⟨x, hx⟩ := Option.isSome_iff_exists.1 h
    obtain ⟨i, j, l, rfl, h1, h2⟩ := spAt_some hx
    exact ⟨i, l.length, j, by rw [List.getElem?_map, h1]; rfl, (List.getElem?_eq_some_iff.1 h2).1, by simp⟩
  · rintro ⟨a, n, j, h1, h2, rfl⟩
    rw [List.getElem?_map, Option.map_eq_some_iff] at h1
    obtain ⟨l, h1, rfl⟩ := h1
    rw [Nat.zero_add, spAt_of h1 (List.getElem?_eq_getElem h2)]
    rfl
/-- Another spot at a place. -/
def setAt (f : List (List Sp)) (s : Int × Int) (x : Sp) : List (List Sp) := f.set s.1.toNat (((f[s.1.toNat]?).getD []).set s.2.toNat x)
theorem setAt_of {f : List (List Sp)} {i j : Nat} {l : List Sp} (h1 : f[i]? = some l) (x : Sp) : setAt f ((i : Int), (j : Int)) x = f.set i (l.set j x) := by
  unfold setAt
  simp [h1]
theorem spAt_set {f : List (List Sp)} {s : Int × Int} {y : Sp} (h : spAt f s = some y) (x : Sp) (t : Int × Int) : spAt (setAt f s x) t = if t = s then some x else spAt f t := by
  obtain ⟨i, j, l, rfl, h1, h2⟩ := spAt_some h
  have hi := (List.getElem?_eq_some_iff.1 h1).1
  have hj := (List.getElem?_eq_some_iff.1 h2).1
  rw [setAt_of h1]
  by_cases e : t = ((i : Int), (j : Int))
  · subst e
    rw [if_pos rfl]
    exact spAt_of (l := l.set j x) (List.getElem?_set_self hi) (List.getElem?_set_self hj)
  · rw [if_neg e]
    unfold spAt
    split
    · rename_i q
      obtain ⟨a, b⟩ := t
      simp only at q ⊢
      by_cases e1 : i = a.toNat
      · subst e1
        rw [List.getElem?_set_self hi, h1]
        simp only [Option.bind_some]
        rw [List.getElem?_set_ne]
        intro e2
        exact e (by rw [e2, Int.toNat_of_nonneg q.1, Int.toNat_of_nonneg q.2])
      · rw [List.getElem?_set_ne e1]
    · rfl
theorem setAt_lens {f : List (List Sp)} {s : Int × Int} {y : Sp} (h : spAt f s = some y) (x : Sp) : (setAt f s x).map List.length = f.map List.length := by
  obtain ⟨i, j, l, rfl, h1, h2⟩ := spAt_some h
  rw [setAt_of h1, List.map_set, List.length_set]
  refine List.ext_getElem? (fun k => ?_)
  by_cases e : i = k
  · subst e
    rw [List.getElem?_set_self (by simpa using (List.getElem?_eq_some_iff.1 h1).1), List.getElem?_map, h1]
    rfl
  · rw [List.getElem?_set_ne e]
/-- The blocks of a book. -/
def bkS (p mb : Nat) (g : Int × Int → Option (Nat × Sp)) (k : Nat) : Prop := k = p ∨ k = mb ∨ ∃ s x, g s = some (k, x)
/-- A book: where each place's spot lies, and what it holds. -/
structure BkG (w : World) (p mb n0 n : Nat) (g : Int × Int → Option (Nat × Sp)) : Prop where
  book : w.heap[p]? = some (.cells #[.int .i64 (n0 : Int), .map (some mb)] 59)
  map : MfB w mb n (fun s => (g s).map (·.1))
  spot : ∀ s b x, g s = some (b, x) → w.heap[b]? = some (.cells (spC x) 74)
  inj : ∀ s t b x y, g s = some (b, x) → g t = some (b, y) → s = t
  ne : ∀ s b x, g s = some (b, x) → b ≠ p ∧ b ≠ mb
  pm : p ≠ mb
section
variable {w w' : World} {p mb n0 n : Nat} {g : Int × Int → Option (Nat × Sp)} {S : Nat → Prop}
theorem BkG.ltS (h : BkG w p mb n0 n g) {k : Nat} (hk : bkS p mb g k) : k < w.heap.size := by
  rcases hk with rfl | rfl | ⟨s, x, hx⟩
  · exact (Array.getElem?_eq_some_iff.1 h.book).1
  · exact h.map.lt
  · exact (Array.getElem?_eq_some_iff.1 (h.spot _ _ _ hx)).1
theorem BkG.fr (h : BkG w p mb n0 n g) (f : Fr S w w') (hS : ∀ k, bkS p mb g k → ¬ S k) : BkG w' p mb n0 n g :=
  ⟨(f.block p (h.ltS (.inl rfl)) (hS p (.inl rfl))).trans h.book, h.map.fr f (hS mb (.inr (.inl rfl))), fun s b x hx => (f.block b (h.ltS (.inr (.inr ⟨s, x, hx⟩))) (hS b (.inr (.inr ⟨s, x, hx⟩)))).trans (h.spot s b x hx), h.inj, h.ne, h.pm⟩
/-- Another spot at a place. -/
def putG (g : Int × Int → Option (Nat × Sp)) (s : Int × Int) (b : Nat) (x : Sp) : Int × Int → Option (Nat × Sp) := fun t => open Classical in if t = s then some (b, x) else g t
theorem putG_same (s : Int × Int) (b : Nat) (x : Sp) : putG g s b x s = some (b, x) := by unfold putG; rw [if_pos rfl]
theorem putG_other {s t : Int × Int} (b : Nat) (x : Sp) (h : t ≠ s) : putG g s b x t = g t := by unfold putG; rw [if_neg h]
theorem BkG.turn (h : BkG w p mb n0 n g) {s : Int × Int} {b : Nat} {x y : Sp} (hs : g s = some (b, x)) (f : Fr (fun k => k = b) w w') (hb : w'.heap[b]? = some (.cells (spC y) 74)) : BkG w' p mb n0 n (putG g s b y) := by
  obtain ⟨n1, n2⟩ := h.ne s b x hs
  have k1 : ∀ t, (putG g s b y t).map (·.1) = (g t).map (·.1) := fun t => by
    by_cases e : t = s
    · subst e; rw [putG_same, hs]; rfl
    · rw [putG_other b y e]
  refine ⟨(f.block p (h.ltS (.inl rfl)) (fun e => n1 e.symm)).trans h.book, (h.map.fr f (fun e => n2 e.symm)).congr (fun t => (k1 t).symm), fun t b' x' ht => ?_, fun t u b' x' y' ht hu => ?_, fun t b' x' ht => ?_, h.pm⟩
  · by_cases e : t = s
    · subst e; rw [putG_same] at ht; cases ht; exact hb
    · rw [putG_other b y e] at ht
      exact (f.block b' (h.ltS (.inr (.inr ⟨t, x', ht⟩))) (fun q => e (by subst q; exact h.inj t s b' x' x ht hs))).trans (h.spot t b' x' ht)
  · by_cases e : t = s
    · subst e
      rw [putG_same] at ht
      cases ht
      by_cases e2 : u = t
      · exact e2.symm
      · rw [putG_other b y e2] at hu
        exact (h.inj u t b y' x hu hs).symm
    · rw [putG_other b y e] at ht
      by_cases e2 : u = s
      · subst e2
        rw [putG_same] at hu
        cases hu
        exact h.inj t u b x' x ht hs
      · rw [putG_other b y e2] at hu
        exact h.inj t u b' x' y' ht hu
  · by_cases e : t = s
    · subst e; rw [putG_same] at ht; cases ht; exact h.ne t b x hs
    · rw [putG_other b y e] at ht; exact h.ne t b' x' ht
theorem bkS_put {s : Int × Int} {b : Nat} {x : Sp} {k : Nat} (h : bkS p mb (putG g s b x) k) : bkS p mb g k ∨ k = b := by
  rcases h with rfl | rfl | ⟨t, y, ht⟩
  · exact .inl (.inl rfl)
  · exact .inl (.inr (.inl rfl))
  · by_cases e : t = s
    · subst e; rw [putG_same] at ht; cases ht; exact .inr rfl
    · rw [putG_other b x e] at ht; exact .inl (.inr (.inr ⟨t, y, ht⟩))
/-- One place more: the spot lies there, and is laid into the map. -/
theorem BkG.more (h : BkG w p mb n0 n g) {s : Int × Int} {b : Nat} {x : Sp} (hs : g s = none) (hb : w.heap[b]? = some (.cells (spC x) 74)) (hn : ¬ bkS p mb g b) (f : Fr (fun k => k = mb) w w') (hm : MfB w' mb (n + 1) (fun t => open Classical in if t = s then some b else (g t).map (·.1))) : BkG w' p mb n0 (n + 1) (putG g s b x) := by
  refine ⟨(f.block p (h.ltS (.inl rfl)) h.pm).trans h.book, hm.congr (fun t => ?_), fun t b' x' ht => ?_, fun t u b' x' y' ht hu => ?_, fun t b' x' ht => ?_, h.pm⟩
  · by_cases e : t = s
    · subst e; rw [if_pos rfl, putG_same]; rfl
    · rw [if_neg e, putG_other b x e]
  · by_cases e : t = s
    · subst e
      rw [putG_same] at ht
      cases ht
      exact (f.block b (Array.getElem?_eq_some_iff.1 hb).1 (fun q => hn (.inr (.inl q)))).trans hb
    · rw [putG_other b x e] at ht
      exact (f.block b' (h.ltS (.inr (.inr ⟨t, x', ht⟩))) (h.ne t b' x' ht).2).trans (h.spot t b' x' ht)
  · by_cases e : t = s
    · subst e
      rw [putG_same] at ht
      cases ht
      by_cases e2 : u = t
      · exact e2.symm
      · rw [putG_other b x e2] at hu
        exact absurd (.inr (.inr ⟨u, y', hu⟩)) hn
    · rw [putG_other b x e] at ht
      by_cases e2 : u = s
      · subst e2
        rw [putG_same] at hu
        cases hu
        exact absurd (.inr (.inr ⟨t, x', ht⟩)) hn
      · rw [putG_other b x e2] at hu
        exact h.inj t u b' x' y' ht hu
  · by_cases e : t = s
    · subst e
      rw [putG_same] at ht
      cases ht
      exact ⟨fun q => hn (.inl q), fun q => hn (.inr (.inl q))⟩
    · rw [putG_other b x e] at ht; exact h.ne t b' x' ht
end
/-- A book that holds these spots; its blocks are among Z. -/
def BkM (Z : Nat → Prop) (w : World) (p : Nat) (f : List (List Sp)) : Prop :=
  ∃ mb n g, BkG w p mb f.length n g ∧ n = (f.map List.length).sum ∧ (∀ s, (g s).map (·.2) = spAt f s) ∧ ∀ k, bkS p mb g k → Z k
theorem BkM.fr {Z S : Nat → Prop} {w w' : World} {p : Nat} {f : List (List Sp)} (h : BkM Z w p f) (k : Fr S w w') (hS : ∀ b, b < w.heap.size → Z b → ¬ S b) : BkM Z w' p f := by
  obtain ⟨mb, n, g, h1, h2, h3, h4⟩ := h
  exact ⟨mb, n, g, h1.fr k (fun b hb => hS b (h1.ltS hb) (h4 b hb)), h2, h3, h4⟩
theorem BkM.below {Z : Nat → Prop} {w w' : World} {p : Nat} {f : List (List Sp)} (h : BkM Z w p f) (k : Below w.heap.size w w') : BkM Z w' p f := h.fr (Fr.of_below (S := fun _ => False) k) (fun _ _ _ e => e)
theorem BkM.mono {Z Z' : Nat → Prop} {w : World} {p : Nat} {f : List (List Sp)} (h : BkM Z w p f) (hz : ∀ k, k < w.heap.size → Z k → Z' k) : BkM Z' w p f := by
  obtain ⟨mb, n, g, h1, h2, h3, h4⟩ := h
  exact ⟨mb, n, g, h1, h2, h3, fun k hk => hz k (h1.ltS hk) (h4 k hk)⟩
end Go.Proofs.Ytjjfpokmpcpicaa
