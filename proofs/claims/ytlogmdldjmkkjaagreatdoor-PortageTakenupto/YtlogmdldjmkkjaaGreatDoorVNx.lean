/-
  What comes next, and where it is wrong; the walk's state without the heap.
-/
import Derived.Test.YtlogmdldjmkkjaaGreatDoorVEff
namespace Go.Proofs.YtlogmdldjmkkjaaGreatDoor
open Go.RowKit
set_option linter.unusedVariables false
set_option linter.unusedSimpArgs false
theorem nodup_le {l : List Nat} {M : Nat} (h : l.Nodup) (hb : ∀ x ∈ l, x < M) : l.length ≤ M := by
  induction M generalizing l with
  | zero =>
    cases l with
    | nil => simp
    | cons x r => have := hb x (by simp); omega
  | succ M ih =>
    by_cases hm : M ∈ l
    · have h1 := List.length_erase_of_mem hm
      have h2 := ih (h.erase M) (fun x hx => by
        have := (h.mem_erase_iff).1 hx
        have := hb x this.2
        omega)
      omega
    · have := ih h (fun x hx => by
        have := hb x hx
        have : x ≠ M := fun e => hm (e ▸ hx)
        omega)
      omega
/-- So many spots there are. -/
theorem spots_le {l : List Spot} {N : Nat} (h : l.Nodup) (hb : ∀ s ∈ l, 0 ≤ s.1 ∧ s.1 < (N : Int) ∧ 0 ≤ s.2 ∧ s.2 ≤ 1000) : l.length ≤ N * 1001 := by
  have h1 : (l.map (fun s => s.1.toNat * 1001 + s.2.toNat)).Nodup := by
    rw [List.nodup_iff_pairwise_ne, List.pairwise_map]
    refine (List.nodup_iff_pairwise_ne.1 h).imp_of_mem (fun {a b} ha hb' hne e => hne ?_)
    have := hb a ha
    have := hb b hb'
    have e1 : a.1.toNat = b.1.toNat := by omega
    have e2 : a.2.toNat = b.2.toNat := by omega
    exact Prod.ext (by omega) (by omega)
  have := nodup_le (M := N * 1001) h1 (fun x hx => by
    obtain ⟨s, hs, rfl⟩ := List.mem_map.1 hx
    have := hb s hs
    have : s.1.toNat + 1 ≤ N := by omega
    have := Nat.mul_le_mul_right 1001 this
    omega)
  simpa using this

set_option linter.unusedVariables false
set_option linter.unusedSimpArgs false
/-- The spots that come next. -/
def nx (N : Nat) (op a : Int) (p : Nat) (ht : Int) : List Spot :=
  if ht - tkI op a < 0 ∨ 64 < ht - tkI op a + ptI op a then []
  else (if jmB op then [(a, ht - tkI op a + ptI op a)] else []) ++ (if !enB op ∧ p + 1 < N then [((p : Int) + 1, ht - tkI op a + ptI op a)] else [])
noncomputable def mts (p : List Spot × List Spot) (s : Spot) : List Spot × List Spot := (mtM p.1 s, mtL p.1 p.2 s)
/-- The least place that is wrong. -/
def nwr (wr : Int) (p : Nat) (ht hv fl op a : Int) : Int := if ht ≠ hv ∨ ht - tkI op a < fl ∨ 64 < ht - tkI op a + ptI op a then min wr p else wr
theorem tp_bounds {op a : Int} (h : okB op a = true) : 0 ≤ tkI op a ∧ tkI op a ≤ 66 ∧ 0 ≤ ptI op a ∧ ptI op a ≤ 2 := by
  have hop : isOp op = true := by simp [okB] at h; exact h.1
  have ho : 0 ≤ op ∧ op < 67 := by simpa [isOp] using hop
  obtain ⟨k, rfl⟩ : ∃ k : Nat, op = k := ⟨op.toNat, by omega⟩
  have hk : k < 67 := by omega
  have h1 := tk_le k hk
  have h2 := pt_le k hk
  have e1 : tkI k a = (tk k : Int) + (if kd k = 6 then a else 0) := by simp [tkI, h]
  have e2 : ptI k a = pt k := by simp [ptI, h]
  rw [e1, e2]
  split
  · rename_i h6
    have hr : rightB 6 a = true := by rw [okB_op hk, h6] at h; exact h
    have := right6 hr
    omega
  · omega
/-- The walk's state, without the heap. -/
structure Sa where
  idle : List Hd
  hts : List Int
  wr : Int
  met : List Spot
  left : List Spot
noncomputable def wak (p : Nat) (ht : Int) (A : Sa) : Sa :=
  if A.hts[p]? = some (-1) then { idle := idl p A.idle, hts := A.hts.set p ht, wr := A.wr, met := (wkF p A.idle (A.met, A.left)).1, left := (wkF p A.idle (A.met, A.left)).2 } else A
noncomputable def goo (N : Nat) (p : Nat) (ht hv fv op a : Int) (A : Sa) : Sa :=
  { A with wr := nwr A.wr p ht hv fv op a, met := ((nx N op a p ht).foldl mts (A.met, A.left)).1, left := ((nx N op a p ht).foldl mts (A.met, A.left)).2 }
/-- What a step leans on. -/
structure Sp (f : Fc) (fl : List Int) (I : Sa → Prop) (mu : Sa → Nat) (A : Sa) (l : List Spot) (p : Nat) (ht op a fv : Int) : Prop where
  hi : f.code[p]? = some (op, a)
  hok : okB op a = true
  hja : jmB op = true → 0 ≤ a ∧ a < 9000000000
  hf : fl[p]? = some fv
  h0 : 0 ≤ ht
  h1 : ht ≤ 1000
  hm : A.met.length < 50000000
  hl : A.left.length < 50000000
  nxt : ∀ hv, (wak p ht { A with left := l }).hts[p]? = some hv → I (goo f.code.length p ht hv fv op a (wak p ht { A with left := l })) ∧ mu (goo f.code.length p ht hv fv op a (wak p ht { A with left := l })) < mu A

theorem mts_mem (L : List Spot) : ∀ (p : List Spot × List Spot) (s : Spot), s ∈ (L.foldl mts p).1 ↔ s ∈ p.1 ∨ s ∈ L := by
  induction L with
  | nil => intro p s; simp
  | cons y r ih =>
    intro p s
    rw [List.foldl_cons, ih]
    unfold mts mtM
    simp only [List.mem_cons]
    split
    · rename_i hy
      constructor
      · rintro (h | h)
        · exact .inl h
        · exact .inr (.inr h)
      · rintro (h | h | h)
        · exact .inl h
        · exact .inl (h ▸ hy)
        · exact .inr h
    · simp only [List.mem_cons]
      constructor
      · rintro ((h | h) | h)
        · exact .inr (.inl h)
        · exact .inl h
        · exact .inr (.inr h)
      · rintro (h | h | h)
        · exact .inl (.inr h)
        · exact .inl (.inl h)
        · exact .inr h
theorem mts_left (L : List Spot) : ∀ (p : List Spot × List Spot) (s : Spot), s ∈ (L.foldl mts p).2 ↔ s ∈ p.2 ∨ (s ∈ L ∧ s ∉ p.1) := by
  induction L with
  | nil => intro p s; simp
  | cons y r ih =>
    intro p s
    rw [List.foldl_cons, ih]
    unfold mts mtM mtL
    by_cases hy : y ∈ p.1
    · simp only [if_pos hy, List.mem_cons]
      constructor
      · rintro (h | ⟨h, h2⟩)
        · exact .inl h
        · exact .inr ⟨.inr h, h2⟩
      · rintro (h | ⟨h | h, h2⟩)
        · exact .inl h
        · exact absurd (h ▸ hy) h2
        · exact .inr ⟨h, h2⟩
    · simp only [if_neg hy, List.mem_cons, List.mem_append, List.not_mem_nil, or_false]
      constructor
      · rintro ((h | h) | ⟨h, h2⟩)
        · exact .inl h
        · exact .inr ⟨.inl h, h ▸ hy⟩
        · exact .inr ⟨.inr h, fun q => h2 (.inr q)⟩
      · rintro (h | ⟨h | h, h2⟩)
        · exact .inl (.inl h)
        · exact .inl (.inr h)
        · by_cases q : s = y
          · exact .inl (.inr q)
          · exact .inr ⟨h, fun k => k.elim q h2⟩
theorem mts_nodup (L : List Spot) : ∀ (p : List Spot × List Spot), p.1.Nodup → p.2.Nodup → (∀ s ∈ p.2, s ∈ p.1) → (L.foldl mts p).1.Nodup ∧ (L.foldl mts p).2.Nodup := by
  induction L with
  | nil => intro p h1 h2 _; exact ⟨h1, h2⟩
  | cons y r ih =>
    intro p h1 h2 h3
    rw [List.foldl_cons]
    by_cases hy : y ∈ p.1
    · have e : mts p y = p := by unfold mts mtM mtL; rw [if_pos hy, if_pos hy]
      rw [e]
      exact ih p h1 h2 h3
    · have e : mts p y = (y :: p.1, p.2 ++ [y]) := by unfold mts mtM mtL; rw [if_neg hy, if_neg hy]
      rw [e]
      refine ih _ (List.nodup_cons.2 ⟨hy, h1⟩) ?_ (fun s hs => ?_)
      · rw [List.nodup_append]
        refine ⟨h2, by simp, fun a ha b hb => ?_⟩
        simp at hb
        subst hb
        exact fun e => hy (h3 _ (e ▸ ha))
      · simp only [List.mem_append, List.mem_cons, List.not_mem_nil, or_false] at hs ⊢
        exact hs.elim (fun q => .inr (h3 s q)) .inl
theorem mts_length (L : List Spot) : ∀ (p : List Spot × List Spot), (L.foldl mts p).1.length + p.2.length = p.1.length + (L.foldl mts p).2.length := by
  induction L with
  | nil => intro p; simp
  | cons y r ih =>
    intro p
    rw [List.foldl_cons]
    have h := ih (mts p y)
    by_cases hy : y ∈ p.1
    · have e : mts p y = p := by unfold mts mtM mtL; rw [if_pos hy, if_pos hy]
      rw [e] at h ⊢
      exact h
    · have e : mts p y = (y :: p.1, p.2 ++ [y]) := by unfold mts mtM mtL; rw [if_neg hy, if_neg hy]
      rw [e] at h ⊢
      simp at h
      omega
theorem wkF_mts (pc : Int) (hs : List Hd) : ∀ p, wkF pc hs p = ((hs.filter (fun h => hol h pc)).map tgt).foldl mts p := by
  unfold wkF
  induction hs with
  | nil => intro p; rfl
  | cons h r ih =>
    intro p
    rw [List.foldl_cons, ih, List.filter_cons]
    unfold wkM wkL
    cases e : hol h pc <;> simp [mts]
/-- The spots that a step adds. -/
def adds (N : Nat) (A : Sa) (p : Nat) (ht op a : Int) : List Spot := (if A.hts[p]? = some (-1) then (A.idle.filter (fun h => hol h p)).map tgt else []) ++ nx N op a p ht
theorem step_ml (N : Nat) (A : Sa) (l : List Spot) (p : Nat) (ht op a hv fv : Int) :
    ((goo N p ht hv fv op a (wak p ht { A with left := l })).met, (goo N p ht hv fv op a (wak p ht { A with left := l })).left) = (adds N A p ht op a).foldl mts (A.met, l) := by
  unfold goo adds wak
  rw [List.foldl_append]
  by_cases e : A.hts[p]? = some (-1)
  · simp only [e, if_true, wkF_mts]
  · simp only [e, if_false, List.foldl_nil]
end Go.Proofs.YtlogmdldjmkkjaaGreatDoor
