/-
  What is met of a function, by reckoning.
-/
import Derived.Test.YtiknljilfpekfaaDoorVFin
namespace Go.Proofs.YtiknljilfpekfaaDoor
open Go.RowKit
set_option linter.unusedVariables false
set_option linter.unusedSimpArgs false
def conS (f : Fc) (op a : Int) (p : Nat) (ht : Int) : List Spot := nx f.code.length op a p ht ++ (f.hs.filter (fun h => hol h p)).map tgt
theorem Mt.con {f : Fc} {p : Nat} {ht op a : Int} (hm : Mt f ((p : Int), ht)) (hi : f.code[p]? = some (op, a)) {s : Spot} (hs : s ∈ conS f op a p ht) : Mt f s := by
  unfold conS at hs
  rw [List.mem_append] at hs
  rcases hs with hs | hs
  · exact .next hm hi hs
  · obtain ⟨k, hk, rfl⟩ := List.mem_map.1 hs
    rw [List.mem_filter] at hk
    exact .hand hm hk.1 hk.2
theorem FnR.uniq {f : Fc} {hv hv' : Option (List Int)} {pl er pl' er' : Int} (h : FnR f hv pl er) (h' : FnR f hv' pl' er') : hv = hv' ∧ pl = pl' ∧ er = er' := by
  have lst : ∀ {P : Nat → Prop} {p q : Nat}, P p → (∀ r, r < p → ¬ P r) → P q → (∀ r, r < q → ¬ P r) → p = q := fun {P p q} a b c d => by
    rcases Nat.lt_trichotomy p q with e | e | e
    · exact absurd a (d p e)
    · exact e
    · exact absurd c (b q e)
  rcases h with ⟨e1, e2, p, e3, hb, hl⟩ | ⟨e1, e2, hb, p, e3, hu, hl⟩ | ⟨e1, e2, hb, hu, l, e3, hl, ha⟩
  · rcases h' with ⟨d1, d2, q, d3, hb', hl'⟩ | ⟨d1, d2, hb', _⟩ | ⟨d1, d2, hb', _⟩
    · have := lst hb hl hb' hl'
      subst this
      exact ⟨by rw [e2, d2], by rw [e3, d3], by rw [e1, d1]⟩
    · exact absurd hb (hb' p)
    · exact absurd hb (hb' p)
  · rcases h' with ⟨d1, d2, q, d3, hb', hl'⟩ | ⟨d1, d2, hb', q, d3, hu', hl'⟩ | ⟨d1, d2, hb', hu', _⟩
    · exact absurd hb' (hb q)
    · have := lst hu hl hu' hl'
      subst this
      exact ⟨by rw [e2, d2], by rw [e3, d3], by rw [e1, d1]⟩
    · exact absurd hu (hu' p)
  · rcases h' with ⟨d1, d2, q, d3, hb', hl'⟩ | ⟨d1, d2, hb', q, d3, hu', hl'⟩ | ⟨d1, d2, hb', hu', l', d3, hl', ha'⟩
    · exact absurd hb' (hb q)
    · exact absurd hu' (hu q)
    · refine ⟨?_, by rw [e2, d2], by rw [e1, d1]⟩
      rw [e3, d3]
      congr 1
      apply List.ext_getElem?
      intro i
      cases q : l[i]? with
      | none =>
        cases q' : l'[i]? with
        | none => rfl
        | some y => rw [(ha i y).2 ((ha' i y).1 q')] at q; cases q
      | some x => exact ((ha' i x).2 ((ha i x).1 q)).symm
/-- What a spot brings about. -/
def sucS (f : Fc) (s : Spot) : List Spot := match f.code[s.1.toNat]? with
  | some q => conS f q.1 q.2 s.1.toNat s.2
  | none => []
/-- All that is met, step by step. -/
def bfsS (f : Fc) : Nat → List Spot → List Spot → List Spot × List Spot
  | 0, S, F => (S, F)
  | n + 1, S, F => bfsS f n (S ++ ((F.flatMap (sucS f)).filter (fun s => !(S.contains s))).eraseDups) ((F.flatMap (sucS f)).filter (fun s => !(S.contains s))).eraseDups
structure BfI (f : Fc) (S F : List Spot) : Prop where
  snd : ∀ s ∈ S, Mt f s
  sub : ∀ s ∈ F, s ∈ S
  st0 : ((0, 0) : Spot) ∈ S
  cl : ∀ s ∈ S, s ∉ F → ∀ t ∈ sucS f s, t ∈ S
theorem Mt.suc {f : Fc} (hf : OkF f) {s t : Spot} (h : Mt f s) (ht : t ∈ sucS f s) : Mt f t := by
  have hb := h.bd hf
  obtain ⟨x, y⟩ := s
  unfold sucS at ht
  simp only at ht hb
  obtain ⟨p, rfl⟩ : ∃ p : Nat, x = (p : Int) := ⟨x.toNat, by omega⟩
  rw [Int.toNat_natCast] at ht
  cases hi : f.code[p]? with
  | none => rw [hi] at ht; simp at ht
  | some q => rw [hi] at ht; exact h.con hi ht
theorem BfI.step {f : Fc} (hf : OkF f) {S F : List Spot} (h : BfI f S F) : BfI f (S ++ ((F.flatMap (sucS f)).filter (fun s => !(S.contains s))).eraseDups) ((F.flatMap (sucS f)).filter (fun s => !(S.contains s))).eraseDups := by
  have mem : ∀ s, s ∈ ((F.flatMap (sucS f)).filter (fun s => !(S.contains s))).eraseDups ↔ (∃ t ∈ F, s ∈ sucS f t) ∧ s ∉ S := fun s => by
    rw [List.mem_eraseDups, List.mem_filter, List.mem_flatMap]
    simp
  refine ⟨fun s hs => ?_, fun s hs => List.mem_append.2 (.inr hs), List.mem_append.2 (.inl h.st0), fun s hs hn t ht => ?_⟩
  · rcases List.mem_append.1 hs with q | q
    · exact h.snd s q
    · obtain ⟨⟨t, ht, hst⟩, _⟩ := (mem s).1 q
      exact (h.snd t (h.sub t ht)).suc hf hst
  · have hS : s ∈ S := (List.mem_append.1 hs).resolve_right hn
    by_cases hF : s ∈ F
    · by_cases hT : t ∈ S
      · exact List.mem_append.2 (.inl hT)
      · exact List.mem_append.2 (.inr ((mem t).2 ⟨⟨s, hF, ht⟩, hT⟩))
    · exact List.mem_append.2 (.inl (h.cl s hS hF t ht))
theorem bfs_inv {f : Fc} (hf : OkF f) (n : Nat) : ∀ {S F : List Spot}, BfI f S F → BfI f (bfsS f n S F).1 (bfsS f n S F).2 := by
  induction n with
  | zero => intro S F h; exact h
  | succ n ih => intro S F h; exact ih (h.step hf)
theorem BfI.first (f : Fc) : BfI f [(0, 0)] [(0, 0)] := ⟨fun s hs => by simp at hs; subst hs; exact .zero, fun s hs => hs, by simp, fun s hs hn => absurd hs hn⟩
theorem BfI.all {f : Fc} (hf : OkF f) {S : List Spot} (h : BfI f S []) {s : Spot} : Mt f s ↔ s ∈ S := by
  refine ⟨fun q => ?_, h.snd s⟩
  induction q with
  | zero => exact h.st0
  | @next p ht op a s hm hi hn ih =>
    refine h.cl _ ih (by simp) s ?_
    unfold sucS
    simp only [Int.toNat_natCast, hi]
    exact List.mem_append.2 (.inl hn)
  | @hand p ht k hm hk hh ih =>
    have hp : p < f.code.length := by have := hm.bd hf; simp only at this; omega
    refine h.cl _ ih (by simp) _ ?_
    unfold sucS
    simp only [Int.toNat_natCast]
    rw [List.getElem?_eq_getElem hp]
    exact List.mem_append.2 (.inr (List.mem_map.2 ⟨k, List.mem_filter.2 ⟨hk, hh⟩, rfl⟩))
def badD (f : Fc) (S : List Spot) (p : Nat) : Bool := match f.code[p]? with
  | some q => S.any (fun s => s.1 == (p : Int) && (S.any (fun t => t.1 == (p : Int) && t.2 != s.2) || decide (s.2 - tkI q.1 q.2 < flo f.hs (p : Int)) || decide (64 < s.2 - tkI q.1 q.2 + ptI q.1 q.2)))
  | none => false
def unD (f : Fc) (S : List Spot) (p : Nat) : Bool := match f.code[p]? with
  | some q => !(S.any (fun s => s.1 == (p : Int))) || (p + 1 == f.code.length && !enB q.1)
  | none => false
theorem badD_iff {f : Fc} {S : List Spot} (hM : ∀ s, Mt f s ↔ s ∈ S) (p : Nat) : badD f S p = true ↔ BadM f p := by
  unfold badD
  cases hi : f.code[p]? with
  | none =>
    simp only
    constructor
    · intro h; cases h
    · rintro ⟨_, _, _, _, h, _⟩; rw [hi] at h; cases h
  | some q =>
    simp only [List.any_eq_true, Bool.and_eq_true, Bool.or_eq_true, beq_iff_eq, bne_iff_ne, decide_eq_true_eq]
    constructor
    · rintro ⟨⟨x, y⟩, hs, rfl, h⟩
      refine ⟨y, q.1, q.2, (hM _).2 hs, hi, ?_⟩
      rcases h with (⟨⟨x2, y2⟩, ht, rfl, hne⟩ | h) | h
      · exact .inl ⟨y2, (hM _).2 ht, hne⟩
      · exact .inr (.inl h)
      · exact .inr (.inr h)
    · rintro ⟨ht, op, a, hm, hi', h⟩
      rw [hi] at hi'
      cases hi'
      refine ⟨((p : Int), ht), (hM _).1 hm, rfl, ?_⟩
      rcases h with ⟨h2, hm2, hne⟩ | h | h
      · exact .inl (.inl ⟨((p : Int), h2), (hM _).1 hm2, rfl, hne⟩)
      · exact .inl (.inr h)
      · exact .inr h
theorem unD_iff {f : Fc} {S : List Spot} (hM : ∀ s, Mt f s ↔ s ∈ S) (p : Nat) : unD f S p = true ↔ Un f p := by
  unfold unD
  cases hi : f.code[p]? with
  | none =>
    simp only
    constructor
    · intro h; cases h
    · rintro ⟨_, _, h, _⟩; rw [hi] at h; cases h
  | some q =>
    simp only [Bool.or_eq_true, Bool.and_eq_true, Bool.not_eq_true', beq_iff_eq]
    constructor
    · intro h
      refine ⟨q.1, q.2, hi, ?_⟩
      rcases h with h | h
      · left
        intro ht hm
        have := List.any_eq_false.1 h _ ((hM _).1 hm)
        simp at this
      · exact .inr h
    · rintro ⟨op, a, hi', h⟩
      rw [hi] at hi'
      cases hi'
      rcases h with h | h
      · left
        rw [List.any_eq_false]
        rintro ⟨x, y⟩ hs
        simp only [beq_iff_eq]
        rintro rfl
        exact h y ((hM _).2 hs)
      · exact .inr h
theorem bad_no {f : Fc} {S : List Spot} (hM : ∀ s, Mt f s ↔ s ∈ S) {n : Nat} (h : (List.range n).all (fun q => !badD f S q) = true) : ∀ q, q < n → ¬ BadM f q := fun q hq hb => by
  have := List.all_eq_true.1 h q (List.mem_range.2 hq)
  rw [(badD_iff hM q).2 hb] at this
  cases this
theorem un_no {f : Fc} {S : List Spot} (hM : ∀ s, Mt f s ↔ s ∈ S) {n : Nat} (h : (List.range n).all (fun q => !unD f S q) = true) : ∀ q, q < n → ¬ Un f q := fun q hq hb => by
  have := List.all_eq_true.1 h q (List.mem_range.2 hq)
  rw [(unD_iff hM q).2 hb] at this
  cases this
theorem fn_bad9 {f : Fc} {S : List Spot} (hM : ∀ s, Mt f s ↔ s ∈ S) {p : Nat} (h : badD f S p = true) (hl : (List.range p).all (fun q => !badD f S q) = true) : FnR f none (p : Int) 9 :=
  .inl ⟨rfl, rfl, p, rfl, (badD_iff hM p).1 h, bad_no hM hl⟩
theorem all_bad {f : Fc} {S : List Spot} (hM : ∀ s, Mt f s ↔ s ∈ S) (hl : (List.range f.code.length).all (fun q => !badD f S q) = true) : ∀ q, ¬ BadM f q := fun q hq => by
  obtain ⟨_, _, _, _, hi, _⟩ := id hq
  exact bad_no hM hl q (List.getElem?_eq_some_iff.1 hi).1 hq
theorem fn_un10 {f : Fc} {S : List Spot} (hM : ∀ s, Mt f s ↔ s ∈ S) {p : Nat} (h0 : (List.range f.code.length).all (fun q => !badD f S q) = true) (h : unD f S p = true) (hl : (List.range p).all (fun q => !unD f S q) = true) : FnR f none (p : Int) 10 :=
  .inr (.inl ⟨rfl, rfl, all_bad hM h0, p, rfl, (unD_iff hM p).1 h, un_no hM hl⟩)
theorem fn_ok0 {f : Fc} (hf : OkF f) {S : List Spot} (hM : ∀ s, Mt f s ↔ s ∈ S) {hts : List Int} (h0 : (List.range f.code.length).all (fun q => !badD f S q) = true) (h1 : (List.range f.code.length).all (fun q => !unD f S q) = true) (hl : hts.length = f.code.length) (hh : (List.range f.code.length).all (fun p => S.contains ((p : Int), hts.getD p 0)) = true) : FnR f (some hts) 0 0 := by
  have hb := all_bad hM h0
  refine .inr (.inr ⟨rfl, rfl, hb, fun q hq => ?_, hts, rfl, hl, fun p ht => ?_⟩)
  · obtain ⟨_, _, hi, _⟩ := id hq
    exact un_no hM h1 q (List.getElem?_eq_some_iff.1 hi).1 hq
  · by_cases hp : p < f.code.length
    · have hc := List.all_eq_true.1 hh p (List.mem_range.2 hp)
      have hm : Mt f ((p : Int), hts.getD p 0) := (hM _).2 (List.contains_iff_mem.1 hc)
      have hg : hts[p]? = some (hts.getD p 0) := by rw [List.getD_eq_getElem?_getD, List.getElem?_eq_getElem (by rw [hl]; exact hp)]; rfl
      constructor
      · intro e
        rw [hg] at e
        cases e
        exact hm
      · intro e
        by_cases q : ht = hts.getD p 0
        · rw [q]; exact hg
        · exact absurd ⟨_, _, _, hm, List.getElem?_eq_getElem hp, .inl ⟨ht, e, q⟩⟩ (hb p)
    · constructor
      · intro e; rw [List.getElem?_eq_none (by omega)] at e; cases e
      · intro e; have := e.bd hf; simp only at this; omega
end Go.Proofs.YtiknljilfpekfaaDoor
