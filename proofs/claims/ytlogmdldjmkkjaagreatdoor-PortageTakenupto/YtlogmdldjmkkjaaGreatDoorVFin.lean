/-
  What is found of a function.
-/
import Derived.Test.YtlogmdldjmkkjaaGreatDoorVNx
namespace Go.Proofs.YtlogmdldjmkkjaaGreatDoor
open Go.RowKit
set_option linter.unusedVariables false
set_option linter.unusedSimpArgs false
/-- Met, by the document's three rules. -/
inductive Mt (f : Fc) : Spot → Prop
  | zero : Mt f (0, 0)
  | next {p : Nat} {ht op a : Int} {s : Spot} : Mt f ((p : Int), ht) → f.code[p]? = some (op, a) → s ∈ nx f.code.length op a p ht → Mt f s
  | hand {p : Nat} {ht : Int} {h : Hd} : Mt f ((p : Int), ht) → h ∈ f.hs → hol h p = true → Mt f (tgt h)
/-- A function that Check has let through. -/
structure OkF (f : Fc) : Prop where
  n1 : 1 ≤ f.code.length
  nm : f.code.length ≤ 2000
  hm : f.hs.length ≤ 1000
  ins : ∀ (p : Nat) (op a : Int), f.code[p]? = some (op, a) → okB op a = true ∧ (jmB op = true → 0 ≤ a ∧ a < (f.code.length : Int))
  hd : ∀ h ∈ f.hs, 0 ≤ h.frm ∧ h.frm ≤ h.to ∧ h.to ≤ (f.code.length : Int) ∧ 0 ≤ h.target ∧ h.target < (f.code.length : Int) ∧ 0 ≤ h.height ∧ h.height < 64
theorem nx_bd {f : Fc} (h : OkF f) {p : Nat} {op a ht : Int} (hi : f.code[p]? = some (op, a)) {s : Spot} (hs : s ∈ nx f.code.length op a p ht) : 0 ≤ s.1 ∧ s.1 < (f.code.length : Int) ∧ 0 ≤ s.2 ∧ s.2 ≤ 1000 := by
  obtain ⟨ho, hj⟩ := h.ins p op a hi
  have hb := tp_bounds ho
  unfold nx at hs
  split at hs
  · simp at hs
  · rename_i hc
    rw [List.mem_append] at hs
    rcases hs with hs | hs
    · split at hs
      · rename_i hjm
        have := hj hjm
        simp at hs
        subst hs
        simp only
        omega
      · simp at hs
    · split at hs
      · rename_i he
        simp at hs
        subst hs
        have := he.2
        simp only
        omega
      · simp at hs
theorem Mt.bd {f : Fc} (h : OkF f) {s : Spot} (hs : Mt f s) : 0 ≤ s.1 ∧ s.1 < (f.code.length : Int) ∧ 0 ≤ s.2 ∧ s.2 ≤ 1000 := by
  have h1 := h.n1
  induction hs with
  | zero => simp only; omega
  | next _ hi hn _ => exact nx_bd h hi hn
  | hand _ hm _ _ => have := h.hd _ hm; unfold tgt; simp only; omega
/-- Processed. -/
def Pd (A : Sa) (s : Spot) : Prop := s ∈ A.met ∧ s ∉ A.left
/-- At this spot the stack does not fit. -/
def Bad (f : Fc) (fl : List Int) (hts : List Int) (p : Nat) (ht : Int) : Prop := ∃ hv fv op a, hts[p]? = some hv ∧ fl[p]? = some fv ∧ f.code[p]? = some (op, a) ∧ (ht ≠ hv ∨ ht - tkI op a < fv ∨ 64 < ht - tkI op a + ptI op a)
structure Iv (f : Fc) (fl : List Int) (A : Sa) : Prop where
  nd : A.met.Nodup
  ndl : A.left.Nodup
  sub : ∀ s ∈ A.left, s ∈ A.met
  snd : ∀ s ∈ A.met, Mt f s
  len : A.hts.length = f.code.length
  st0 : ((0, 0) : Spot) ∈ A.met
  h1 : ∀ (p : Nat) (h : Int), A.hts[p]? = some h → h ≠ -1 → Pd A ((p : Int), h)
  h2 : ∀ (p : Nat) (ht : Int), Pd A ((p : Int), ht) → ∃ h, A.hts[p]? = some h ∧ h ≠ -1
  cl : ∀ (p : Nat) (ht op a : Int), Pd A ((p : Int), ht) → f.code[p]? = some (op, a) → ∀ s ∈ nx f.code.length op a p ht, s ∈ A.met
  cw : ∀ (p : Nat) (h : Int), A.hts[p]? = some h → h ≠ -1 → ∀ k ∈ f.hs, hol k p = true → tgt k ∈ A.met
  idd : ∀ k ∈ f.hs, k ∈ A.idle ∨ tgt k ∈ A.met
  ids : ∀ k ∈ A.idle, k ∈ f.hs
  w1 : ∀ (p : Nat) (ht : Int), Pd A ((p : Int), ht) → Bad f fl A.hts p ht → A.wr ≤ (p : Int)
  w2 : A.wr = (f.code.length : Int) ∨ ∃ (p : Nat) (ht : Int), Pd A ((p : Int), ht) ∧ Bad f fl A.hts p ht ∧ A.wr = (p : Int)
  w3 : A.wr ≤ (f.code.length : Int)
/-- How much is left to do. -/
def mu (f : Fc) (A : Sa) : Nat := f.code.length * 1001 + A.left.length - A.met.length
theorem Iv.len_le {f : Fc} {fl : List Int} {A : Sa} (h : Iv f fl A) (hf : OkF f) : A.met.length ≤ f.code.length * 1001 := spots_le h.nd (fun s hs => (h.snd s hs).bd hf)
theorem Iv.left_le {f : Fc} {fl : List Int} {A : Sa} (h : Iv f fl A) (hf : OkF f) : A.left.length ≤ f.code.length * 1001 := spots_le h.ndl (fun s hs => (h.snd s (h.sub s hs)).bd hf)
theorem Iv.first {f : Fc} (hf : OkF f) (fl : List Int) : Iv f fl ⟨f.hs, List.replicate f.code.length (-1), f.code.length, mtM [] (0, 0), mtL [] [] (0, 0)⟩ := by
  have e1 : mtM [] ((0, 0) : Spot) = [(0, 0)] := by unfold mtM; simp
  have e2 : mtL [] [] ((0, 0) : Spot) = [(0, 0)] := by unfold mtL; simp
  have hr : ∀ (p : Nat) (h : Int), (List.replicate f.code.length (-1 : Int))[p]? = some h → h = -1 := fun p h e => by
    rw [List.getElem?_replicate] at e
    split at e
    · exact (Option.some.inj e).symm
    · cases e
  have np : ∀ s, ¬ Pd ⟨f.hs, List.replicate f.code.length (-1), f.code.length, mtM [] (0, 0), mtL [] [] (0, 0)⟩ s := fun s h => by
    have h1 := h.1; have h2 := h.2
    simp only [e1, e2] at h1 h2
    exact h2 h1
  refine ⟨?_, ?_, ?_, ?_, by simp, ?_, fun p h e hne => absurd (hr p h e) hne, fun p ht h => absurd h (np _), fun p ht op a h => absurd h (np _), fun p h e hne => absurd (hr p h e) hne, fun k hk => .inl hk, fun k hk => hk, fun p ht h => absurd h (np _), .inl rfl, Int.le_refl _⟩
  · simp only [e1]; simp
  · simp only [e2]; simp
  · simp only [e1, e2]; exact fun s h => h
  · simp only [e1]; intro s hs; simp at hs; subst hs; exact .zero
  · simp only [e1]; simp
theorem idl_mem {pc : Int} {hs : List Hd} {k : Hd} : k ∈ idl pc hs ↔ k ∈ hs ∧ hol k pc = false := by
  unfold idl; rw [List.mem_filter]; simp
set_option maxHeartbeats 1000000 in
theorem Iv.step {f : Fc} (hf : OkF f) {fl : List Int} (hfl : fl.length = f.code.length) {A : Sa} (h : Iv f fl A) {l : List Spot} {s : Spot} (hl : A.left = l ++ [s]) :
    ∃ (p : Nat) (op a fv : Int), s.1 = (p : Int) ∧ Sp f fl (Iv f fl) (mu f) A l p s.2 op a fv := by
  have hsl : s ∈ A.left := by rw [hl]; simp
  have hsm := h.sub s hsl
  have hbd := (h.snd s hsm).bd hf
  obtain ⟨s1, ht⟩ := s
  simp only at hbd
  obtain ⟨p, rfl⟩ : ∃ p : Nat, s1 = (p : Int) := ⟨s1.toNat, by omega⟩
  have hp : p < f.code.length := by omega
  obtain ⟨⟨op, a⟩, hi⟩ : ∃ q, f.code[p]? = some q := ⟨_, List.getElem?_eq_getElem hp⟩
  obtain ⟨fv, hfv⟩ : ∃ q, fl[p]? = some q := ⟨_, List.getElem?_eq_getElem (by omega)⟩
  obtain ⟨hok, hja⟩ := hf.ins p op a hi
  have hnm := hf.nm
  have hlen := h.len_le hf
  have hlen2 := h.left_le hf
  refine ⟨p, op, a, fv, rfl, hi, hok, fun q => by have := hja q; omega, hfv, hbd.2.2.1, hbd.2.2.2, by omega, by omega, fun hv hhv => ?_⟩
  obtain ⟨D, hD⟩ : ∃ D, D = goo f.code.length p ht hv fv op a (wak p ht { A with left := l }) := ⟨_, rfl⟩
  have hml := step_ml f.code.length A l p ht op a hv fv
  rw [← hD] at hml ⊢
  have em : D.met = ((adds f.code.length A p ht op a).foldl mts (A.met, l)).1 := by rw [← hml]
  have el : D.left = ((adds f.code.length A p ht op a).foldl mts (A.met, l)).2 := by rw [← hml]
  have hmm : ∀ t, t ∈ D.met ↔ t ∈ A.met ∨ t ∈ adds f.code.length A p ht op a := fun t => by rw [em, mts_mem]
  have hll : ∀ t, t ∈ D.left ↔ t ∈ l ∨ (t ∈ adds f.code.length A p ht op a ∧ t ∉ A.met) := fun t => by rw [el, mts_left]
  have ndA := h.ndl
  rw [hl, List.nodup_append] at ndA
  have hsnl : ((p : Int), ht) ∉ l := fun q => ndA.2.2 _ q _ (by simp) rfl
  have lsub : ∀ t ∈ l, t ∈ A.met := fun t ht' => h.sub t (by rw [hl]; simp [ht'])
  have hnd := mts_nodup (adds f.code.length A p ht op a) (A.met, l) h.nd ndA.1 lsub
  rw [← em, ← el] at hnd
  have hln := mts_length (adds f.code.length A p ht op a) (A.met, l)
  rw [← em, ← el] at hln
  have hAl : A.left.length = l.length + 1 := by rw [hl]; simp
  -- processed
  have hpd : ∀ t, Pd D t ↔ t = ((p : Int), ht) ∨ Pd A t := fun t => by
    unfold Pd
    rw [hmm, hll, hl]
    simp only [List.mem_append, List.mem_cons, List.not_mem_nil, or_false]
    constructor
    · rintro ⟨h1 | h1, h2⟩
      · by_cases q : t = ((p : Int), ht)
        · exact .inl q
        · exact .inr ⟨h1, fun k => k.elim (fun k => h2 (.inl k)) q⟩
      · by_cases q : t ∈ A.met
        · by_cases q2 : t = ((p : Int), ht)
          · exact .inl q2
          · exact .inr ⟨q, fun k => k.elim (fun k => h2 (.inl k)) q2⟩
        · exact absurd (.inr ⟨h1, q⟩) h2
    · rintro (rfl | ⟨h1, h2⟩)
      · exact ⟨.inl hsm, fun k => k.elim hsnl (fun k => k.2 hsm)⟩
      · exact ⟨.inl h1, fun k => k.elim (fun k => h2 (.inl k)) (fun k => k.2 h1)⟩
  -- the heights
  have hhts : D.hts = if A.hts[p]? = some (-1) then A.hts.set p ht else A.hts := by
    rw [hD]; unfold goo wak; simp only; split <;> rfl
  have hidle : D.idle = if A.hts[p]? = some (-1) then idl p A.idle else A.idle := by
    rw [hD]; unfold goo wak; simp only; split <;> rfl
  have hwr : D.wr = nwr A.wr p ht hv fv op a := by
    rw [hD]; unfold goo wak; simp only; split <;> rfl
  have hhv : D.hts[p]? = some hv := by
    rw [hD]; exact hhv
  have hht0 : ht ≠ -1 := by omega
  have hvne : hv ≠ -1 := by
    rw [hhts] at hhv
    split at hhv
    · rw [List.getElem?_set_self (by rw [h.len]; exact hp)] at hhv
      exact fun e => hht0 (by rw [Option.some.inj hhv]; exact e)
    · rename_i q
      exact fun e => q (by rw [hhv, e])
  -- elsewhere the same
  have hel : ∀ (q : Nat) (z : Int), D.hts[q]? = some z → A.hts[q]? = some z ∨ (A.hts[p]? = some (-1) ∧ q = p ∧ z = ht) := fun q z hz => by
    rw [hhts] at hz
    split at hz
    · rename_i e
      by_cases hq : q = p
      · subst hq
        rw [List.getElem?_set_self (by rw [h.len]; exact hp)] at hz
        exact .inr ⟨e, rfl, (Option.some.inj hz).symm⟩
      · rw [List.getElem?_set_ne (by omega)] at hz
        exact .inl hz
    · exact .inl hz
  have hel2 : ∀ (q : Nat) (z : Int), A.hts[q]? = some z → z ≠ -1 → D.hts[q]? = some z := fun q z hz hne => by
    rw [hhts]
    split
    · rename_i e
      by_cases hq : q = p
      · subst hq
        rw [hz] at e
        exact absurd (Option.some.inj e) hne
      · rw [List.getElem?_set_ne (by omega)]
        exact hz
    · exact hz
  -- Bad is the same for what was processed
  have hbadA : ∀ (q : Nat) (z : Int), Pd A ((q : Int), z) → (Bad f fl D.hts q z ↔ Bad f fl A.hts q z) := fun q z hq => by
    obtain ⟨y, hy, hyn⟩ := h.h2 q z hq
    have hy2 := hel2 q y hy hyn
    unfold Bad
    constructor
    · rintro ⟨y', fv', op', a', h1, h2⟩
      exact ⟨y', fv', op', a', by rw [hy2] at h1; rw [hy]; exact h1, h2⟩
    · rintro ⟨y', fv', op', a', h1, h2⟩
      exact ⟨y', fv', op', a', by rw [hy] at h1; rw [hy2]; exact h1, h2⟩
  have hbadN : Bad f fl D.hts p ht ↔ (ht ≠ hv ∨ ht - tkI op a < fv ∨ 64 < ht - tkI op a + ptI op a) := by
    unfold Bad
    constructor
    · rintro ⟨y', fv', op', a', h1, h2, h3, h4⟩
      rw [hhv] at h1; rw [hfv] at h2; rw [hi] at h3
      cases h1; cases h2; cases h3
      exact h4
    · exact fun q => ⟨hv, fv, op, a, hhv, hfv, hi, q⟩
  haveI := Classical.propDecidable (Bad f fl D.hts p ht)
  have hnw : D.wr = if Bad f fl D.hts p ht then min A.wr p else A.wr := by
    rw [hwr]; unfold nwr
    by_cases q : (ht ≠ hv ∨ ht - tkI op a < fv ∨ 64 < ht - tkI op a + ptI op a)
    · rw [if_pos q, if_pos (hbadN.2 q)]
    · rw [if_neg q, if_neg (fun k => q (hbadN.1 k))]
  have hmtp : Mt f ((p : Int), ht) := h.snd _ hsm
  refine ⟨⟨hnd.1, hnd.2, fun t ht' => ?_, fun t ht' => ?_, ?_, (hmm _).2 (.inl h.st0), fun q z hz hne => ?_, fun q z hq => ?_, fun q z op' a' hq hc t ht' => ?_, fun q z hz hne k hk hh => ?_, fun k hk => ?_, fun k hk => ?_, fun q z hq hb => ?_, ?_, ?_⟩, ?_⟩
  · rw [hmm]
    exact ((hll t).1 ht').elim (fun q => .inl (lsub t q)) (fun q => .inr q.1)
  · rcases (hmm t).1 ht' with q | q
    · exact h.snd t q
    · unfold adds at q
      rw [List.mem_append] at q
      rcases q with q | q
      · split at q
        · obtain ⟨k, hk, rfl⟩ := List.mem_map.1 q
          rw [List.mem_filter] at hk
          exact .hand hmtp (h.ids k hk.1) hk.2
        · simp at q
      · exact .next hmtp hi q
  · rw [hhts]; split
    · rw [List.length_set]; exact h.len
    · exact h.len
  · rw [hpd]
    rcases hel q z hz with e | ⟨_, rfl, rfl⟩
    · exact .inr (h.h1 q z e hne)
    · exact .inl rfl
  · rcases (hpd _).1 hq with e | e
    · have e1 : (q : Int) = (p : Int) := congrArg Prod.fst e
      have e2 : q = p := by omega
      subst e2
      exact ⟨hv, hhv, hvne⟩
    · obtain ⟨y, hy, hyn⟩ := h.h2 q z e
      exact ⟨y, hel2 q y hy hyn, hyn⟩
  · rw [hmm]
    rcases (hpd _).1 hq with e | e
    · have e1 : (q : Int) = (p : Int) := congrArg Prod.fst e
      have e2 : q = p := by omega
      have e3 : z = ht := congrArg Prod.snd e
      subst e2 e3
      rw [hi] at hc
      cases hc
      right
      unfold adds
      exact List.mem_append.2 (.inr ht')
    · exact .inl (h.cl q z op' a' e hc t ht')
  · rw [hmm]
    rcases hel q z hz with e | ⟨e, rfl, rfl⟩
    · exact .inl (h.cw q z e hne k hk hh)
    · rcases h.idd k hk with e2 | e2
      · right
        unfold adds
        rw [if_pos e]
        exact List.mem_append.2 (.inl (List.mem_map.2 ⟨k, List.mem_filter.2 ⟨e2, hh⟩, rfl⟩))
      · exact .inl e2
  · rw [hidle]
    rcases h.idd k hk with e2 | e2
    · split
      · rename_i e
        by_cases hh : hol k p = true
        · right
          rw [hmm]
          right
          unfold adds
          rw [if_pos e]
          exact List.mem_append.2 (.inl (List.mem_map.2 ⟨k, List.mem_filter.2 ⟨e2, hh⟩, rfl⟩))
        · exact .inl (idl_mem.2 ⟨e2, by simpa using hh⟩)
      · exact .inl e2
    · exact .inr ((hmm _).2 (.inl e2))
  · rw [hidle] at hk
    split at hk
    · exact h.ids k (idl_mem.1 hk).1
    · exact h.ids k hk
  · rw [hnw]
    rcases (hpd _).1 hq with e | e
    · have e1 : (q : Int) = (p : Int) := congrArg Prod.fst e
      have e2 : q = p := by omega
      have e3 : z = ht := congrArg Prod.snd e
      subst e2 e3
      rw [if_pos hb]
      omega
    · have := h.w1 q z e ((hbadA q z e).1 hb)
      split <;> omega
  · rw [hnw]
    split
    · rename_i hb
      by_cases hle : A.wr ≤ (p : Int)
      · rw [show min A.wr (p : Int) = A.wr by omega]
        rcases h.w2 with e | ⟨q, z, h1, h2, h3⟩
        · have := h.w3
          omega
        · exact .inr ⟨q, z, (hpd _).2 (.inr h1), (hbadA q z h1).2 h2, h3⟩
      · rw [show min A.wr (p : Int) = (p : Int) by omega]
        exact .inr ⟨p, ht, (hpd _).2 (.inl rfl), hb, rfl⟩
    · rcases h.w2 with e | ⟨q, z, h1, h2, h3⟩
      · exact .inl e
      · exact .inr ⟨q, z, (hpd _).2 (.inr h1), (hbadA q z h1).2 h2, h3⟩
  · rw [hnw]
    have := h.w3
    split <;> omega
  · unfold mu
    simp only at hln
    omega

set_option linter.unusedVariables false
set_option linter.unusedSimpArgs false
/-- Wrong by the heights at an instruction. -/
def BadM (f : Fc) (p : Nat) : Prop := ∃ ht op a, Mt f ((p : Int), ht) ∧ f.code[p]? = some (op, a) ∧ ((∃ h2, Mt f ((p : Int), h2) ∧ h2 ≠ ht) ∨ ht - tkI op a < flo f.hs (p : Int) ∨ 64 < ht - tkI op a + ptI op a)
/-- Wrong by no way. -/
def Un (f : Fc) (p : Nat) : Prop := ∃ op a, f.code[p]? = some (op, a) ∧ ((∀ ht, ¬ Mt f ((p : Int), ht)) ∨ (p + 1 = f.code.length ∧ enB op = false))
/-- What is found of a function. -/
def FnR (f : Fc) (hv : Option (List Int)) (pl er : Int) : Prop :=
  (er = 9 ∧ hv = none ∧ ∃ p : Nat, pl = (p : Int) ∧ BadM f p ∧ ∀ q, q < p → ¬ BadM f q) ∨
  (er = 10 ∧ hv = none ∧ (∀ q, ¬ BadM f q) ∧ ∃ p : Nat, pl = (p : Int) ∧ Un f p ∧ ∀ q, q < p → ¬ Un f q) ∨
  (er = 0 ∧ pl = 0 ∧ (∀ q, ¬ BadM f q) ∧ (∀ q, ¬ Un f q) ∧ ∃ hts, hv = some hts ∧ hts.length = f.code.length ∧ ∀ (p : Nat) ht, hts[p]? = some ht ↔ Mt f ((p : Int), ht))
theorem fls_at {n p : Nat} {hs : List Hd} {v : Int} (h : (fls n hs)[p]? = some v) : v = flo hs (p : Int) := by
  unfold fls at h
  rw [List.getElem?_map] at h
  by_cases hp : p < n
  · rw [List.getElem?_range hp] at h
    exact (Option.some.inj h).symm
  · rw [List.getElem?_eq_none (by simp; omega)] at h
    cases h
theorem fls_len (n : Nat) (hs : List Hd) : (fls n hs).length = n := by simp [fls]
section
variable {f : Fc} {A : Sa}
theorem Iv.all {fl : List Int} (h : Iv f fl A) (hl : A.left = []) {s : Spot} : s ∈ A.met ↔ Mt f s := by
  have pd : ∀ t, t ∈ A.met → Pd A t := fun t q => ⟨q, by rw [hl]; simp⟩
  refine ⟨h.snd s, fun q => ?_⟩
  induction q with
  | zero => exact h.st0
  | next _ hi hn ih => exact h.cl _ _ _ _ (pd _ ih) hi _ hn
  | hand _ hm hh ih =>
    obtain ⟨y, hy, hyn⟩ := h.h2 _ _ (pd _ ih)
    exact h.cw _ y hy hyn _ hm hh
theorem Iv.badM (hf : OkF f) (h : Iv f (fls f.code.length f.hs) A) (hl : A.left = []) (p : Nat) : BadM f p ↔ ∃ ht, Pd A ((p : Int), ht) ∧ Bad f (fls f.code.length f.hs) A.hts p ht := by
  have pd : ∀ t, Mt f t → Pd A t := fun t q => ⟨(h.all hl).2 q, by rw [hl]; simp⟩
  constructor
  · rintro ⟨ht, op, a, hm, hi, hb⟩
    have hp : p < f.code.length := (List.getElem?_eq_some_iff.1 hi).1
    obtain ⟨y, hy, hyn⟩ := h.h2 _ _ (pd _ hm)
    obtain ⟨fv, hfv⟩ : ∃ q, (fls f.code.length f.hs)[p]? = some q := ⟨_, List.getElem?_eq_getElem (by rw [fls_len]; exact hp)⟩
    have ef := fls_at hfv
    rcases hb with ⟨h2, hm2, hne⟩ | hb
    · by_cases e : ht = y
      · exact ⟨h2, pd _ hm2, y, fv, op, a, hy, hfv, hi, .inl (by omega)⟩
      · exact ⟨ht, pd _ hm, y, fv, op, a, hy, hfv, hi, .inl e⟩
    · exact ⟨ht, pd _ hm, y, fv, op, a, hy, hfv, hi, .inr (by rw [ef]; exact hb)⟩
  · rintro ⟨ht, hpd, hv, fv, op, a, h1, h2, h3, h4⟩
    have hm := h.snd _ hpd.1
    obtain ⟨y, hy, hyn⟩ := h.h2 _ _ hpd
    rw [h1] at hy
    cases hy
    refine ⟨ht, op, a, hm, h3, ?_⟩
    rcases h4 with h4 | h4
    · exact .inl ⟨hv, h.snd _ (h.h1 p hv h1 hyn).1, fun e => h4 e.symm⟩
    · rw [fls_at h2] at h4
      exact .inr h4
theorem Iv.wrong (hf : OkF f) (h : Iv f (fls f.code.length f.hs) A) (hl : A.left = []) :
    (A.wr = (f.code.length : Int) ∧ ∀ q, ¬ BadM f q) ∨ ∃ p : Nat, A.wr = (p : Int) ∧ p < f.code.length ∧ BadM f p ∧ ∀ q, q < p → ¬ BadM f q := by
  have lt : ∀ q, BadM f q → q < f.code.length := fun q ⟨_, _, _, _, hi, _⟩ => (List.getElem?_eq_some_iff.1 hi).1
  have le : ∀ q, BadM f q → A.wr ≤ (q : Int) := fun q hq => by
    obtain ⟨ht, h1, h2⟩ := (h.badM hf hl q).1 hq
    exact h.w1 q ht h1 h2
  rcases h.w2 with e | ⟨p, ht, h1, h2, h3⟩
  · exact .inl ⟨e, fun q hq => by have := le q hq; have := lt q hq; omega⟩
  · have hb := (h.badM hf hl p).2 ⟨ht, h1, h2⟩
    exact .inr ⟨p, h3, lt p hb, hb, fun q hq hqb => by have := le q hqb; omega⟩
theorem Iv.hts_iff (hf : OkF f) {fl : List Int} (h : Iv f fl A) (hl : A.left = []) {p : Nat} (hp : p < f.code.length) : A.hts[p]? = some (-1) ↔ ∀ ht, ¬ Mt f ((p : Int), ht) := by
  obtain ⟨y, hy⟩ : ∃ q, A.hts[p]? = some q := ⟨_, List.getElem?_eq_getElem (by rw [h.len]; exact hp)⟩
  constructor
  · intro e ht hm
    obtain ⟨z, hz, hzn⟩ := h.h2 p ht ⟨(h.all hl).2 hm, by rw [hl]; simp⟩
    rw [e] at hz
    exact hzn (Option.some.inj hz).symm
  · intro hn
    by_cases e : y = -1
    · rw [hy, e]
    · exact absurd (h.snd _ (h.h1 p y hy e).1) (hn y)
/-- All fits: the heights are those at which the instructions are met. -/
theorem Iv.heights (hf : OkF f) (h : Iv f (fls f.code.length f.hs) A) (hl : A.left = []) (hb : ∀ q, ¬ BadM f q) (hn : ∀ (p : Nat) y, A.hts[p]? = some y → y ≠ -1) (p : Nat) (ht : Int) : A.hts[p]? = some ht ↔ Mt f ((p : Int), ht) := by
  constructor
  · intro e
    exact h.snd _ (h.h1 p ht e (hn p ht e)).1
  · intro hm
    have hbd := hm.bd hf
    simp only at hbd
    have hp : p < f.code.length := by omega
    obtain ⟨y, hy⟩ : ∃ q, A.hts[p]? = some q := ⟨_, List.getElem?_eq_getElem (by rw [h.len]; exact hp)⟩
    obtain ⟨⟨op, a⟩, hi⟩ : ∃ q, f.code[p]? = some q := ⟨_, List.getElem?_eq_getElem hp⟩
    have hmy := h.snd _ (h.h1 p y hy (hn p y hy)).1
    by_cases e : y = ht
    · rw [hy, e]
    · exact absurd ⟨ht, op, a, hm, hi, .inl ⟨y, hmy, e⟩⟩ (hb p)
end
end Go.Proofs.YtlogmdldjmkkjaaGreatDoor
