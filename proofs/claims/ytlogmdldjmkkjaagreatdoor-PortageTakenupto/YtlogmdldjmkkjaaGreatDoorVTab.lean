/-
  The document's table of what is met.
-/
import Derived.Test.YtlogmdldjmkkjaaGreatDoorVFin
namespace Go.Proofs.YtlogmdldjmkkjaaGreatDoor
open Go.RowKit
set_option linter.unusedVariables false
set_option linter.unusedSimpArgs false
/-- A spot's place in the table. -/
def ixS (s : Spot) : Nat := s.1.toNat * 65 + s.2.toNat
def mkT (P : List Bool × Bool) (s : Spot) : List Bool × Bool := (P.1.set (ixS s) true, P.2 || !(P.1.getD (ixS s) false))
def cntT (L : List Bool) : Nat := L.count true
theorem cnt_set (L : List Bool) (i : Nat) (hi : i < L.length) : cntT (L.set i true) = cntT L + (if L.getD i false then 0 else 1) := by
  unfold cntT
  induction L generalizing i with
  | nil => simp at hi
  | cons b r ih =>
    cases i with
    | zero => cases b <;> simp
    | succ i =>
      have := ih i (by simpa using hi)
      simp only [List.set_cons_succ, List.count_cons, List.getD_cons_succ]
      rw [this]
      omega
theorem vcnt_le (L : List Bool) : cntT L ≤ L.length := List.count_le_length
theorem mkT_all (C : List Spot) : ∀ (P : List Bool × Bool), (∀ s ∈ C, ixS s < P.1.length) →
    (C.foldl mkT P).1.length = P.1.length ∧
    (∀ (i : Nat), P.1[i]? = some true → (C.foldl mkT P).1[i]? = some true) ∧
    (∀ (i : Nat), (C.foldl mkT P).1[i]? = some true → P.1[i]? = some true ∨ ∃ s ∈ C, ixS s = i) ∧
    (∀ s ∈ C, (C.foldl mkT P).1[ixS s]? = some true) ∧
    ((C.foldl mkT P).2 = false → P.2 = false ∧ (C.foldl mkT P).1 = P.1) ∧
    cntT P.1 ≤ cntT (C.foldl mkT P).1 ∧
    ((C.foldl mkT P).2 = true → P.2 = true ∨ cntT P.1 < cntT (C.foldl mkT P).1) := by
  induction C with
  | nil => intro P _; simp
  | cons s C ih =>
    intro P hb
    have hs := hb s (by simp)
    have hl : (mkT P s).1.length = P.1.length := by simp [mkT]
    obtain ⟨i1, i2, i3, i4, i5, i6, i7⟩ := ih (mkT P s) (fun t ht => by rw [hl]; exact hb t (by simp [ht]))
    have hset : (mkT P s).1 = P.1.set (ixS s) true := rfl
    have hc := cnt_set P.1 (ixS s) hs
    rw [List.foldl_cons]
    have mono : ∀ (i : Nat), P.1[i]? = some true → (mkT P s).1[i]? = some true := fun i h => by
      rw [hset]
      by_cases e : ixS s = i
      · subst e; rw [List.getElem?_set_self hs]
      · rw [List.getElem?_set_ne e]; exact h
    refine ⟨by rw [i1, hl], fun i h => i2 i (mono i h), fun i h => ?_, fun t ht => ?_, fun h => ?_, ?_, fun h => ?_⟩
    · rcases i3 i h with h | ⟨t, ht, e⟩
      · rw [hset] at h
        by_cases e : ixS s = i
        · exact .inr ⟨s, by simp, e⟩
        · rw [List.getElem?_set_ne e] at h; exact .inl h
      · exact .inr ⟨t, by simp [ht], e⟩
    · rcases List.mem_cons.1 ht with rfl | ht
      · exact i2 _ (by rw [hset, List.getElem?_set_self hs])
      · exact i4 t ht
    · obtain ⟨h1, h2⟩ := i5 h
      have h3 : (P.2 || !(P.1.getD (ixS s) false)) = false := h1
      rw [Bool.or_eq_false_iff] at h3
      refine ⟨h3.1, ?_⟩
      rw [h2, hset]
      have h4 : P.1.getD (ixS s) false = true := by simpa using h3.2
      rw [List.getD_eq_getElem?_getD, List.getElem?_eq_getElem hs] at h4
      simp only [Option.getD_some] at h4
      rw [← h4]
      exact List.set_getElem_self hs
    · rw [hset, hc] at i6; omega
    · rcases i7 h with h | h
      · have h3 : (P.2 || !(P.1.getD (ixS s) false)) = true := h
        rw [Bool.or_eq_true] at h3
        rcases h3 with h3 | h3
        · exact .inl h3
        · right
          have h4 : P.1.getD (ixS s) false = false := by simpa using h3
          rw [h4] at hc
          rw [hset, hc] at i6
          simp at i6
          omega
      · right; rw [hset, hc] at h; omega
/-- What the instruction at a place brings about, if it is met at a height. -/
def conS (f : Fc) (op a : Int) (p : Nat) (ht : Int) : List Spot := nx f.code.length op a p ht ++ (f.hs.filter (fun h => hol h p)).map tgt
theorem nx_h {N : Nat} {op a ht : Int} {p : Nat} {s : Spot} (hs : s ∈ nx N op a p ht) : s.2 ≤ 64 := by
  unfold nx at hs
  split at hs
  · simp at hs
  · rename_i hc
    rw [List.mem_append] at hs
    rcases hs with hs | hs
    · split at hs
      · simp at hs; subst hs; simp only; omega
      · simp at hs
    · split at hs
      · simp at hs; subst hs; simp only; omega
      · simp at hs
theorem Mt.h64 {f : Fc} (h : OkF f) {s : Spot} (hs : Mt f s) : s.2 ≤ 64 := by
  induction hs with
  | zero => simp
  | next _ hi hn _ => exact nx_h hn
  | hand _ hm _ _ => have := h.hd _ hm; unfold tgt; simp only; omega
theorem Mt.con {f : Fc} {p : Nat} {ht op a : Int} (hm : Mt f ((p : Int), ht)) (hi : f.code[p]? = some (op, a)) {s : Spot} (hs : s ∈ conS f op a p ht) : Mt f s := by
  unfold conS at hs
  rw [List.mem_append] at hs
  rcases hs with hs | hs
  · exact .next hm hi hs
  · obtain ⟨k, hk, rfl⟩ := List.mem_map.1 hs
    rw [List.mem_filter] at hk
    exact .hand hm hk.1 hk.2
theorem ix_lt {f : Fc} (h : OkF f) {s : Spot} (hs : Mt f s) : ixS s < f.code.length * 65 := by
  have h1 := hs.bd h
  have h2 := hs.h64 h
  unfold ixS
  have : s.1.toNat + 1 ≤ f.code.length := by omega
  have := Nat.mul_le_mul_right 65 this
  omega
theorem ix_back {f : Fc} (h : OkF f) {s : Spot} (hs : Mt f s) : s = (((ixS s / 65 : Nat) : Int), ((ixS s % 65 : Nat) : Int)) := by
  have h1 := hs.bd h
  have h2 := hs.h64 h
  obtain ⟨x, y⟩ := s
  simp only at h1 h2
  unfold ixS
  simp only
  have e1 : (x.toNat * 65 + y.toNat) / 65 = x.toNat := by omega
  have e2 : (x.toNat * 65 + y.toNat) % 65 = y.toNat := by omega
  rw [e1, e2]
  ext <;> simp <;> omega
/-- A table of what is met so far. -/
structure TbI (f : Fc) (L : List Bool) : Prop where
  len : L.length = f.code.length * 65
  snd : ∀ i, L[i]? = some true → Mt f (((i / 65 : Nat) : Int), ((i % 65 : Nat) : Int))
  st0 : L[0]? = some true
/-- All that this place of the table brings about is in it. -/
def ClA (f : Fc) (L : List Bool) (i : Nat) : Prop := L[i]? = some true → ∀ op a, f.code[i / 65]? = some (op, a) → ∀ s ∈ conS f op a (i / 65) ((i % 65 : Nat) : Int), L[ixS s]? = some true
theorem TbI.all {f : Fc} (hf : OkF f) {L : List Bool} (h : TbI f L) (hc : ∀ i, ClA f L i) {s : Spot} (hs : Mt f s) : L[ixS s]? = some true := by
  induction hs with
  | zero => exact h.st0
  | @next p ht op a s hm hi hn ih =>
    have hb := ix_back hf hm
    simp only [Prod.mk.injEq] at hb
    have e1 : ixS ((p : Int), ht) / 65 = p := by omega
    have := hc _ ih op a (by rw [e1]; exact hi) s
    rw [e1, ← hb.2] at this
    exact this (List.mem_append.2 (.inl hn))
  | @hand p ht k hm hk hh ih =>
    have hb := ix_back hf hm
    simp only [Prod.mk.injEq] at hb
    have e1 : ixS ((p : Int), ht) / 65 = p := by omega
    have hbd := hm.bd hf
    simp only at hbd
    obtain ⟨⟨op, a⟩, hi⟩ : ∃ q, f.code[p]? = some q := ⟨_, List.getElem?_eq_getElem (by omega)⟩
    have := hc _ ih op a (by rw [e1]; exact hi) (tgt k)
    rw [e1, ← hb.2] at this
    exact this (List.mem_append.2 (.inr (List.mem_map.2 ⟨k, List.mem_filter.2 ⟨hk, hh⟩, rfl⟩)))
/-- What meets leaves. -/
theorem TbI.meets {f : Fc} (hf : OkF f) {L : List Bool} (h : TbI f L) {i : Nat} (hi : L[i]? = some true) {op a : Int} (hc : f.code[i / 65]? = some (op, a)) :
    TbI f ((conS f op a (i / 65) ((i % 65 : Nat) : Int)).foldl mkT (L, false)).1 ∧ (∀ (j : Nat), L[j]? = some true → ((conS f op a (i / 65) ((i % 65 : Nat) : Int)).foldl mkT (L, false)).1[j]? = some true) ∧
    (((conS f op a (i / 65) ((i % 65 : Nat) : Int)).foldl mkT (L, false)).2 = false → ((conS f op a (i / 65) ((i % 65 : Nat) : Int)).foldl mkT (L, false)).1 = L ∧ ClA f L i) ∧
    cntT L ≤ cntT ((conS f op a (i / 65) ((i % 65 : Nat) : Int)).foldl mkT (L, false)).1 ∧
    (((conS f op a (i / 65) ((i % 65 : Nat) : Int)).foldl mkT (L, false)).2 = true → cntT L < cntT ((conS f op a (i / 65) ((i % 65 : Nat) : Int)).foldl mkT (L, false)).1) := by
  have hm := h.snd i hi
  have hb : ∀ s ∈ conS f op a (i / 65) ((i % 65 : Nat) : Int), ixS s < L.length := fun s hs => by rw [h.len]; exact ix_lt hf (hm.con hc hs)
  obtain ⟨j1, j2, j3, j4, j5, j6, j7⟩ := mkT_all _ (L, false) hb
  refine ⟨⟨by rw [j1]; exact h.len, fun k hk => ?_, j2 0 h.st0⟩, j2, fun e => ⟨(j5 e).2, ?_⟩, j6, fun e => (j7 e).elim (fun q => (by cases q)) id⟩
  · rcases j3 k hk with q | ⟨s, hs, rfl⟩
    · exact h.snd k q
    · have hs' := hm.con hc hs
      rw [← ix_back hf hs']
      exact hs'
  · intro _ op' a' hc' s hs
    rw [hc] at hc'
    cases hc'
    have := j4 s hs
    rw [(j5 e).2] at this
    exact this
/-- In the midst of a round, behind k places. -/
structure SwI (f : Fc) (L0 : List Bool) (k : Nat) (L : List Bool) (b : Bool) : Prop where
  tb : TbI f L
  no : b = false → L = L0 ∧ ∀ i, i < k → ClA f L0 i
  yes : b = true → cntT L0 < cntT L
  le : cntT L0 ≤ cntT L
theorem SwI.first {f : Fc} {L : List Bool} (h : TbI f L) : SwI f L 0 L false := ⟨h, fun _ => ⟨rfl, fun i hi => absurd hi (Nat.not_lt_zero i)⟩, fun e => (by cases e), Nat.le_refl _⟩
theorem SwI.skip {f : Fc} {L0 L : List Bool} {k : Nat} {b : Bool} (h : SwI f L0 k L b) (hk : L[k]? ≠ some true) : SwI f L0 (k + 1) L b := by
  refine ⟨h.tb, fun e => ⟨(h.no e).1, fun i hi => ?_⟩, h.yes, h.le⟩
  by_cases q : i = k
  · subst q
    intro hx
    rw [← (h.no e).1] at hx
    exact absurd hx hk
  · exact (h.no e).2 i (by omega)
theorem SwI.step {f : Fc} (hf : OkF f) {L0 L : List Bool} {k : Nat} {b : Bool} (h : SwI f L0 k L b) (hk : L[k]? = some true) {op a : Int} (hc : f.code[k / 65]? = some (op, a)) :
    SwI f L0 (k + 1) ((conS f op a (k / 65) ((k % 65 : Nat) : Int)).foldl mkT (L, false)).1 (b || ((conS f op a (k / 65) ((k % 65 : Nat) : Int)).foldl mkT (L, false)).2) := by
  obtain ⟨m1, m2, m3, m4, m5⟩ := h.tb.meets hf hk hc
  refine ⟨m1, fun e => ?_, fun e => ?_, Nat.le_trans h.le m4⟩
  · rw [Bool.or_eq_false_iff] at e
    obtain ⟨e1, e2⟩ := m3 e.2
    obtain ⟨e3, e4⟩ := h.no e.1
    refine ⟨e1.trans e3, fun i hi => ?_⟩
    by_cases q : i = k
    · subst q; rw [← e3]; exact e2
    · exact e4 i (by omega)
  · rw [Bool.or_eq_true] at e
    rcases e with e | e
    · exact Nat.lt_of_lt_of_le (h.yes e) m4
    · exact Nat.lt_of_le_of_lt h.le (m5 e)
/-- Between two rounds. -/
structure RdI (f : Fc) (r : Nat) (L : List Bool) (anew : Bool) : Prop where
  tb : TbI f L
  more : anew = true → r + 1 ≤ cntT L
  done : anew = false → ∀ i, ClA f L i
theorem SwI.round {f : Fc} {L0 L : List Bool} {b : Bool} {r : Nat} (h0 : r + 1 ≤ cntT L0) (h : SwI f L0 (f.code.length * 65) L b) : RdI f (r + 1) L b := by
  refine ⟨h.tb, fun e => by have := h.yes e; omega, fun e i => ?_⟩
  obtain ⟨e1, e2⟩ := h.no e
  by_cases q : i < f.code.length * 65
  · rw [e1]; exact e2 i q
  · intro hx
    have := (List.getElem?_eq_some_iff.1 hx).1
    rw [h.tb.len] at this
    omega
theorem RdI.bound {f : Fc} {r : Nat} {L : List Bool} (h : RdI f r L true) : r < L.length := by
  have := h.more rfl
  have := vcnt_le L
  omega
/-- The table of all that is met. -/
def TbM (f : Fc) (L : List Bool) : Prop := L.length = f.code.length * 65 ∧ ∀ (p h : Nat), p < f.code.length → h < 65 → (L[p * 65 + h]? = some true ↔ Mt f ((p : Int), (h : Int)))
theorem RdI.all {f : Fc} (hf : OkF f) {r : Nat} {L : List Bool} (h : RdI f r L false) : TbM f L := by
  refine ⟨h.tb.len, fun p k hp hk => ⟨fun e => ?_, fun e => ?_⟩⟩
  · have := h.tb.snd _ e
    have e1 : (p * 65 + k) / 65 = p := by omega
    have e2 : (p * 65 + k) % 65 = k := by omega
    rw [e1, e2] at this
    exact this
  · have := h.tb.all hf (h.done rfl) e
    unfold ixS at this
    simp only [Int.toNat_natCast] at this
    exact this
/-- The first table. -/
theorem RdI.first {f : Fc} (hf : OkF f) : RdI f 0 ((List.replicate (f.code.length * 65) false).set 0 true) true := by
  have h1 := hf.n1
  have hl : 0 < (List.replicate (f.code.length * 65) false).length := by rw [List.length_replicate]; omega
  refine ⟨⟨by simp, fun i hi => ?_, List.getElem?_set_self hl⟩, fun _ => ?_, fun e => (by cases e)⟩
  · by_cases q : 0 = i
    · subst q; exact .zero
    · rw [List.getElem?_set_ne q, List.getElem?_replicate] at hi
      split at hi <;> simp at hi
  · have hz : (List.replicate (f.code.length * 65) false).getD 0 false = false := by
      rw [List.getD_eq_getElem?_getD, List.getElem?_replicate]
      split <;> rfl
    rw [cnt_set _ _ hl, hz]
    simp
theorem flo_lt {hs : List Hd} {p x : Int} : x < flo hs p ↔ x < 0 ∨ ∃ h ∈ hs, hol h p = true ∧ x < h.height := by
  have key : ∀ (l : List Hd) (m : Int), x < l.foldl (fun a h => if h.frm ≤ p ∧ p < h.to then max a h.height else a) m ↔ x < m ∨ ∃ h ∈ l, hol h p = true ∧ x < h.height := by
    intro l
    induction l with
    | nil => intro m; simp
    | cons h l ih =>
      intro m
      rw [List.foldl_cons, ih]
      by_cases q : h.frm ≤ p ∧ p < h.to
      · rw [if_pos q]
        have hh : hol h p = true := by simpa [hol] using q
        constructor
        · rintro (e | ⟨k, hk, e⟩)
          · by_cases e2 : x < m
            · exact .inl e2
            · exact .inr ⟨h, by simp, hh, by omega⟩
          · exact .inr ⟨k, by simp [hk], e⟩
        · rintro (e | ⟨k, hk, e1, e2⟩)
          · left; omega
          · rcases List.mem_cons.1 hk with rfl | hk
            · left; omega
            · exact .inr ⟨k, hk, e1, e2⟩
      · rw [if_neg q]
        have hh : hol h p = false := by simpa [hol] using q
        constructor
        · rintro (e | ⟨k, hk, e⟩)
          · exact .inl e
          · exact .inr ⟨k, by simp [hk], e⟩
        · rintro (e | ⟨k, hk, e1, e2⟩)
          · exact .inl e
          · rcases List.mem_cons.1 hk with rfl | hk
            · rw [hh] at e1; cases e1
            · exact .inr ⟨k, hk, e1, e2⟩
  exact key hs 0
/-- At this height the instruction does not fit. -/
def WrH (f : Fc) (op a : Int) (p : Nat) (h : Int) : Prop := h < tkI op a ∨ 65 ≤ h - tkI op a + ptI op a ∨ ∃ k ∈ f.hs, hol k p = true ∧ h - tkI op a < k.height
theorem badM_iff {f : Fc} (hf : OkF f) {p : Nat} {op a : Int} (hi : f.code[p]? = some (op, a)) : BadM f p ↔ (∃ h : Nat, h < 65 ∧ Mt f ((p : Int), (h : Int)) ∧ WrH f op a p h) ∨ ∃ h1 h2 : Nat, h1 < h2 ∧ h2 < 65 ∧ Mt f ((p : Int), (h1 : Int)) ∧ Mt f ((p : Int), (h2 : Int)) := by
  have nat : ∀ ht, Mt f ((p : Int), ht) → ∃ h : Nat, ht = (h : Int) ∧ h < 65 := fun ht hm => by
    have h1 := hm.bd hf
    have h2 := hm.h64 hf
    simp only at h1 h2
    exact ⟨ht.toNat, by omega, by omega⟩
  constructor
  · rintro ⟨ht, op', a', hm, hi', hb⟩
    rw [hi] at hi'
    cases hi'
    obtain ⟨h, rfl, hh⟩ := nat ht hm
    rcases hb with ⟨h2, hm2, hne⟩ | hb | hb
    · obtain ⟨h', rfl, hh'⟩ := nat h2 hm2
      rcases Nat.lt_or_gt_of_ne (fun e => hne (by rw [e]) : h' ≠ h) with q | q
      · exact .inr ⟨h', h, q, hh, hm2, hm⟩
      · exact .inr ⟨h, h', q, hh', hm, hm2⟩
    · left
      refine ⟨h, hh, hm, ?_⟩
      rcases flo_lt.1 hb with q | q
      · exact .inl (by omega)
      · exact .inr (.inr q)
    · exact .inl ⟨h, hh, hm, .inr (.inl (by omega))⟩
  · rintro (⟨h, hh, hm, hw⟩ | ⟨h1, h2, hlt, hh, hm1, hm2⟩)
    · refine ⟨h, op, a, hm, hi, ?_⟩
      rcases hw with q | q | q
      · exact .inr (.inl (flo_lt.2 (.inl (by omega))))
      · exact .inr (.inr (by omega))
      · exact .inr (.inl (flo_lt.2 (.inr q)))
    · exact ⟨h1, op, a, hm1, hi, .inl ⟨h2, hm2, by omega⟩⟩
theorem FnR.uniq {f : Fc} {hv hv' : Option (List Int)} {pl er pl' er' : Int} (h : FnR f hv pl er) (h' : FnR f hv' pl' er') : hv = hv' ∧ pl = pl' ∧ er = er' := by
  have lst : ∀ {P : Nat → Prop} {p q : Nat}, P p → (∀ r, r < p → ¬ P r) → P q → (∀ r, r < q → ¬ P r) → p = q := fun {P p q} a b c d => by
    rcases Nat.lt_trichotomy p q with e | e | e
    · exact absurd a (d p e)
    · exact e
    · exact absurd c (b q e)
  rcases h with ⟨e1, e2, p, e3, hb, hl⟩ | ⟨e1, e2, hb, p, e3, hu, hl⟩ | ⟨e1, e2, hb, hu, l, e3, hl, ha⟩
  · rcases h' with ⟨d1, d2, q, d3, hb', hl'⟩ | ⟨d1, d2, hb', _⟩ | ⟨d1, d2, hb', _⟩
    · have := lst hb hl hb' hl'
      subst this
      exact ⟨by rw [e2, d2], by rw [e3, d3], by rw [e1, d1]⟩
    · exact absurd hb (hb' p)
    · exact absurd hb (hb' p)
  · rcases h' with ⟨d1, d2, q, d3, hb', hl'⟩ | ⟨d1, d2, hb', q, d3, hu', hl'⟩ | ⟨d1, d2, hb', hu', _⟩
    · exact absurd hb' (hb q)
    · have := lst hu hl hu' hl'
      subst this
      exact ⟨by rw [e2, d2], by rw [e3, d3], by rw [e1, d1]⟩
    · exact absurd hu (hu' p)
  · rcases h' with ⟨d1, d2, q, d3, hb', hl'⟩ | ⟨d1, d2, hb', q, d3, hu', hl'⟩ | ⟨d1, d2, hb', hu', l', d3, hl', ha'⟩
    · exact absurd hb' (hb q)
    · exact absurd hu' (hu q)
    · refine ⟨?_, by rw [e2, d2], by rw [e1, d1]⟩
      rw [e3, d3]
      congr 1
      apply List.ext_getElem?
      intro i
      cases q : l[i]? with
      | none =>
        cases q' : l'[i]? with
        | none => rfl
        | some y => rw [(ha i y).2 ((ha' i y).1 q')] at q; cases q
      | some x => exact ((ha' i x).2 ((ha i x).1 q)).symm
end Go.Proofs.YtlogmdldjmkkjaaGreatDoor
