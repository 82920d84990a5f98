/-
  Load: what it answers.
-/
import Derived.Test.YtpfogphpeegfdaaGreatDoorVFin
import Derived.Test.YtpfogphpeegfdaaGreatDoorVOkf
import Derived.Test.YtpfogphpeegfdaaGreatDoorVPrg
import Derived.Test.YtpfogphpeegfdaaGreatDoorDDe
import Derived.Test.YtpfogphpeegfdaaGreatDoorSh1
namespace Go.Proofs.YtpfogphpeegfdaaGreatDoor
open Go.RowKit
set_option linter.unusedVariables false
set_option linter.unusedSimpArgs false
/-- A spot's place in the table. -/
def ixS (s : Spot) : Nat := s.1.toNat * 65 + s.2.toNat
def mkT (P : List Bool × Bool) (s : Spot) : List Bool × Bool := (P.1.set (ixS s) true, P.2 || !(P.1.getD (ixS s) false))
def cntT (L : List Bool) : Nat := L.count true
theorem cnt_set (L : List Bool) (i : Nat) (hi : i < L.length) : cntT (L.set i true) = cntT L + (if L.getD i false then 0 else 1) := by
  unfold cntT
  induction L generalizing i with
  | nil => simp at hi
  | cons b r ih =>
    cases i with
    | zero => cases b <;> simp
    | succ i =>
      have := ih i (by simpa using hi)
      simp only [List.set_cons_succ, List.count_cons, List.getD_cons_succ]
      rw [this]
      omega
theorem vcnt_le (L : List Bool) : cntT L ≤ L.length := List.count_le_length
theorem mkT_all (C : List Spot) : ∀ (P : List Bool × Bool), (∀ s ∈ C, ixS s < P.1.length) →
    (C.foldl mkT P).1.length = P.1.length ∧
    (∀ (i : Nat), P.1[i]? = some true → (C.foldl mkT P).1[i]? = some true) ∧
    (∀ (i : Nat), (C.foldl mkT P).1[i]? = some true → P.1[i]? = some true ∨ ∃ s ∈ C, ixS s = i) ∧
    (∀ s ∈ C, (C.foldl mkT P).1[ixS s]? = some true) ∧
    ((C.foldl mkT P).2 = false → P.2 = false ∧ (C.foldl mkT P).1 = P.1) ∧
    cntT P.1 ≤ cntT (C.foldl mkT P).1 ∧
    ((C.foldl mkT P).2 = true → P.2 = true ∨ cntT P.1 < cntT (C.foldl mkT P).1) := by
  induction C with
  | nil => intro P _; simp
  | cons s C ih =>
    intro P hb
    have hs := hb s (by simp)
    have hl : (mkT P s).1.length = P.1.length := by simp [mkT]
    obtain ⟨i1, i2, i3, i4, i5, i6, i7⟩ := ih (mkT P s) (fun t ht => by rw [hl]; exact hb t (by simp [ht]))
    have hset : (mkT P s).1 = P.1.set (ixS s) true := rfl
    have hc := cnt_set P.1 (ixS s) hs
    rw [List.foldl_cons]
    have mono : ∀ (i : Nat), P.1[i]? = some true → (mkT P s).1[i]? = some true := fun i h => by
      rw [hset]
      by_cases e : ixS s = i
      · subst e; rw [List.getElem?_set_self hs]
      · rw [List.getElem?_set_ne e]; exact h
    refine ⟨by rw [i1, hl], fun i h => i2 i (mono i h), fun i h => ?_, fun t ht => ?_, fun h => ?_, ?_, fun h => ?_⟩
    · rcases i3 i h with h | ⟨t, ht, e⟩
      · rw [hset] at h
        by_cases e : ixS s = i
        · exact .inr ⟨s, by simp, e⟩
        · rw [List.getElem?_set_ne e] at h; exact .inl h
      · exact .inr ⟨t, by simp [ht], e⟩
    · rcases List.mem_cons.1 ht with rfl | ht
      · exact i2 _ (by rw [hset, List.getElem?_set_self hs])
      · exact i4 t ht
    · obtain ⟨h1, h2⟩ := i5 h
      have h3 : (P.2 || !(P.1.getD (ixS s) false)) = false := h1
      rw [Bool.or_eq_false_iff] at h3
      refine ⟨h3.1, ?_⟩
      rw [h2, hset]
      have h4 : P.1.getD (ixS s) false = true := by simpa using h3.2
      rw [List.getD_eq_getElem?_getD, List.getElem?_eq_getElem hs] at h4
      simp only [Option.getD_some] at h4
      rw [← h4]
      exact List.set_getElem_self hs
    · rw [hset, hc] at i6; omega
    · rcases i7 h with h | h
      · have h3 : (P.2 || !(P.1.getD (ixS s) false)) = true := h
        rw [Bool.or_eq_true] at h3
        rcases h3 with h3 | h3
        · exact .inl h3
        · right
          have h4 : P.1.getD (ixS s) false = false := by simpa using h3
          rw [h4] at hc
          rw [hset, hc] at i6
          simp at i6
          omega
      · right; rw [hset, hc] at h; omega
/-- What the instruction at a place brings about, if it is met at a height. -/
def conS (f : Fc) (op a : Int) (p : Nat) (ht : Int) : List Spot := nx f.code.length op a p ht ++ (f.hs.filter (fun h => hol h p)).map tgt
theorem nx_h {N : Nat} {op a ht : Int} {p : Nat} {s : Spot} (hs : s ∈ nx N op a p ht) : s.2 ≤ 64 := by
  unfold nx at hs
  split at hs
  · simp at hs
  · rename_i hc
    rw [List.mem_append] at hs
    rcases hs with hs | hs
    · split at hs
      · simp at hs; subst hs; simp only; omega
      · simp at hs
    · split at hs
      · simp at hs; subst hs; simp only; omega
      · simp at hs
theorem Mt.h64 {f : Fc} (h : OkF f) {s : Spot} (hs : Mt f s) : s.2 ≤ 64 := by
  induction hs with
  | zero => simp
  | next _ hi hn _ => exact nx_h hn
  | hand _ hm _ _ => have := h.hd _ hm; unfold tgt; simp only; omega
theorem Mt.con {f : Fc} {p : Nat} {ht op a : Int} (hm : Mt f ((p : Int), ht)) (hi : f.code[p]? = some (op, a)) {s : Spot} (hs : s ∈ conS f op a p ht) : Mt f s := by
  unfold conS at hs
  rw [List.mem_append] at hs
  rcases hs with hs | hs
  · exact .next hm hi hs
  · obtain ⟨k, hk, rfl⟩ := List.mem_map.1 hs
    rw [List.mem_filter] at hk
    exact .hand hm hk.1 hk.2
theorem ix_lt {f : Fc} (h : OkF f) {s : Spot} (hs : Mt f s) : ixS s < f.code.length * 65 := by
  have h1 := hs.bd h
  have h2 := hs.h64 h
  unfold ixS
  have : s.1.toNat + 1 ≤ f.code.length := by omega
  have := Nat.mul_le_mul_right 65 this
  omega
theorem ix_back {f : Fc} (h : OkF f) {s : Spot} (hs : Mt f s) : s = (((ixS s / 65 : Nat) : Int), ((ixS s % 65 : Nat) : Int)) := by
  have h1 := hs.bd h
  have h2 := hs.h64 h
  obtain ⟨x, y⟩ := s
  simp only at h1 h2
  unfold ixS
  simp only
  have e1 : (x.toNat * 65 + y.toNat) / 65 = x.toNat := by omega
  have e2 : (x.toNat * 65 + y.toNat) % 65 = y.toNat := by omega
  rw [e1, e2]
  ext <;> simp <;> omega
/-- A table of what is met so far. -/
structure TbI (f : Fc) (L : List Bool) : Prop where
  len : L.length = f.code.length * 65
  snd : ∀ i, L[i]? = some true → Mt f (((i / 65 : Nat) : Int), ((i % 65 : Nat) : Int))
  st0 : L[0]? = some true
/-- All that this place of the table brings about is in it. -/
def ClA (f : Fc) (L : List Bool) (i : Nat) : Prop := L[i]? = some true → ∀ op a, f.code[i / 65]? = some (op, a) → ∀ s ∈ conS f op a (i / 65) ((i % 65 : Nat) : Int), L[ixS s]? = some true
theorem TbI.all {f : Fc} (hf : OkF f) {L : List Bool} (h : TbI f L) (hc : ∀ i, ClA f L i) {s : Spot} (hs : Mt f s) : L[ixS s]? = some true := by
  induction hs with
  | zero => exact h.st0
  | @next p ht op a s hm hi hn ih =>
    have hb := ix_back hf hm
    simp only [Prod.mk.injEq] at hb
    have e1 : ixS ((p : Int), ht) / 65 = p := by omega
    have := hc _ ih op a (by rw [e1]; exact hi) s
    rw [e1, ← hb.2] at this
    exact this (List.mem_append.2 (.inl hn))
  | @hand p ht k hm hk hh ih =>
    have hb := ix_back hf hm
    simp only [Prod.mk.injEq] at hb
    have e1 : ixS ((p : Int), ht) / 65 = p := by omega
    have hbd := hm.bd hf
    simp only at hbd
    obtain ⟨⟨op, a⟩, hi⟩ : ∃ q, f.code[p]? = some q := ⟨_, List.getElem?_eq_getElem (by omega)⟩
    have := hc _ ih op a (by rw [e1]; exact hi) (tgt k)
    rw [e1, ← hb.2] at this
    exact this (List.mem_append.2 (.inr (List.mem_map.2 ⟨k, List.mem_filter.2 ⟨hk, hh⟩, rfl⟩)))
/-- What meets leaves. -/
theorem TbI.meets {f : Fc} (hf : OkF f) {L : List Bool} (h : TbI f L) {i : Nat} (hi : L[i]? = some true) {op a : Int} (hc : f.code[i / 65]? = some (op, a)) :
    TbI f ((conS f op a (i / 65) ((i % 65 : Nat) : Int)).foldl mkT (L, false)).1 ∧ (∀ (j : Nat), L[j]? = some true → ((conS f op a (i / 65) ((i % 65 : Nat) : Int)).foldl mkT (L, false)).1[j]? = some true) ∧
    (((conS f op a (i / 65) ((i % 65 : Nat) : Int)).foldl mkT (L, false)).2 = false → ((conS f op a (i / 65) ((i % 65 : Nat) : Int)).foldl mkT (L, false)).1 = L ∧ ClA f L i) ∧
    cntT L ≤ cntT ((conS f op a (i / 65) ((i % 65 : Nat) : Int)).foldl mkT (L, false)).1 ∧
    (((conS f op a (i / 65) ((i % 65 : Nat) : Int)).foldl mkT (L, false)).2 = true → cntT L < cntT ((conS f op a (i / 65) ((i % 65 : Nat) : Int)).foldl mkT (L, false)).1) := by
  have hm := h.snd i hi
  have hb : ∀ s ∈ conS f op a (i / 65) ((i % 65 : Nat) : Int), ixS s < L.length := fun s hs => by rw [h.len]; exact ix_lt hf (hm.con hc hs)
  obtain ⟨j1, j2, j3, j4, j5, j6, j7⟩ := mkT_all _ (L, false) hb
  refine ⟨⟨by rw [j1]; exact h.len, fun k hk => ?_, j2 0 h.st0⟩, j2, fun e => ⟨(j5 e).2, ?_⟩, j6, fun e => (j7 e).elim (fun q => (by cases q)) id⟩
  · rcases j3 k hk with q | ⟨s, hs, rfl⟩
    · exact h.snd k q
    · have hs' := hm.con hc hs
      rw [← ix_back hf hs']
      exact hs'
  · intro _ op' a' hc' s hs
    rw [hc] at hc'
    cases hc'
    have := j4 s hs
    rw [(j5 e).2] at this
    exact this
/-- In the midst of a round, behind k places. -/
structure SwI (f : Fc) (L0 : List Bool) (k : Nat) (L : List Bool) (b : Bool) : Prop where
  tb : TbI f L
  no : b = false → L = L0 ∧ ∀ i, i < k → ClA f L0 i
  yes : b = true → cntT L0 < cntT L
  le : cntT L0 ≤ cntT L
theorem SwI.first {f : Fc} {L : List Bool} (h : TbI f L) : SwI f L 0 L false := ⟨h, fun _ => ⟨rfl, fun i hi => absurd hi (Nat.not_lt_zero i)⟩, fun e => (by cases e), Nat.le_refl _⟩
theorem SwI.skip {f : Fc} {L0 L : List Bool} {k : Nat} {b : Bool} (h : SwI f L0 k L b) (hk : L[k]? ≠ some true) : SwI f L0 (k + 1) L b := by
  refine ⟨h.tb, fun e => ⟨(h.no e).1, fun i hi => ?_⟩, h.yes, h.le⟩
  by_cases q : i = k
  · subst q
    intro hx
    rw [← (h.no e).1] at hx
    exact absurd hx hk
  · exact (h.no e).2 i (by omega)
theorem SwI.step {f : Fc} (hf : OkF f) {L0 L : List Bool} {k : Nat} {b : Bool} (h : SwI f L0 k L b) (hk : L[k]? = some true) {op a : Int} (hc : f.code[k / 65]? = some (op, a)) :
    SwI f L0 (k + 1) ((conS f op a (k / 65) ((k % 65 : Nat) : Int)).foldl mkT (L, false)).1 (b || ((conS f op a (k / 65) ((k % 65 : Nat) : Int)).foldl mkT (L, false)).2) := by
  obtain ⟨m1, m2, m3, m4, m5⟩ := h.tb.meets hf hk hc
  refine ⟨m1, fun e => ?_, fun e => ?_, Nat.le_trans h.le m4⟩
  · rw [Bool.or_eq_false_iff] at e
    obtain ⟨e1, e2⟩ := m3 e.2
    obtain ⟨e3, e4⟩ := h.no e.1
    refine ⟨e1.trans e3, fun i hi => ?_⟩
    by_cases q : i = k
    · subst q; rw [← e3]; exact e2
    · exact e4 i (by omega)
  · rw [Bool.or_eq_true] at e
    rcases e with e | e
    · exact Nat.lt_of_lt_of_le (h.yes e) m4
    · exact Nat.lt_of_le_of_lt h.le (m5 e)
/-- Between two rounds. -/
structure RdI (f : Fc) (r : Nat) (L : List Bool) (anew : Bool) : Prop where
  tb : TbI f L
  more : anew = true → r + 1 ≤ cntT L
  done : anew = false → ∀ i, ClA f L i
theorem SwI.round {f : Fc} {L0 L : List Bool} {b : Bool} {r : Nat} (h0 : r + 1 ≤ cntT L0) (h : SwI f L0 (f.code.length * 65) L b) : RdI f (r + 1) L b := by
  refine ⟨h.tb, fun e => by have := h.yes e; omega, fun e i => ?_⟩
  obtain ⟨e1, e2⟩ := h.no e
  by_cases q : i < f.code.length * 65
  · rw [e1]; exact e2 i q
  · intro hx
    have := (List.getElem?_eq_some_iff.1 hx).1
    rw [h.tb.len] at this
    omega
theorem RdI.bound {f : Fc} {r : Nat} {L : List Bool} (h : RdI f r L true) : r < L.length := by
  have := h.more rfl
  have := vcnt_le L
  omega
/-- The table of all that is met. -/
def TbM (f : Fc) (L : List Bool) : Prop := L.length = f.code.length * 65 ∧ ∀ (p h : Nat), p < f.code.length → h < 65 → (L[p * 65 + h]? = some true ↔ Mt f ((p : Int), (h : Int)))
theorem RdI.all {f : Fc} (hf : OkF f) {r : Nat} {L : List Bool} (h : RdI f r L false) : TbM f L := by
  refine ⟨h.tb.len, fun p k hp hk => ⟨fun e => ?_, fun e => ?_⟩⟩
  · have := h.tb.snd _ e
    have e1 : (p * 65 + k) / 65 = p := by omega
    have e2 : (p * 65 + k) % 65 = k := by omega
    rw [e1, e2] at this
    exact this
  · have := h.tb.all hf (h.done rfl) e
    unfold ixS at this
    simp only [Int.toNat_natCast] at this
    exact this
/-- The first table. -/
theorem RdI.first {f : Fc} (hf : OkF f) : RdI f 0 ((List.replicate (f.code.length * 65) false).set 0 true) true := by
  have h1 := hf.n1
  have hl : 0 < (List.replicate (f.code.length * 65) false).length := by rw [List.length_replicate]; omega
  refine ⟨⟨by simp, fun i hi => ?_, List.getElem?_set_self hl⟩, fun _ => ?_, fun e => (by cases e)⟩
  · by_cases q : 0 = i
    · subst q; exact .zero
    · rw [List.getElem?_set_ne q, List.getElem?_replicate] at hi
      split at hi <;> simp at hi
  · have hz : (List.replicate (f.code.length * 65) false).getD 0 false = false := by
      rw [List.getD_eq_getElem?_getD, List.getElem?_replicate]
      split <;> rfl
    rw [cnt_set _ _ hl, hz]
    simp
theorem flo_lt {hs : List Hd} {p x : Int} : x < flo hs p ↔ x < 0 ∨ ∃ h ∈ hs, hol h p = true ∧ x < h.height := by
  have key : ∀ (l : List Hd) (m : Int), x < l.foldl (fun a h => if h.frm ≤ p ∧ p < h.to then max a h.height else a) m ↔ x < m ∨ ∃ h ∈ l, hol h p = true ∧ x < h.height := by
    intro l
    induction l with
    | nil => intro m; simp
    | cons h l ih =>
      intro m
      rw [List.foldl_cons, ih]
      by_cases q : h.frm ≤ p ∧ p < h.to
      · rw [if_pos q]
        have hh : hol h p = true := by simpa [hol] using q
        constructor
        · rintro (e | ⟨k, hk, e⟩)
          · by_cases e2 : x < m
            · exact .inl e2
            · exact .inr ⟨h, by simp, hh, by omega⟩
          · exact .inr ⟨k, by simp [hk], e⟩
        · rintro (e | ⟨k, hk, e1, e2⟩)
          · left; omega
          · rcases List.mem_cons.1 hk with rfl | hk
            · left; omega
            · exact .inr ⟨k, hk, e1, e2⟩
      · rw [if_neg q]
        have hh : hol h p = false := by simpa [hol] using q
        constructor
        · rintro (e | ⟨k, hk, e⟩)
          · exact .inl e
          · exact .inr ⟨k, by simp [hk], e⟩
        · rintro (e | ⟨k, hk, e1, e2⟩)
          · exact .inl e
          · rcases List.mem_cons.1 hk with rfl | hk
            · rw [hh] at e1; cases e1
            · exact .inr ⟨k, hk, e1, e2⟩
  exact key hs 0
/-- At this height the instruction does not fit. -/
def WrH (f : Fc) (op a : Int) (p : Nat) (h : Int) : Prop := h < tkI op a ∨ 65 ≤ h - tkI op a + ptI op a ∨ ∃ k ∈ f.hs, hol k p = true ∧ h - tkI op a < k.height
theorem badM_iff {f : Fc} (hf : OkF f) {p : Nat} {op a : Int} (hi : f.code[p]? = some (op, a)) : BadM f p ↔ (∃ h : Nat, h < 65 ∧ Mt f ((p : Int), (h : Int)) ∧ WrH f op a p h) ∨ ∃ h1 h2 : Nat, h1 < h2 ∧ h2 < 65 ∧ Mt f ((p : Int), (h1 : Int)) ∧ Mt f ((p : Int), (h2 : Int)) := by
  have nat : ∀ ht, Mt f ((p : Int), ht) → ∃ h : Nat, ht = (h : Int) ∧ h < 65 := fun ht hm => by
    have h1 := hm.bd hf
    have h2 := hm.h64 hf
    simp only at h1 h2
    exact ⟨ht.toNat, by omega, by omega⟩
  constructor
  · rintro ⟨ht, op', a', hm, hi', hb⟩
    rw [hi] at hi'
    cases hi'
    obtain ⟨h, rfl, hh⟩ := nat ht hm
    rcases hb with ⟨h2, hm2, hne⟩ | hb | hb
    · obtain ⟨h', rfl, hh'⟩ := nat h2 hm2
      rcases Nat.lt_or_gt_of_ne (fun e => hne (by rw [e]) : h' ≠ h) with q | q
      · exact .inr ⟨h', h, q, hh, hm2, hm⟩
      · exact .inr ⟨h, h', q, hh', hm, hm2⟩
    · left
      refine ⟨h, hh, hm, ?_⟩
      rcases flo_lt.1 hb with q | q
      · exact .inl (by omega)
      · exact .inr (.inr q)
    · exact .inl ⟨h, hh, hm, .inr (.inl (by omega))⟩
  · rintro (⟨h, hh, hm, hw⟩ | ⟨h1, h2, hlt, hh, hm1, hm2⟩)
    · refine ⟨h, op, a, hm, hi, ?_⟩
      rcases hw with q | q | q
      · exact .inr (.inl (flo_lt.2 (.inl (by omega))))
      · exact .inr (.inr (by omega))
      · exact .inr (.inl (flo_lt.2 (.inr q)))
    · exact ⟨h1, op, a, hm1, hi, .inl ⟨h2, hm2, by omega⟩⟩
theorem FnR.uniq {f : Fc} {hv hv' : Option (List Int)} {pl er pl' er' : Int} (h : FnR f hv pl er) (h' : FnR f hv' pl' er') : hv = hv' ∧ pl = pl' ∧ er = er' := by
  have lst : ∀ {P : Nat → Prop} {p q : Nat}, P p → (∀ r, r < p → ¬ P r) → P q → (∀ r, r < q → ¬ P r) → p = q := fun {P p q} a b c d => by
    rcases Nat.lt_trichotomy p q with e | e | e
    · exact absurd a (d p e)
    · exact e
    · exact absurd c (b q e)
  rcases h with ⟨e1, e2, p, e3, hb, hl⟩ | ⟨e1, e2, hb, p, e3, hu, hl⟩ | ⟨e1, e2, hb, hu, l, e3, hl, ha⟩
  · rcases h' with ⟨d1, d2, q, d3, hb', hl'⟩ | ⟨d1, d2, hb', _⟩ | ⟨d1, d2, hb', _⟩
    · have := lst hb hl hb' hl'
      subst this
      exact ⟨by rw [e2, d2], by rw [e3, d3], by rw [e1, d1]⟩
    · exact absurd hb (hb' p)
    · exact absurd hb (hb' p)
  · rcases h' with ⟨d1, d2, q, d3, hb', hl'⟩ | ⟨d1, d2, hb', q, d3, hu', hl'⟩ | ⟨d1, d2, hb', hu', _⟩
    · exact absurd hb' (hb q)
    · have := lst hu hl hu' hl'
      subst this
      exact ⟨by rw [e2, d2], by rw [e3, d3], by rw [e1, d1]⟩
    · exact absurd hu (hu' p)
  · rcases h' with ⟨d1, d2, q, d3, hb', hl'⟩ | ⟨d1, d2, hb', q, d3, hu', hl'⟩ | ⟨d1, d2, hb', hu', l', d3, hl', ha'⟩
    · exact absurd hb' (hb q)
    · exact absurd hu' (hu q)
    · refine ⟨?_, by rw [e2, d2], by rw [e1, d1]⟩
      rw [e3, d3]
      congr 1
      apply List.ext_getElem?
      intro i
      cases q : l[i]? with
      | none =>
        cases q' : l'[i]? with
        | none => rfl
        | some y => rw [(ha i y).2 ((ha' i y).1 q')] at q; cases q
      | some x => exact ((ha' i x).2 ((ha i x).1 q)).symm

set_option linter.unusedVariables false
set_option linter.unusedSimpArgs false
theorem VpR.uniq {p : Pg} {L L' : Option (List (List Int))} {k a er k' a' er' : Int} (h : VpR p L k a er) (h' : VpR p L' k' a' er') : L = L' ∧ k = k' ∧ a = a' ∧ er = er' := by
  rcases h with ⟨y, h1, h2, h3, h4⟩ | ⟨h1, i, f, h2, h3, h4, h5, h6, h7⟩ | ⟨h1, h2, h3, h4, Ls, h5, h6, h7⟩
  · rcases h' with ⟨y', d1, d2, d3, d4⟩ | ⟨d1, _⟩ | ⟨d1, _⟩
    · rw [h1] at d1
      cases d1
      exact ⟨by rw [h3, d3], rfl, rfl, by rw [h2, d2]⟩
    · rw [h1] at d1; cases d1
    · rw [h1] at d1; cases d1
  · rcases h' with ⟨y', d1, _⟩ | ⟨d1, j, g, d2, d3, d4, d5, d6, d7⟩ | ⟨d1, d2, d3, d4, Ls, d5, d6, d7⟩
    · rw [h1] at d1; cases d1
    · have hij : i = j := by
        rcases Nat.lt_trichotomy i j with e | e | e
        · obtain ⟨l, hl⟩ := d7 i f e h2
          exact absurd (h6.uniq hl).2.2 h5
        · exact e
        · obtain ⟨l, hl⟩ := h7 j g e d2
          exact absurd (d6.uniq hl).2.2 d5
      subst hij
      rw [h2] at d2
      cases d2
      obtain ⟨_, e1, e2⟩ := h6.uniq d6
      exact ⟨by rw [h4, d4], by rw [h3, d3], e1, e2⟩
    · have hi := (List.getElem?_eq_some_iff.1 h2).1
      obtain ⟨l, hl⟩ : ∃ l, Ls[i]? = some l := ⟨_, List.getElem?_eq_getElem (by rw [d6]; exact hi)⟩
      exact absurd (h6.uniq (d7 i f l h2 hl)).2.2 h5
  · rcases h' with ⟨y', d1, _⟩ | ⟨d1, j, g, d2, d3, d4, d5, d6, d7⟩ | ⟨d1, d2, d3, d4, Ls', d5, d6, d7⟩
    · rw [h1] at d1; cases d1
    · have hi := (List.getElem?_eq_some_iff.1 d2).1
      obtain ⟨l, hl⟩ : ∃ l, Ls[j]? = some l := ⟨_, List.getElem?_eq_getElem (by rw [h6]; exact hi)⟩
      exact absurd (d6.uniq (h7 j g l d2 hl)).2.2 d5
    · refine ⟨?_, by rw [h2, d2], by rw [h3, d3], by rw [h4, d4]⟩
      rw [h5, d5]
      congr 1
      apply List.ext_getElem?
      intro i
      by_cases q : i < p.funcs.length
      · obtain ⟨f, hf⟩ : ∃ f, p.funcs[i]? = some f := ⟨_, List.getElem?_eq_getElem q⟩
        obtain ⟨l, hl⟩ : ∃ l, Ls[i]? = some l := ⟨_, List.getElem?_eq_getElem (by rw [h6]; exact q)⟩
        obtain ⟨l', hl'⟩ : ∃ l, Ls'[i]? = some l := ⟨_, List.getElem?_eq_getElem (by rw [d6]; exact q)⟩
        have := ((h7 i f l hf hl).uniq (d7 i f l' hf hl')).1
        cases this
        rw [hl, hl']
      · rw [List.getElem?_eq_none (by omega), List.getElem?_eq_none (by omega)]

set_option linter.unusedVariables false
set_option linter.unusedSimpArgs false
set_option maxRecDepth 100000
theorem FcR.low {B B' : Nat} {w : World} {hv mv : Value} {Ls : List (List Int)} (h : FcR B w hv mv Ls) (q : B' ≤ B) : FcR B' w hv mv Ls := by
  obtain ⟨vs, h1, h2, h3, h4, h5⟩ := h
  exact ⟨vs, h1, fun i l u a b => ⟨(h2 i l u a b).1, fun k hk => Nat.le_trans q ((h2 i l u a b).2 k hk)⟩, h3, fun k hk => Nat.le_trans q (h4 k hk), fun k hk => Nat.le_trans q (h5 k hk)⟩
theorem FcR.fr {S : Nat → Prop} {B : Nat} {w w' : World} {hv mv : Value} {Ls : List (List Int)} (h : FcR B w hv mv Ls) (f : Fr S w w') (hn : ∀ k, B ≤ k → ¬ S k) : FcR B w' hv mv Ls := by
  obtain ⟨vs, h1, h2, h3, h4, h5⟩ := h
  exact ⟨vs, h1.fr f (fun k hk => hn k (h4 k hk)), fun i l u a b => ⟨(h2 i l u a b).1.fr f (fun k hk => hn k ((h2 i l u a b).2 k hk)), (h2 i l u a b).2⟩, h3.fr f (fun k hk => hn k (h5 k hk)), h4, h5⟩
theorem FcR.shape {B : Nat} {w : World} {hv mv : Value} {Ls : List (List Int)} (h : FcR B w hv mv Ls) : ∃ ha hc ma mc, hv = .slice ha Ls.length hc ∧ mv = .slice ma Ls.length mc := by
  obtain ⟨vs, h1, h2, h3, h4, h5⟩ := h
  obtain ⟨ha, hc, e1, _⟩ := h1.shape
  obtain ⟨ma, mc, e2, _⟩ := h3.shape
  exact ⟨ha, hc, ma, mc, e1, e2⟩
theorem VpR.cases {p : Pg} {L : Option (List (List Int))} {k a er : Int} (h : VpR p L k a er) : (L = none ∧ er ≠ 0) ∨ ∃ Ls, L = some Ls ∧ k = 0 ∧ a = 0 ∧ er = 0 ∧ Ls.length = p.funcs.length := by
  rcases h with ⟨y, _, _, h1, h2⟩ | ⟨_, i, f, _, _, h1, h2, _⟩ | ⟨_, h1, h2, h3, Ls, h4, h5, _⟩
  · exact .inl ⟨h1, h2⟩
  · exact .inl ⟨h1, h2⟩
  · exact .inr ⟨Ls, h4, h1, h2, h3, h5⟩
/-- Two boxes, written over. -/
theorem put4 {W : World} {a c : Nat} {u0 u1 v0 v1 : Value} (hA : Bx W 2 a [u0, u1]) (hC : Bx W 2 c [v0, v1]) (hne : a ≠ c) (x y s t : Value) :
    Bx ((((W.setCell ⟨a, 0, none⟩ x).setCell ⟨a, 1, none⟩ y).setCell ⟨c, 0, none⟩ s).setCell ⟨c, 1, none⟩ t) 2 a [x, y] ∧ Bx ((((W.setCell ⟨a, 0, none⟩ x).setCell ⟨a, 1, none⟩ y).setCell ⟨c, 0, none⟩ s).setCell ⟨c, 1, none⟩ t) 2 c [s, t] ∧ Fr (fun k => k = a ∨ k = c) W ((((W.setCell ⟨a, 0, none⟩ x).setCell ⟨a, 1, none⟩ y).setCell ⟨c, 0, none⟩ s).setCell ⟨c, 1, none⟩ t) := by
  have a1 := (hA.set (j := 0) (by omega) x).set (j := 1) (by omega) y
  have f1 := fr_set W a 0 x
  have f2 := fr_set (W.setCell ⟨a, 0, none⟩ x) a 1 y
  have f3 := fr_set ((W.setCell ⟨a, 0, none⟩ x).setCell ⟨a, 1, none⟩ y) c 0 s
  have f4 := fr_set (((W.setCell ⟨a, 0, none⟩ x).setCell ⟨a, 1, none⟩ y).setCell ⟨c, 0, none⟩ s) c 1 t
  have c1 := ((hC.fr f1 (by omega)).fr f2 (by omega)).set (j := 0) (by omega) s |>.set (j := 1) (by omega) t
  refine ⟨(a1.fr f3 (by omega)).fr f4 (by omega), c1, ?_⟩
  exact (((f1.mono (fun _ _ e => .inl e)).step f2 (fun _ _ e => .inl e)).step f3 (fun _ _ e => .inr e)).step f4 (fun _ _ e => .inr e)
/-- What Load answers. -/
def LdR (B : List Int) (w w' : World) (cv fv hv mv : Value) (er : Int) : Prop :=
  (er ≠ 0 ∧ cv = .slice none 0 0 ∧ fv = .slice none 0 0 ∧ hv = .slice none 0 0 ∧ mv = .slice none 0 0 ∧ ((decP B).2 ≠ 0 ∧ er = (decP B).2 ∨ (decP B).2 = 0 ∧ ∃ k a, VpR (decP B).1 none k a er)) ∨
  (er = 0 ∧ (decP B).2 = 0 ∧ PW w w' cv fv (decP B).1 ∧ ∃ Ls, VpR (decP B).1 (some Ls) 0 0 0 ∧ FcR w.heap.size w' hv mv Ls)
set_option maxHeartbeats 6400000 in
theorem load_any {w : World} {v : Value} {B : List Int} (hR : Rd w v B) (hB : BOk B) (hN : B.length ≤ 140737488355328) (hl : Laid w) :
    Calls Tryz.prog 11 #[v] w fun e w' => ∃ ca cn cc fa fn fc ha hn hc ma mn mc er, e = .returned (.tuple #[.agg #[.slice ca cn cc, .slice fa fn fc], .agg #[.slice ha hn hc, .slice ma mn mc], .int .i64 er]) ∧ Below w.heap.size w w' ∧ LdR B w w' (.slice ca cn cc) (.slice fa fn fc) (.slice ha hn hc) (.slice ma mn mc) er := by
  have gl : 0 < w.heap.size := World.block_lt_of_cell? _ _ hl
  have HL := hide hl
  have HG := hide gl
  have OB := hide hB
  have NB := hide hN
  obtain ⟨va, vc, rfl⟩ := hR.shapeR
  obtain ⟨N, hNN⟩ : ∃ N, Hid (B.length = N) := ⟨_, rfl⟩
  rw [unhide hNN] at hR hN ⊢
  obtain ⟨W1, eW1⟩ : ∃ W1, Hid (W1 = (w.alloc (.cells #[.slice none 0 0, .slice none 0 0] 27)).alloc (.cells #[.slice none 0 0, .slice none 0 0] 37)) := ⟨_, rfl⟩
  have A1 : Hid (Bx W1 2 w.heap.size [.slice none 0 0, .slice none 0 0]) := by rw [unhide eW1]; exact (Bx.new (w := w) (arr := #[.slice none 0 0, .slice none 0 0]) (t := 27) rfl rfl).fr (S := fun _ => False) ((Fr.refl _ _).alloc _) (fun e => e)
  have C1 : Hid (Bx W1 2 (w.heap.size + 1) [.slice none 0 0, .slice none 0 0]) := by rw [unhide eW1]; exact Bx.new rfl (by simp)
  have F1 : Hid (Below w.heap.size w W1) := by rw [unhide eW1]; exact ((Below.refl _ w).alloc (Nat.le_refl _) _).alloc (by simp) _
  have R1 : Hid (Rd W1 (.slice va N vc) B) := hR.bl (unhide F1)
  have S1 : Hid (w.heap.size + 2 ≤ W1.heap.size) := by unfold Hid; rw [unhide eW1]; simp
  clear hR hB hN hl gl
  go_enter Tryz.func11, Tryz.ntmps11
  go_wp2_with fail
  rw [← unhide eW1]
  clear eW1
  refine (decP_any (unhide R1) (unhide OB) (unhide NB) ((unhide HL).blw (unhide F1) (unhide HG))).mono ?_
  rintro e W2 ⟨pa, pn, pc, qa, qn, qc, rfl, hb2, hp2, -⟩
  have A2 : Hid (Bx W2 2 w.heap.size [.slice none 0 0, .slice none 0 0]) := (unhide A1).fr (S := fun _ => False) (Fr.of_below hb2) (fun e => e)
  have C2 : Hid (Bx W2 2 (w.heap.size + 1) [.slice none 0 0, .slice none 0 0]) := (unhide C1).fr (S := fun _ => False) (Fr.of_below hb2) (fun e => e)
  have F2 : Hid (Below w.heap.size w W2) := (unhide F1).trans (hb2.mono (unhide F1).size)
  obtain ⟨d, hd⟩ : ∃ d, Hid ((decP B).2 = d) := ⟨_, rfl⟩
  rw [unhide hd] at hp2 ⊢
  have P2 : Hid (d = 0 → PW W1 W2 (.slice pa pn pc) (.slice qa qn qc) (decP B).1) := fun q => hp2 q
  have S2 := hide hb2.size
  clear A1 C1 R1 hb2 hp2 F1
  obtain ⟨W3, eW3⟩ : ∃ W3, Hid (W3 = W2.alloc (.cells #[.slice pa pn pc, .slice qa qn qc] 27)) := ⟨_, rfl⟩
  have hb3 : Below W2.heap.size W2 W3 := by rw [unhide eW3]; exact (Below.refl _ _).alloc (Nat.le_refl _) _
  obtain ⟨b3, eb3⟩ : ∃ b, Hid (W2.heap.size = b) := ⟨_, rfl⟩
  have B3 : Hid (Bx W3 2 b3 [.slice pa pn pc, .slice qa qn qc]) := by rw [unhide eW3]; exact Bx.new rfl (unhide eb3)
  have A3 : Hid (Bx W3 2 w.heap.size [.slice none 0 0, .slice none 0 0]) := (unhide A2).fr (S := fun _ => False) (Fr.of_below hb3) (fun e => e)
  have C3 : Hid (Bx W3 2 (w.heap.size + 1) [.slice none 0 0, .slice none 0 0]) := (unhide C2).fr (S := fun _ => False) (Fr.of_below hb3) (fun e => e)
  have F3 : Hid (Below w.heap.size w W3) := (unhide F2).trans (hb3.mono (unhide F2).size)
  have P3 : Hid (d = 0 → PW W1 W3 (.slice pa pn pc) (.slice qa qn qc) (decP B).1) := fun q => (unhide P2 q).fr (S := fun _ => False) (Fr.of_below hb3) (fun _ _ e => e)
  have S3 := hide hb3.size
  have L3 : Hid (w.heap.size + 1 < b3) := by have := (unhide C2).lt; have := unhide eb3; unfold Hid; omega
  clear P2 hb3
  by_cases q : d = 0
  case neg =>
    have i1 : (d != 0) = true := by simpa using q
    have m0 := (unhide A2).cell (j := 0) rfl
    have m1 := (unhide A2).cell (j := 1) rfl
    have n0 := (unhide C2).cell (j := 0) rfl
    have n1 := (unhide C2).cell (j := 1) rfl
    have y0 := (unhide A2).free 0
    have y1 := (unhide A2).free 1
    have x0 := (unhide C2).free 0
    have x1 := (unhide C2).free 1
    have lA := (unhide A2).lt
    have lC := (unhide C2).lt
    have HP := hide (put4 (unhide A2) (unhide C2) (by omega) (.slice none 0 0) (.slice none 0 0) (.slice none 0 0) (.slice none 0 0))
    clear eW3
    go_wp2_with fail
    obtain ⟨Z, eZ⟩ : ∃ Z, Hid (Z = (((W2.setCell ⟨w.heap.size, 0, none⟩ (.slice none 0 0)).setCell ⟨w.heap.size, 1, none⟩ (.slice none 0 0)).setCell ⟨w.heap.size + 1, 0, none⟩ (.slice none 0 0)).setCell ⟨w.heap.size + 1, 1, none⟩ (.slice none 0 0)) := ⟨_, rfl⟩
    rw [← unhide eZ] at HP ⊢
    obtain ⟨z1, z2, z3⟩ := unhide HP
    have al : ∀ o : Obj, Fr (fun _ => False) Z (Z.alloc o) := fun o => (Fr.refl _ _).alloc o
    refine bodyPost_ret (results_mix (fn := Tryz.f11) (p := 2) (q := 3) (r := 4) rfl _ _ _ rfl rfl (load27 (z1.fr (al _) (fun e => e))) (load30 (z2.fr (al _) (fun e => e)))) rfl ?_
    refine ⟨none, 0, 0, none, 0, 0, none, 0, 0, none, 0, 0, d, rfl, ?_, .inl ⟨q, rfl, rfl, rfl, rfl, .inl ⟨by rw [unhide hd]; exact q, (unhide hd).symm⟩⟩⟩
    have f1 := (unhide F2).trans (Fr.below z3 (unhide F2).size (fun k hk e => by omega))
    exact f1.trans ((al _).below f1.size (fun _ _ e => e))
  subst q
  have PX3 := hide ((unhide P3) rfl)
  clear A2 C2 F2 P3
  go_wp2_with fail
  rw [← unhide eW3, unhide eb3]
  clear eW3
  refine (program_any (unhide PX3).pgv (decP_ok (unhide hd)).1 ((unhide HL).blw (unhide F3) (unhide HG))).mono ?_
  rintro e W4 ⟨fx, L, k, a, er, rfl, hV, hb4, hn4, hs4⟩
  have A4 : Hid (Bx W4 2 w.heap.size [.slice none 0 0, .slice none 0 0]) := (unhide A3).fr (S := fun _ => False) (Fr.of_below hb4) (fun e => e)
  have C4 : Hid (Bx W4 2 (w.heap.size + 1) [.slice none 0 0, .slice none 0 0]) := (unhide C3).fr (S := fun _ => False) (Fr.of_below hb4) (fun e => e)
  have B4 : Hid (Bx W4 2 b3 [.slice pa pn pc, .slice qa qn qc]) := (unhide B3).fr (S := fun _ => False) (Fr.of_below hb4) (fun e => e)
  have F4 : Hid (Below w.heap.size w W4) := (unhide F3).trans (hb4.mono (unhide F3).size)
  have P4 : Hid (PW W1 W4 (.slice pa pn pc) (.slice qa qn qc) (decP B).1) := (unhide PX3).fr (S := fun _ => False) (Fr.of_below hb4) (fun _ _ e => e)
  have HV := hide hV
  have L4 := hide (unhide F3).size
  have S4 := hide hb4.size
  rcases hV.cases with ⟨rfl, hne⟩ | ⟨Ls, rfl, rfl, rfl, rfl, hlen⟩
  · obtain rfl := hn4 rfl
    clear A3 C3 B3 F3 PX3 hb4 hV hn4 hs4
    have i2 : (er != 0) = true := by simpa using hne
    have m0 := (unhide A4).cell (j := 0) rfl
    have m1 := (unhide A4).cell (j := 1) rfl
    have n0 := (unhide C4).cell (j := 0) rfl
    have n1 := (unhide C4).cell (j := 1) rfl
    have y0 := (unhide A4).free 0
    have y1 := (unhide A4).free 1
    have x0 := (unhide C4).free 0
    have x1 := (unhide C4).free 1
    have lA := (unhide A4).lt
    have lC := (unhide C4).lt
    have HP := hide (put4 (unhide A4) (unhide C4) (by omega) (.slice none 0 0) (.slice none 0 0) (.slice none 0 0) (.slice none 0 0))
    go_wp2_with fail
    obtain ⟨Z, eZ⟩ : ∃ Z, Hid (Z = (((W4.setCell ⟨w.heap.size, 0, none⟩ (.slice none 0 0)).setCell ⟨w.heap.size, 1, none⟩ (.slice none 0 0)).setCell ⟨w.heap.size + 1, 0, none⟩ (.slice none 0 0)).setCell ⟨w.heap.size + 1, 1, none⟩ (.slice none 0 0)) := ⟨_, rfl⟩
    rw [← unhide eZ] at HP ⊢
    obtain ⟨z1, z2, z3⟩ := unhide HP
    have al : ∀ o o' : Obj, Fr (fun _ => False) Z ((Z.alloc o).alloc o') := fun o o' => ((Fr.refl _ _).alloc o).alloc o'
    refine bodyPost_ret (results_mix (fn := Tryz.f11) (p := 2) (q := 3) (r := 4) rfl _ _ _ rfl rfl (load27 (z1.fr (al _ _) (fun e => e))) (load30 (z2.fr (al _ _) (fun e => e)))) rfl ?_
    refine ⟨none, 0, 0, none, 0, 0, none, 0, 0, none, 0, 0, er, rfl, ?_, .inl ⟨hne, rfl, rfl, rfl, rfl, .inr ⟨unhide hd, k, a, unhide HV⟩⟩⟩
    have f1 := (unhide F4).trans (Fr.below z3 (unhide F4).size (fun k hk e => by omega))
    exact f1.trans ((al _ _).below f1.size (fun _ _ e => e))
  · obtain ⟨hv, mv, rfl, hF⟩ := hs4 Ls rfl
    have HF : Hid (FcR W1.heap.size W4 hv mv Ls) := hF.low (Nat.le_trans (unhide S2) (unhide S3))
    obtain ⟨ha, hc, ma, mc, rfl, rfl⟩ := hF.shape
    obtain ⟨M, hM⟩ : ∃ M, Hid (Ls.length = M) := ⟨_, rfl⟩
    rw [unhide hM] at HF ⊢
    obtain ⟨W5, eW5⟩ : ∃ W5, Hid (W5 = (W4.alloc (.cells #[.slice ha M hc, .slice ma M mc] 37)).alloc (.cells #[.int .i64 0, .int .i64 0] 41)) := ⟨_, rfl⟩
    have f5 : Fr (fun _ => False) W4 W5 := by rw [unhide eW5]; exact ((Fr.refl _ _).alloc _).alloc _
    have hA := (unhide A4).fr f5 (fun e => e)
    have hC := (unhide C4).fr f5 (fun e => e)
    have hBp := (unhide B4).fr f5 (fun e => e)
    obtain ⟨g4, eg4⟩ : ∃ b, Hid (W4.heap.size = b) := ⟨_, rfl⟩
    have hG : Bx W5 2 g4 [.slice ha M hc, .slice ma M mc] := by rw [unhide eW5]; exact (Bx.new rfl (unhide eg4)).fr (S := fun _ => False) ((Fr.refl _ _).alloc _) (fun e => e)
    have F5 : Hid (Below w.heap.size w W5) := (unhide F4).trans (f5.below (unhide F4).size (fun _ _ e => e))
    have P5 : Hid (PW W1 W5 (.slice pa pn pc) (.slice qa qn qc) (decP B).1) := (unhide P4).fr f5 (fun _ _ e => e)
    have HF5 : Hid (FcR W1.heap.size W5 (.slice ha M hc) (.slice ma M mc) Ls) := (unhide HF).fr f5 (fun _ _ e => e)
    have L5 : Hid (w.heap.size + 1 < g4) := by have := (unhide C4).lt; have := unhide eg4; unfold Hid; omega
    have p0 := hBp.cell (j := 0) rfl
    have p1 := hBp.cell (j := 1) rfl
    have lB := hBp.lt
    have g0 := hG.cell (j := 0) rfl
    have g1 := hG.cell (j := 1) rfl
    have lG := hG.lt
    have m0 := hA.cell (j := 0) rfl
    have m1 := hA.cell (j := 1) rfl
    have n0 := hC.cell (j := 0) rfl
    have n1 := hC.cell (j := 1) rfl
    have y0 := hA.free 0
    have y1 := hA.free 1
    have x0 := hC.free 0
    have x1 := hC.free 1
    have lA := hA.lt
    have lC := hC.lt
    have Q2 := hide hA
    have Q3 := hide hC
    have dB : Hid (¬ (b3 = w.heap.size ∨ b3 = w.heap.size + 1)) := by have := unhide L3; unfold Hid; omega
    have dG : Hid (¬ (g4 = w.heap.size ∨ g4 = w.heap.size + 1)) := by have := unhide L5; unfold Hid; omega
    have HSt1 : Hid (Fr (fun k => k = w.heap.size ∨ k = w.heap.size + 1) W5 (W5.drew.setCells w.heap.size 0 [.slice pa pn pc, .slice qa qn qc])) := (Fr.refl (fun k => k = w.heap.size ∨ k = w.heap.size + 1) W5).drew.step (setcells_fr _ _ _ _) (fun _ _ e => .inl e)
    have HSt2 : Hid (Fr (fun k => k = w.heap.size ∨ k = w.heap.size + 1) W5 ((W5.drew.setCells w.heap.size 0 [.slice pa pn pc, .slice qa qn qc]).setCells (w.heap.size + 1) 0 [.slice ha M hc, .slice ma M mc])) := (unhide HSt1).step (setcells_fr _ _ _ _) (fun _ _ e => .inr e)
    clear A3 C3 B3 F3 PX3 hb4 hV hn4 hs4 hF A4 C4 B4 F4 P4 HF f5 hA hC hBp hG
    go_wp2_with fail
    rw [← unhide eW5, unhide eg4]
    clear eW5
    refine wp_region_held_drew (S := (fun wx => Fr (fun k => k = w.heap.size ∨ k = w.heap.size + 1) W5 wx)) (by kernel_rfl) ((Fr.refl _ W5).drew) (fun hHeld => ?_)
    refine wpAnyH_take (i := 0) (oi := _) (v := .agg #[.slice pa pn pc, .slice qa qn qc]) rfl (by kernel_rfl) (by kernel_rfl) (by kernel_rfl) (fun _ _ _ h => h) (Or.inl ⟨by rfl, (by intro wx hSw; have q0 := (hSw.cell (a := ⟨b3, 0, none⟩) lB (unhide dB)).trans p0; have q1 := (hSw.cell (a := ⟨b3, 1, none⟩) lB (unhide dB)).trans p1; have lx := Nat.lt_of_lt_of_le lB hSw.size; clear hSw; go_simp)⟩) (by assumption) ?_
    go_simp
    refine wpAnyH_take (i := 1) (oi := _) (v := .agg #[.slice ha M hc, .slice ma M mc]) rfl (by kernel_rfl) (by kernel_rfl) (by kernel_rfl) (fun _ _ _ h => h) (Or.inl ⟨by rfl, (by intro wx hSw; have q0 := (hSw.cell (a := ⟨g4, 0, none⟩) lG (unhide dG)).trans g0; have q1 := (hSw.cell (a := ⟨g4, 1, none⟩) lG (unhide dG)).trans g1; have lx := Nat.lt_of_lt_of_le lG hSw.size; clear hSw; go_simp)⟩) (by assumption) ?_
    go_simp
    refine wpAnyH_ready (rs := [2]) (by kernel_rfl) (by simp) ?_
    refine AllReadyH.cons (o := _) rfl (fun K hK => ?_) AllReadyH.nil
    go_simp
    refine hK.out _ _ (unhide HSt1) (fun hHeld3x => ?_)
    clear hK K
    refine wpAnyH_ready (rs := [3]) (by kernel_rfl) (by simp) ?_
    refine AllReadyH.cons (o := _) rfl (fun K hK => ?_) AllReadyH.nil
    go_simp
    refine hK.out _ _ (unhide HSt2) (fun hHeld4x => ?_)
    clear hK K
    refine wpAnyH_take (i := 4) (oi := _) (v := .int .i64 0) rfl (by kernel_rfl) (by kernel_rfl) (by kernel_rfl) (fun _ _ _ h => h) (Or.inl ⟨by rfl, (by intro w hSw; go_simp)⟩) (by assumption) ?_
    go_simp
    refine wpAnyH_done (by kernel_rfl) ?_ _
    clear hHeld hHeld3x hHeld4x HSt1 HSt2
    have HP := hide (put4 (unhide Q2) (unhide Q3) (by omega) (.slice pa pn pc) (.slice qa qn qc) (.slice ha M hc) (.slice ma M mc))
    obtain ⟨Z, eZ⟩ : ∃ Z, Hid (Z = (((W5.setCell ⟨w.heap.size, 0, none⟩ (.slice pa pn pc)).setCell ⟨w.heap.size, 1, none⟩ (.slice qa qn qc)).setCell ⟨w.heap.size + 1, 0, none⟩ (.slice ha M hc)).setCell ⟨w.heap.size + 1, 1, none⟩ (.slice ma M mc)) := ⟨_, rfl⟩
    rw [← unhide eZ] at HP ⊢
    obtain ⟨z1, z2, z3⟩ := unhide HP
    have al : Fr (fun _ => False) Z Z.drew := (Fr.refl _ _).drew
    have HZ1 := hide (z1.fr al (fun e => e))
    have HZ2 := hide (z2.fr al (fun e => e))
    have HZF : Hid (Below w.heap.size w Z.drew) := by
      have f1 := (unhide F5).trans (Fr.below z3 (unhide F5).size (fun k hk e => by omega))
      exact f1.trans (al.below f1.size (fun _ _ e => e))
    have hno : ∀ k, W1.heap.size ≤ k → ¬ (k = w.heap.size ∨ k = w.heap.size + 1) := fun k hk e => by have := unhide S1; omega
    have hS1 : w.heap.size ≤ W1.heap.size := by have := unhide S1; omega
    have HZP : Hid (PW w Z.drew (.slice pa pn pc) (.slice qa qn qc) (decP B).1) := ((((unhide P5).fr z3 hno).fr al (fun _ _ e => e)).low' hS1)
    have HZX : Hid (FcR w.heap.size Z.drew (.slice ha M hc) (.slice ma M mc) Ls) := (((unhide HF5).fr z3 hno).fr al (fun _ _ e => e)).low hS1
    clear z1 z2 z3 al HP eZ m0 m1 n0 n1 y0 y1 x0 x1 p0 p1 g0 g1 lA lC lB lG hno
    go_wp2_with fail
    (try simp only [Exit.inBlock, Exit.then])
    refine bodyPost_ret (results_mix (fn := Tryz.f11) (p := 2) (q := 3) (r := 4) rfl _ _ _ rfl rfl (load27 (unhide HZ1)) (load30 (unhide HZ2))) rfl ?_
    exact ⟨_, _, _, _, _, _, _, _, _, _, _, _, _, rfl, unhide HZF, .inr ⟨rfl, unhide hd, unhide HZP, Ls, unhide HV, unhide HZX⟩⟩
end Go.Proofs.YtpfogphpeegfdaaGreatDoor
