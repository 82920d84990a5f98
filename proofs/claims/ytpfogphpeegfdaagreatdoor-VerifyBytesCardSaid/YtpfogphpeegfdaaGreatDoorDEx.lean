/-
  What is read does not hang on what lies behind it.
-/
import Derived.Test.YtpfogphpeegfdaaGreatDoorDDe
namespace Go.Proofs.YtpfogphpeegfdaaGreatDoor
open Go.RowKit
set_option linter.unusedVariables false

theorem unum_ext (D : List Int) : ∀ (B : List Int) (i acc x : Nat) (t : List Int), unum i acc B = .ok (x, t) → unum i acc (B ++ D) = .ok (x, t ++ D) := by
  intro B
  induction B with
  | nil => intro i acc x t h; rw [unum] at h; cases h
  | cons b r ih =>
    intro i acc x t h
    rw [List.cons_append, unum_cons]
    rw [unum_cons] at h
    by_cases q : i = 9 ∧ b ≠ 1 ∨ 0 < i ∧ b = 0
    · rw [if_pos q] at h; cases h
    · rw [if_neg q] at h ⊢
      by_cases q2 : b < 128
      · rw [if_pos q2] at h ⊢
        cases h; rfl
      · rw [if_neg q2] at h ⊢
        exact ih _ _ _ _ h
theorem unumMost_ext (D : List Int) {most : Int} {B t : List Int} {x : Nat} (h : unumMost most B = .ok (x, t)) : unumMost most (B ++ D) = .ok (x, t ++ D) := by
  unfold unumMost at h ⊢
  cases hu : unum 0 0 B with
  | error k => rw [hu] at h; cases h
  | ok p =>
    obtain ⟨y, u⟩ := p
    rw [hu] at h
    rw [unum_ext D _ _ _ _ _ hu]
    simp only at h ⊢
    by_cases q : max most 0 < (y : Int)
    · rw [if_pos q] at h; cases h
    · rw [if_neg q] at h ⊢
      cases h; rfl
theorem unum_ne : ∀ (B : List Int) (i acc : Nat) (k : Int), unum i acc B = .error k → k ≠ 0 := by
  intro B
  induction B with
  | nil => intro i acc k h; rw [unum] at h; cases h; decide
  | cons b r ih =>
    intro i acc k h
    rw [unum_cons] at h
    by_cases q : i = 9 ∧ b ≠ 1 ∨ 0 < i ∧ b = 0
    · rw [if_pos q] at h; cases h; decide
    · rw [if_neg q] at h
      by_cases q2 : b < 128
      · rw [if_pos q2] at h; cases h
      · rw [if_neg q2] at h; exact ih _ _ _ h
theorem unumMost_ne {most : Int} {B : List Int} {k : Int} (h : unumMost most B = .error k) : k ≠ 0 := by
  unfold unumMost at h
  cases hu : unum 0 0 B with
  | error k' => rw [hu] at h; cases h; exact unum_ne _ _ _ _ hu
  | ok p =>
    obtain ⟨y, u⟩ := p
    rw [hu] at h
    simp only at h
    by_cases q : max most 0 < (y : Int)
    · rw [if_pos q] at h; cases h; decide
    · rw [if_neg q] at h; cases h
/-- A reading that went well goes as well with more behind. -/
def Ext {T : Type} (f : Sr → T × Sr) : Prop := ∀ (B D : List Int), (f (B, 0)).2.2 = 0 → f (B ++ D, 0) = ((f (B, 0)).1, ((f (B, 0)).2.1 ++ D, 0))
/-- Behind an error nothing goes well. -/
def Stk {T : Type} (f : Sr → T × Sr) : Prop := ∀ (s : Sr), s.2 ≠ 0 → (f s).2.2 ≠ 0
theorem cnt_ext (most : Int) : Ext (cnt most) := by
  intro B D h
  unfold cnt at h ⊢
  simp only [if_true] at h ⊢
  cases hu : unumMost most B with
  | error k =>
    rw [hu] at h
    simp only at h
    exact absurd h (unumMost_ne hu)
  | ok p => obtain ⟨x, t⟩ := p; rw [unumMost_ext D hu]
theorem cnt_stk (most : Int) : Stk (cnt most) := fun s h => by unfold cnt; rw [if_neg h]; exact h
theorem txt_ext (most : Int) : Ext (txt most) := by
  intro B D h
  unfold txt at h ⊢
  simp only [if_true] at h ⊢
  cases hu : unumMost most B with
  | error k => rw [hu] at h; simp only at h; exact absurd h (unumMost_ne hu)
  | ok p =>
    obtain ⟨x, t⟩ := p
    rw [hu] at h
    rw [unumMost_ext D hu]
    simp only at h ⊢
    by_cases q : t.length < x
    · rw [if_pos q] at h; simp at h
    · rw [if_neg q, if_neg (by rw [List.length_append]; omega), List.take_append_of_le_length (by omega), List.drop_append_of_le_length (by omega)]
theorem txt_stk (most : Int) : Stk (txt most) := fun s h => by unfold txt; rw [if_neg h]; exact h
theorem byt_ext : Ext byt := by
  intro B D h
  unfold byt at h ⊢
  simp only [if_true] at h ⊢
  cases B with
  | nil => simp at h
  | cons b t => rfl
theorem byt_stk : Stk byt := fun s h => by unfold byt; rw [if_neg h]; exact h
theorem wrd_ext : Ext wrd := by
  intro B D h
  unfold wrd at h ⊢
  simp only [if_true] at h ⊢
  by_cases q : B.length < 8
  · rw [if_pos q] at h; simp at h
  · rw [if_neg q, if_neg (by rw [List.length_append]; omega), List.take_append_of_le_length (by omega), List.drop_append_of_le_length (by omega)]
theorem wrd_stk : Stk wrd := fun s h => by unfold wrd; rw [if_neg h]; exact h
theorem raw_ext (n : Nat) : Ext (raw n) := by
  intro B D h
  unfold raw at h ⊢
  simp only [if_true] at h ⊢
  by_cases q : B.length < n
  · rw [if_pos q] at h; simp at h
  · rw [if_neg q, if_neg (by rw [List.length_append]; omega), List.take_append_of_le_length (by omega), List.drop_append_of_le_length (by omega)]
theorem raw_stk (n : Nat) : Stk (raw n) := fun s h => by unfold raw; rw [if_neg h]; exact h
theorem Ext.bind {A C : Type} {f : Sr → A × Sr} {g : A → Sr → C × Sr} (hf : Ext f) (hg : ∀ a, Ext (g a)) (sg : ∀ a, Stk (g a)) : Ext (fun s => g (f s).1 (f s).2) := by
  intro B D h
  simp only at h ⊢
  have h0 : (f (B, 0)).2.2 = 0 := Decidable.byContradiction fun q => sg _ _ q h
  rw [hf B D h0]
  rcases hq : f (B, 0) with ⟨x, t, e⟩
  rw [hq] at h h0
  simp only at h h0 ⊢
  subst h0
  exact hg x t D h
theorem Stk.bind {A C : Type} {f : Sr → A × Sr} {g : A → Sr → C × Sr} (sf : Stk f) (sg : ∀ a, Stk (g a)) : Stk (fun s => g (f s).1 (f s).2) := fun s h => sg _ _ (sf s h)
theorem Ext.ret {A : Type} (x : A) : Ext (fun s => (x, s)) := fun B D h => rfl
theorem Stk.ret {A : Type} (x : A) : Stk (fun s => (x, s)) := fun s h => h
theorem rdH_ext : Ext rdH := by
  intro B D h
  unfold rdH at h ⊢
  simp only at h ⊢
  have h3 : (cnt 64 (cnt 2000 (cnt 2000 (cnt 2000 (B, 0)).2).2).2).2.2 = 0 := h
  have h2 : (cnt 2000 (cnt 2000 (cnt 2000 (B, 0)).2).2).2.2 = 0 := Decidable.byContradiction fun q => cnt_stk _ _ q h3
  have h1 : (cnt 2000 (cnt 2000 (B, 0)).2).2.2 = 0 := Decidable.byContradiction fun q => cnt_stk _ _ q h2
  have h0 : (cnt 2000 (B, 0)).2.2 = 0 := Decidable.byContradiction fun q => cnt_stk _ _ q h1
  rw [cnt_ext 2000 B D h0]
  rcases q0 : cnt 2000 (B, 0) with ⟨x0, t0, e0⟩
  rw [q0] at h0 h1 h2 h3
  simp only at h0 h1 h2 h3 ⊢
  subst h0
  rw [cnt_ext 2000 t0 D h1]
  rcases q1 : cnt 2000 (t0, 0) with ⟨x1, t1, e1⟩
  rw [q1] at h1 h2 h3
  simp only at h1 h2 h3 ⊢
  subst h1
  rw [cnt_ext 2000 t1 D h2]
  rcases q2 : cnt 2000 (t1, 0) with ⟨x2, t2, e2⟩
  rw [q2] at h2 h3
  simp only at h2 h3 ⊢
  subst h2
  rw [cnt_ext 64 t2 D h3]
theorem rdH_stk : Stk rdH := fun s h => cnt_stk 64 _ (cnt_stk 2000 _ (cnt_stk 2000 _ (cnt_stk 2000 _ h)))
/-- The same of readings that tell an error. -/
def Ext3 {T : Type} (f : Sr → T × Int × Sr) : Prop := (∀ (s : Sr), s.2 ≠ 0 → (f s).2.1 ≠ 0) ∧ ∀ (B D : List Int), (f (B, 0)).2.1 = 0 → (f (B, 0)).2.2.2 = 0 ∧ f (B ++ D, 0) = ((f (B, 0)).1, 0, ((f (B, 0)).2.2.1 ++ D, 0))
theorem rdH1_ext : Ext3 rdH1 := by
  refine ⟨fun s h => rdH_stk s h, fun B D h => ⟨h, ?_⟩⟩
  have := rdH_ext B D h
  unfold rdH1
  rw [this]
theorem lp_ext {T : Type} {rd : Sr → T × Int × Sr} (h : Ext3 rd) : ∀ (n : Nat) (acc : List T) (B D : List Int), (lp rd n acc (B, 0)).2.1 = 0 → (lp rd n acc (B, 0)).2.2.2 = 0 ∧ lp rd n acc (B ++ D, 0) = ((lp rd n acc (B, 0)).1, 0, ((lp rd n acc (B, 0)).2.2.1 ++ D, 0)) := by
  intro n
  induction n with
  | zero => intro acc B D h0; exact ⟨rfl, rfl⟩
  | succ n ih =>
    intro acc B D h0
    rw [lp] at h0 ⊢
    by_cases q : (rd (B, 0)).2.1 ≠ 0
    · rw [if_pos q] at h0; exact absurd h0 q
    · rw [if_neg q] at h0 ⊢
      have q' : (rd (B, 0)).2.1 = 0 := by simpa using q
      obtain ⟨e1, e2⟩ := h.2 B D q'
      rw [lp, e2, if_neg (by simp)]
      simp only
      rcases hq : rd (B, 0) with ⟨x, er, t, e⟩
      rw [hq] at h0 e1
      simp only at h0 e1 ⊢
      subst e1
      exact ih _ _ D h0
theorem lp_stk {T : Type} {rd : Sr → T × Int × Sr} (h : Ext3 rd) (n : Nat) (acc : List T) (s : Sr) (hs : s.2 ≠ 0) : (lp rd n acc s).2.1 ≠ 0 := by
  cases n with
  | zero => exact hs
  | succ n => rw [lp, if_pos (h.1 s hs)]; exact h.1 s hs
theorem rdL_ext {T : Type} {rd : Sr → T × Int × Sr} (h : Ext3 rd) (most : Int) : Ext3 (rdL rd most) := by
  refine ⟨fun s hs => lp_stk h _ _ _ (cnt_stk most s hs), fun B D h0 => ?_⟩
  unfold rdL at h0 ⊢
  have hc : (cnt most (B, 0)).2.2 = 0 := Decidable.byContradiction fun q => lp_stk h _ _ _ q h0
  rw [cnt_ext most B D hc]
  rcases hq : cnt most (B, 0) with ⟨x, t, e⟩
  rw [hq] at h0 hc
  simp only at h0 hc ⊢
  subst hc
  exact lp_ext h _ _ _ D h0
theorem rdC_ext : Ext3 rdC := by
  refine ⟨fun s hs => ?_, fun B D h0 => ?_⟩
  · have h1 := byt_stk s hs
    unfold rdC
    by_cases q3 : (byt s).1 = 3
    · rw [if_pos q3]; exact wrd_stk _ h1
    · rw [if_neg q3]
      by_cases q4 : (byt s).1 = 4
      · rw [if_pos q4]; exact txt_stk _ _ h1
      · rw [if_neg q4, if_neg h1]; exact h1
  · have hb : (byt (B, 0)).2.2 = 0 := Decidable.byContradiction fun q => by
      unfold rdC at h0
      by_cases q3 : (byt (B, 0)).1 = 3
      · rw [if_pos q3] at h0; exact wrd_stk _ q h0
      · rw [if_neg q3] at h0
        by_cases q4 : (byt (B, 0)).1 = 4
        · rw [if_pos q4] at h0; exact txt_stk _ _ q h0
        · rw [if_neg q4, if_neg q] at h0; exact q h0
    unfold rdC at h0 ⊢
    rw [byt_ext B D hb]
    rcases hq : byt (B, 0) with ⟨x, t, e⟩
    rw [hq] at h0 hb
    simp only at h0 hb ⊢
    subst hb
    by_cases q3 : x = 3
    · rw [if_pos q3] at h0 ⊢
      rw [if_pos q3, wrd_ext t D h0]
      exact ⟨h0, rfl⟩
    · rw [if_neg q3] at h0 ⊢
      rw [if_neg q3]
      by_cases q4 : x = 4
      · rw [if_pos q4] at h0 ⊢
        rw [if_pos q4, txt_ext 4096 t D h0]
        exact ⟨h0, rfl⟩
      · rw [if_neg q4] at h0
        simp at h0
theorem rdF0_ext : Ext rdF0 := by
  intro B D h
  unfold rdF0 at h ⊢
  simp only at h ⊢
  have h4 : (raw (cnt 22000 (cnt 64 (cnt 64 (txt 32 (B, 0)).2).2).2).1 (cnt 22000 (cnt 64 (cnt 64 (txt 32 (B, 0)).2).2).2).2).2.2 = 0 := h
  have h3 : (cnt 22000 (cnt 64 (cnt 64 (txt 32 (B, 0)).2).2).2).2.2 = 0 := Decidable.byContradiction fun q => raw_stk _ _ q h4
  have h2 : (cnt 64 (cnt 64 (txt 32 (B, 0)).2).2).2.2 = 0 := Decidable.byContradiction fun q => cnt_stk _ _ q h3
  have h1 : (cnt 64 (txt 32 (B, 0)).2).2.2 = 0 := Decidable.byContradiction fun q => cnt_stk _ _ q h2
  have h0 : (txt 32 (B, 0)).2.2 = 0 := Decidable.byContradiction fun q => cnt_stk _ _ q h1
  rw [txt_ext 32 B D h0]
  rcases q0 : txt 32 (B, 0) with ⟨x0, t0, e0⟩
  rw [q0] at h0 h1 h2 h3 h4
  simp only at h0 h1 h2 h3 h4 ⊢
  subst h0
  rw [cnt_ext 64 t0 D h1]
  rcases q1 : cnt 64 (t0, 0) with ⟨x1, t1, e1⟩
  rw [q1] at h1 h2 h3 h4
  simp only at h1 h2 h3 h4 ⊢
  subst h1
  rw [cnt_ext 64 t1 D h2]
  rcases q2 : cnt 64 (t1, 0) with ⟨x2, t2, e2⟩
  rw [q2] at h2 h3 h4
  simp only at h2 h3 h4 ⊢
  subst h2
  rw [cnt_ext 22000 t2 D h3]
  rcases q3 : cnt 22000 (t2, 0) with ⟨x3, t3, e3⟩
  rw [q3] at h3 h4
  simp only at h3 h4 ⊢
  subst h3
  rw [raw_ext x3 t3 D h4]
theorem rdF0_stk : Stk rdF0 := fun s h => raw_stk _ _ (cnt_stk _ _ (cnt_stk _ _ (cnt_stk _ _ (txt_stk _ _ h))))
theorem rdF_ext : Ext3 rdF := by
  have key : ∀ s, (rdF0 s).2.2 ≠ 0 → (rdF s).2.1 ≠ 0 := fun s h => by
    unfold rdF
    by_cases q : errOf (dec (rdF0 s).1.2.2.2) ≠ 0
    · rw [if_pos q]; exact q
    · rw [if_neg q]; exact (rdL_ext rdH1_ext 32).1 _ h
  refine ⟨fun s hs => key s (rdF0_stk s hs), fun B D h0 => ?_⟩
  have hb : (rdF0 (B, 0)).2.2 = 0 := Decidable.byContradiction fun q => key _ q h0
  unfold rdF at h0 ⊢
  rw [rdF0_ext B D hb]
  rcases hq : rdF0 (B, 0) with ⟨x, t, e⟩
  rw [hq] at h0 hb
  simp only at h0 hb ⊢
  subst hb
  by_cases q : errOf (dec x.2.2.2) ≠ 0
  · rw [if_pos q] at h0; exact absurd h0 q
  · rw [if_neg q] at h0 ⊢
    obtain ⟨e1, e2⟩ := (rdL_ext rdH1_ext 32).2 t D h0
    rw [if_neg q, e2]
    exact ⟨e1, rfl⟩
theorem rdP_ext {B D : List Int} (h : (rdP (B, 0)).2 = 0) (hD : D ≠ []) : (rdP (B ++ D, 0)).2 ≠ 0 := by
  unfold rdP at h ⊢
  have hr : (raw 4 (B, 0)).2.2 = 0 := Decidable.byContradiction fun q => by
    rw [if_neg (fun c => q c.1)] at h
    have := (rdL_ext rdC_ext 512).1 _ q
    rw [if_pos this] at h
    exact this h
  rw [raw_ext 4 B D hr]
  rcases hq : raw 4 (B, 0) with ⟨x, t, e⟩
  rw [hq] at h hr
  simp only at h hr ⊢
  subst hr
  by_cases q1 : (toStr x).toList ≠ sgn4
  · have hc : ∀ P : Prop, P → (P ∧ (toStr x).toList ≠ sgn4) := fun P c => ⟨c, q1⟩
    rw [if_pos (hc _ (by simp))] at h; simp at h
  · have hc : ∀ P : Prop, ¬ (P ∧ (toStr x).toList ≠ sgn4) := fun P c => q1 c.2
    rw [if_neg (hc _)] at h ⊢
    by_cases q2 : (rdL rdC 512 (t, 0)).2.1 ≠ 0
    · rw [if_pos q2] at h; exact absurd h q2
    · rw [if_neg q2] at h
      obtain ⟨e1, e2⟩ := (rdL_ext rdC_ext 512).2 t D (by simpa using q2)
      rw [e2, if_neg (by simp)]
      rcases hq2 : rdL rdC 512 (t, 0) with ⟨cs, er, t2, e⟩
      rw [hq2] at h e1
      simp only at h e1 ⊢
      subst e1
      by_cases q3 : (rdL rdF 128 (t2, 0)).2.1 ≠ 0
      · rw [if_pos q3] at h; exact absurd h q3
      · rw [if_neg q3] at h
        obtain ⟨e3, e4⟩ := (rdL_ext rdF_ext 128).2 t2 D (by simpa using q3)
        rw [e4, if_neg (by simp)]
        simp only
        unfold rEnd
        rw [if_pos rfl, if_neg (by rw [List.length_append]; have := List.length_pos_iff.2 hD; omega)]
        decide
/-- Of what Decode takes no beginning is taken, and nothing longer. -/
theorem decP_more {B D : List Int} (h : (decP B).2 = 0) (hD : D ≠ []) : (decP (B ++ D)).2 ≠ 0 := by
  have h1 : (rdP (B, 0)).2 = 0 := Decidable.byContradiction fun q => by
    unfold decP at h
    split at h
    · simp at h
    · first | exact q h | (rw [if_pos q] at h; exact q h)
  have h2 := rdP_ext h1 hD
  unfold decP
  split
  · simp
  · first | exact h2 | (rw [if_pos h2]; exact h2)
theorem decP_less {B : List Int} {n : Nat} (h : (decP B).2 = 0) (hn : n < B.length) : (decP (B.take n)).2 ≠ 0 := by
  intro h0
  have := decP_more (D := B.drop n) h0 (by intro e; have := congrArg List.length e; simp at this; omega)
  rw [List.take_append_drop] at this
  exact this h
end Go.Proofs.YtpfogphpeegfdaaGreatDoor
