/-
  What Decode takes has these bytes and no others.
-/
import Derived.Test.YtlogmdldjmkkjaaGreatDoorDDe
import Derived.Test.YtlogmdldjmkkjaaGreatDoorDRd
import Derived.Test.YtlogmdldjmkkjaaGreatDoorSh0
import Derived.Test.YtlogmdldjmkkjaaGreatDoorSpoil
namespace Go.Proofs.YtlogmdldjmkkjaaGreatDoor
open Go.RowKit
set_option linter.unusedVariables false

theorem unum_ext (D : List Int) : ∀ (B : List Int) (i acc x : Nat) (t : List Int), unum i acc B = .ok (x, t) → unum i acc (B ++ D) = .ok (x, t ++ D) := by
  intro B
  induction B with
  | nil => intro i acc x t h; rw [unum] at h; cases h
  | cons b r ih =>
    intro i acc x t h
    rw [List.cons_append, unum_cons]
    rw [unum_cons] at h
    by_cases q : i = 9 ∧ b ≠ 1 ∨ 0 < i ∧ b = 0
    · rw [if_pos q] at h; cases h
    · rw [if_neg q] at h ⊢
      by_cases q2 : b < 128
      · rw [if_pos q2] at h ⊢
        cases h; rfl
      · rw [if_neg q2] at h ⊢
        exact ih _ _ _ _ h
theorem unumMost_ext (D : List Int) {most : Int} {B t : List Int} {x : Nat} (h : unumMost most B = .ok (x, t)) : unumMost most (B ++ D) = .ok (x, t ++ D) := by
  unfold unumMost at h ⊢
  cases hu : unum 0 0 B with
  | error k => rw [hu] at h; cases h
  | ok p =>
    obtain ⟨y, u⟩ := p
    rw [hu] at h
    rw [unum_ext D _ _ _ _ _ hu]
    simp only at h ⊢
    by_cases q : max most 0 < (y : Int)
    · rw [if_pos q] at h; cases h
    · rw [if_neg q] at h ⊢
      cases h; rfl
theorem unum_ne : ∀ (B : List Int) (i acc : Nat) (k : Int), unum i acc B = .error k → k ≠ 0 := by
  intro B
  induction B with
  | nil => intro i acc k h; rw [unum] at h; cases h; decide
  | cons b r ih =>
    intro i acc k h
    rw [unum_cons] at h
    by_cases q : i = 9 ∧ b ≠ 1 ∨ 0 < i ∧ b = 0
    · rw [if_pos q] at h; cases h; decide
    · rw [if_neg q] at h
      by_cases q2 : b < 128
      · rw [if_pos q2] at h; cases h
      · rw [if_neg q2] at h; exact ih _ _ _ h
theorem unumMost_ne {most : Int} {B : List Int} {k : Int} (h : unumMost most B = .error k) : k ≠ 0 := by
  unfold unumMost at h
  cases hu : unum 0 0 B with
  | error k' => rw [hu] at h; cases h; exact unum_ne _ _ _ _ hu
  | ok p =>
    obtain ⟨y, u⟩ := p
    rw [hu] at h
    simp only at h
    by_cases q : max most 0 < (y : Int)
    · rw [if_pos q] at h; cases h; decide
    · rw [if_neg q] at h; cases h
/-- A reading that went well goes as well with more behind. -/
def Ext {T : Type} (f : Sr → T × Sr) : Prop := ∀ (B D : List Int), (f (B, 0)).2.2 = 0 → f (B ++ D, 0) = ((f (B, 0)).1, ((f (B, 0)).2.1 ++ D, 0))
/-- Behind an error nothing goes well. -/
def Stk {T : Type} (f : Sr → T × Sr) : Prop := ∀ (s : Sr), s.2 ≠ 0 → (f s).2.2 ≠ 0
theorem cnt_ext (most : Int) : Ext (cnt most) := by
  intro B D h
  unfold cnt at h ⊢
  simp only [if_true] at h ⊢
  cases hu : unumMost most B with
  | error k =>
    rw [hu] at h
    simp only at h
    exact absurd h (unumMost_ne hu)
  | ok p => obtain ⟨x, t⟩ := p; rw [unumMost_ext D hu]
theorem cnt_stk (most : Int) : Stk (cnt most) := fun s h => by unfold cnt; rw [if_neg h]; exact h
theorem txt_ext (most : Int) : Ext (txt most) := by
  intro B D h
  unfold txt at h ⊢
  simp only [if_true] at h ⊢
  cases hu : unumMost most B with
  | error k => rw [hu] at h; simp only at h; exact absurd h (unumMost_ne hu)
  | ok p =>
    obtain ⟨x, t⟩ := p
    rw [hu] at h
    rw [unumMost_ext D hu]
    simp only at h ⊢
    by_cases q : t.length < x
    · rw [if_pos q] at h; simp at h
    · rw [if_neg q, if_neg (by rw [List.length_append]; omega), List.take_append_of_le_length (by omega), List.drop_append_of_le_length (by omega)]
theorem txt_stk (most : Int) : Stk (txt most) := fun s h => by unfold txt; rw [if_neg h]; exact h
theorem byt_ext : Ext byt := by
  intro B D h
  unfold byt at h ⊢
  simp only [if_true] at h ⊢
  cases B with
  | nil => simp at h
  | cons b t => rfl
theorem byt_stk : Stk byt := fun s h => by unfold byt; rw [if_neg h]; exact h
theorem wrd_ext : Ext wrd := by
  intro B D h
  unfold wrd at h ⊢
  simp only [if_true] at h ⊢
  by_cases q : B.length < 8
  · rw [if_pos q] at h; simp at h
  · rw [if_neg q, if_neg (by rw [List.length_append]; omega), List.take_append_of_le_length (by omega), List.drop_append_of_le_length (by omega)]
theorem wrd_stk : Stk wrd := fun s h => by unfold wrd; rw [if_neg h]; exact h
theorem raw_ext (n : Nat) : Ext (raw n) := by
  intro B D h
  unfold raw at h ⊢
  simp only [if_true] at h ⊢
  by_cases q : B.length < n
  · rw [if_pos q] at h; simp at h
  · rw [if_neg q, if_neg (by rw [List.length_append]; omega), List.take_append_of_le_length (by omega), List.drop_append_of_le_length (by omega)]
theorem raw_stk (n : Nat) : Stk (raw n) := fun s h => by unfold raw; rw [if_neg h]; exact h
theorem Ext.bind {A C : Type} {f : Sr → A × Sr} {g : A → Sr → C × Sr} (hf : Ext f) (hg : ∀ a, Ext (g a)) (sg : ∀ a, Stk (g a)) : Ext (fun s => g (f s).1 (f s).2) := by
  intro B D h
  simp only at h ⊢
  have h0 : (f (B, 0)).2.2 = 0 := Decidable.byContradiction fun q => sg _ _ q h
  rw [hf B D h0]
  rcases hq : f (B, 0) with ⟨x, t, e⟩
  rw [hq] at h h0
  simp only at h h0 ⊢
  subst h0
  exact hg x t D h
theorem Stk.bind {A C : Type} {f : Sr → A × Sr} {g : A → Sr → C × Sr} (sf : Stk f) (sg : ∀ a, Stk (g a)) : Stk (fun s => g (f s).1 (f s).2) := fun s h => sg _ _ (sf s h)
theorem Ext.ret {A : Type} (x : A) : Ext (fun s => (x, s)) := fun B D h => rfl
theorem Stk.ret {A : Type} (x : A) : Stk (fun s => (x, s)) := fun s h => h
theorem rdH_ext : Ext rdH := by
  intro B D h
  unfold rdH at h ⊢
  simp only at h ⊢
  have h3 : (cnt 64 (cnt 2000 (cnt 2000 (cnt 2000 (B, 0)).2).2).2).2.2 = 0 := h
  have h2 : (cnt 2000 (cnt 2000 (cnt 2000 (B, 0)).2).2).2.2 = 0 := Decidable.byContradiction fun q => cnt_stk _ _ q h3
  have h1 : (cnt 2000 (cnt 2000 (B, 0)).2).2.2 = 0 := Decidable.byContradiction fun q => cnt_stk _ _ q h2
  have h0 : (cnt 2000 (B, 0)).2.2 = 0 := Decidable.byContradiction fun q => cnt_stk _ _ q h1
  rw [cnt_ext 2000 B D h0]
  rcases q0 : cnt 2000 (B, 0) with ⟨x0, t0, e0⟩
  rw [q0] at h0 h1 h2 h3
  simp only at h0 h1 h2 h3 ⊢
  subst h0
  rw [cnt_ext 2000 t0 D h1]
  rcases q1 : cnt 2000 (t0, 0) with ⟨x1, t1, e1⟩
  rw [q1] at h1 h2 h3
  simp only at h1 h2 h3 ⊢
  subst h1
  rw [cnt_ext 2000 t1 D h2]
  rcases q2 : cnt 2000 (t1, 0) with ⟨x2, t2, e2⟩
  rw [q2] at h2 h3
  simp only at h2 h3 ⊢
  subst h2
  rw [cnt_ext 64 t2 D h3]
theorem rdH_stk : Stk rdH := fun s h => cnt_stk 64 _ (cnt_stk 2000 _ (cnt_stk 2000 _ (cnt_stk 2000 _ h)))
/-- The same of readings that tell an error. -/
def Ext3 {T : Type} (f : Sr → T × Int × Sr) : Prop := (∀ (s : Sr), s.2 ≠ 0 → (f s).2.1 ≠ 0) ∧ ∀ (B D : List Int), (f (B, 0)).2.1 = 0 → (f (B, 0)).2.2.2 = 0 ∧ f (B ++ D, 0) = ((f (B, 0)).1, 0, ((f (B, 0)).2.2.1 ++ D, 0))
theorem rdH1_ext : Ext3 rdH1 := by
  refine ⟨fun s h => rdH_stk s h, fun B D h => ⟨h, ?_⟩⟩
  have := rdH_ext B D h
  unfold rdH1
  rw [this]
theorem lp_ext {T : Type} {rd : Sr → T × Int × Sr} (h : Ext3 rd) : ∀ (n : Nat) (acc : List T) (B D : List Int), (lp rd n acc (B, 0)).2.1 = 0 → (lp rd n acc (B, 0)).2.2.2 = 0 ∧ lp rd n acc (B ++ D, 0) = ((lp rd n acc (B, 0)).1, 0, ((lp rd n acc (B, 0)).2.2.1 ++ D, 0)) := by
  intro n
  induction n with
  | zero => intro acc B D h0; exact ⟨rfl, rfl⟩
  | succ n ih =>
    intro acc B D h0
    rw [lp] at h0 ⊢
    by_cases q : (rd (B, 0)).2.1 ≠ 0
    · rw [if_pos q] at h0; exact absurd h0 q
    · rw [if_neg q] at h0 ⊢
      have q' : (rd (B, 0)).2.1 = 0 := by simpa using q
      obtain ⟨e1, e2⟩ := h.2 B D q'
      rw [lp, e2, if_neg (by simp)]
      simp only
      rcases hq : rd (B, 0) with ⟨x, er, t, e⟩
      rw [hq] at h0 e1
      simp only at h0 e1 ⊢
      subst e1
      exact ih _ _ D h0
theorem lp_stk {T : Type} {rd : Sr → T × Int × Sr} (h : Ext3 rd) (n : Nat) (acc : List T) (s : Sr) (hs : s.2 ≠ 0) : (lp rd n acc s).2.1 ≠ 0 := by
  cases n with
  | zero => exact hs
  | succ n => rw [lp, if_pos (h.1 s hs)]; exact h.1 s hs
theorem rdL_ext {T : Type} {rd : Sr → T × Int × Sr} (h : Ext3 rd) (most : Int) : Ext3 (rdL rd most) := by
  refine ⟨fun s hs => lp_stk h _ _ _ (cnt_stk most s hs), fun B D h0 => ?_⟩
  unfold rdL at h0 ⊢
  have hc : (cnt most (B, 0)).2.2 = 0 := Decidable.byContradiction fun q => lp_stk h _ _ _ q h0
  rw [cnt_ext most B D hc]
  rcases hq : cnt most (B, 0) with ⟨x, t, e⟩
  rw [hq] at h0 hc
  simp only at h0 hc ⊢
  subst hc
  exact lp_ext h _ _ _ D h0
theorem rdC_ext : Ext3 rdC := by
  refine ⟨fun s hs => ?_, fun B D h0 => ?_⟩
  · have h1 := byt_stk s hs
    unfold rdC
    by_cases q3 : (byt s).1 = 3
    · rw [if_pos q3]; exact wrd_stk _ h1
    · rw [if_neg q3]
      by_cases q4 : (byt s).1 = 4
      · rw [if_pos q4]; exact txt_stk _ _ h1
      · rw [if_neg q4, if_neg h1]; exact h1
  · have hb : (byt (B, 0)).2.2 = 0 := Decidable.byContradiction fun q => by
      unfold rdC at h0
      by_cases q3 : (byt (B, 0)).1 = 3
      · rw [if_pos q3] at h0; exact wrd_stk _ q h0
      · rw [if_neg q3] at h0
        by_cases q4 : (byt (B, 0)).1 = 4
        · rw [if_pos q4] at h0; exact txt_stk _ _ q h0
        · rw [if_neg q4, if_neg q] at h0; exact q h0
    unfold rdC at h0 ⊢
    rw [byt_ext B D hb]
    rcases hq : byt (B, 0) with ⟨x, t, e⟩
    rw [hq] at h0 hb
    simp only at h0 hb ⊢
    subst hb
    by_cases q3 : x = 3
    · rw [if_pos q3] at h0 ⊢
      rw [if_pos q3, wrd_ext t D h0]
      exact ⟨h0, rfl⟩
    · rw [if_neg q3] at h0 ⊢
      rw [if_neg q3]
      by_cases q4 : x = 4
      · rw [if_pos q4] at h0 ⊢
        rw [if_pos q4, txt_ext 4096 t D h0]
        exact ⟨h0, rfl⟩
      · rw [if_neg q4] at h0
        simp at h0
theorem rdF0_ext : Ext rdF0 := by
  intro B D h
  unfold rdF0 at h ⊢
  simp only at h ⊢
  have h4 : (raw (cnt 22000 (cnt 64 (cnt 64 (txt 32 (B, 0)).2).2).2).1 (cnt 22000 (cnt 64 (cnt 64 (txt 32 (B, 0)).2).2).2).2).2.2 = 0 := h
  have h3 : (cnt 22000 (cnt 64 (cnt 64 (txt 32 (B, 0)).2).2).2).2.2 = 0 := Decidable.byContradiction fun q => raw_stk _ _ q h4
  have h2 : (cnt 64 (cnt 64 (txt 32 (B, 0)).2).2).2.2 = 0 := Decidable.byContradiction fun q => cnt_stk _ _ q h3
  have h1 : (cnt 64 (txt 32 (B, 0)).2).2.2 = 0 := Decidable.byContradiction fun q => cnt_stk _ _ q h2
  have h0 : (txt 32 (B, 0)).2.2 = 0 := Decidable.byContradiction fun q => cnt_stk _ _ q h1
  rw [txt_ext 32 B D h0]
  rcases q0 : txt 32 (B, 0) with ⟨x0, t0, e0⟩
  rw [q0] at h0 h1 h2 h3 h4
  simp only at h0 h1 h2 h3 h4 ⊢
  subst h0
  rw [cnt_ext 64 t0 D h1]
  rcases q1 : cnt 64 (t0, 0) with ⟨x1, t1, e1⟩
  rw [q1] at h1 h2 h3 h4
  simp only at h1 h2 h3 h4 ⊢
  subst h1
  rw [cnt_ext 64 t1 D h2]
  rcases q2 : cnt 64 (t1, 0) with ⟨x2, t2, e2⟩
  rw [q2] at h2 h3 h4
  simp only at h2 h3 h4 ⊢
  subst h2
  rw [cnt_ext 22000 t2 D h3]
  rcases q3 : cnt 22000 (t2, 0) with ⟨x3, t3, e3⟩
  rw [q3] at h3 h4
  simp only at h3 h4 ⊢
  subst h3
  rw [raw_ext x3 t3 D h4]
theorem rdF0_stk : Stk rdF0 := fun s h => raw_stk _ _ (cnt_stk _ _ (cnt_stk _ _ (cnt_stk _ _ (txt_stk _ _ h))))
theorem rdF_ext : Ext3 rdF := by
  have key : ∀ s, (rdF0 s).2.2 ≠ 0 → (rdF s).2.1 ≠ 0 := fun s h => by
    unfold rdF
    by_cases q : errOf (dec (rdF0 s).1.2.2.2) ≠ 0
    · rw [if_pos q]; exact q
    · rw [if_neg q]; exact (rdL_ext rdH1_ext 32).1 _ h
  refine ⟨fun s hs => key s (rdF0_stk s hs), fun B D h0 => ?_⟩
  have hb : (rdF0 (B, 0)).2.2 = 0 := Decidable.byContradiction fun q => key _ q h0
  unfold rdF at h0 ⊢
  rw [rdF0_ext B D hb]
  rcases hq : rdF0 (B, 0) with ⟨x, t, e⟩
  rw [hq] at h0 hb
  simp only at h0 hb ⊢
  subst hb
  by_cases q : errOf (dec x.2.2.2) ≠ 0
  · rw [if_pos q] at h0; exact absurd h0 q
  · rw [if_neg q] at h0 ⊢
    obtain ⟨e1, e2⟩ := (rdL_ext rdH1_ext 32).2 t D h0
    rw [if_neg q, e2]
    exact ⟨e1, rfl⟩
theorem rdP_ext {B D : List Int} (h : (rdP (B, 0)).2 = 0) (hD : D ≠ []) : (rdP (B ++ D, 0)).2 ≠ 0 := by
  unfold rdP at h ⊢
  have hr : (raw 4 (B, 0)).2.2 = 0 := Decidable.byContradiction fun q => by
    rw [if_neg (fun c => q c.1)] at h
    have := (rdL_ext rdC_ext 512).1 _ q
    rw [if_pos this] at h
    exact this h
  rw [raw_ext 4 B D hr]
  rcases hq : raw 4 (B, 0) with ⟨x, t, e⟩
  rw [hq] at h hr
  simp only at h hr ⊢
  subst hr
  by_cases q1 : (toStr x).toList ≠ sgn4
  · have hc : ∀ P : Prop, P → (P ∧ (toStr x).toList ≠ sgn4) := fun P c => ⟨c, q1⟩
    rw [if_pos (hc _ (by simp))] at h; simp at h
  · have hc : ∀ P : Prop, ¬ (P ∧ (toStr x).toList ≠ sgn4) := fun P c => q1 c.2
    rw [if_neg (hc _)] at h ⊢
    by_cases q2 : (rdL rdC 512 (t, 0)).2.1 ≠ 0
    · rw [if_pos q2] at h; exact absurd h q2
    · rw [if_neg q2] at h
      obtain ⟨e1, e2⟩ := (rdL_ext rdC_ext 512).2 t D (by simpa using q2)
      rw [e2, if_neg (by simp)]
      rcases hq2 : rdL rdC 512 (t, 0) with ⟨cs, er, t2, e⟩
      rw [hq2] at h e1
      simp only at h e1 ⊢
      subst e1
      by_cases q3 : (rdL rdF 128 (t2, 0)).2.1 ≠ 0
      · rw [if_pos q3] at h; exact absurd h q3
      · rw [if_neg q3] at h
        obtain ⟨e3, e4⟩ := (rdL_ext rdF_ext 128).2 t2 D (by simpa using q3)
        rw [e4, if_neg (by simp)]
        simp only
        unfold rEnd
        rw [if_pos rfl, if_neg (by rw [List.length_append]; have := List.length_pos_iff.2 hD; omega)]
        decide
/-- Of what Decode takes no beginning is taken, and nothing longer. -/
theorem decP_more {B D : List Int} (h : (decP B).2 = 0) (hD : D ≠ []) : (decP (B ++ D)).2 ≠ 0 := by
  have h1 : (rdP (B, 0)).2 = 0 := Decidable.byContradiction fun q => by
    unfold decP at h
    split at h
    · simp at h
    · first | exact q h | (rw [if_pos q] at h; exact q h)
  have h2 := rdP_ext h1 hD
  unfold decP
  split
  · simp
  · first | exact h2 | (rw [if_pos h2]; exact h2)
theorem decP_less {B : List Int} {n : Nat} (h : (decP B).2 = 0) (hn : n < B.length) : (decP (B.take n)).2 ≠ 0 := by
  intro h0
  have := decP_more (D := B.drop n) h0 (by intro e; have := congrArg List.length e; simp at this; omega)
  rw [List.take_append_drop] at this
  exact this h

set_option linter.unusedVariables false

theorem unfold_fold (n : Int) : unfoldI (foldI n).toNat = n := by
  unfold foldI unfoldI
  split <;> split <;> omega
theorem encE_ok {l : List (Int × Int)} (h : encE l = 0) : l.length ≤ 2000 ∧ okL l = true := by
  unfold encE at h
  split at h
  · omega
  · split at h
    · rename_i h1 h2; exact ⟨by omega, h2⟩
    · omega
theorem encE_of {l : List (Int × Int)} (h1 : l.length ≤ 2000) (h2 : okL l = true) : encE l = 0 := by
  unfold encE
  rw [if_neg (by omega), if_pos h2]
theorem encB_ok {l : List (Int × Int)} (h : encE l = 0) : encB l = efm l := by unfold encB; rw [if_pos h]
theorem right0 {a : Int} (h : rightB 0 a = true) : a = 0 := by
  have e1 : lo 0 = 0 := rfl
  have e2 : hi 0 = 0 := rfl
  simp only [rightB, e1, e2] at h
  simp at h
  omega
theorem rightk {k : Nat} (hk : k < 9) (h0 : k ≠ 0) (h1 : k ≠ 1) {a : Int} (h : rightB k a = true) : 0 ≤ a ∧ a < 9223372036854775808 := by
  by_cases h7 : k = 7
  · subst h7
    have e : rightB 7 a = decide (a = 8 ∨ a = 16 ∨ a = 32) := rfl
    rw [e] at h
    simp at h
    omega
  · have e : rightB k a = decide (lo k ≤ a ∧ a ≤ hi k) := by rw [rightB, if_neg h7]
    rw [e] at h
    have : ∀ k : Fin 9, k.val ≠ 0 → k.val ≠ 1 → 0 ≤ lo k.val ∧ hi k.val < 9223372036854775808 := by decide +kernel
    have q : 0 ≤ lo k ∧ hi k < 9223372036854775808 := this ⟨k, hk⟩ h0 h1
    simp at h
    omega
theorem sI_small {x : Nat} (h : x < 9223372036854775808) : sI x = x := by
  unfold sI
  unfold wrap64
  omega
theorem sI_big {x : Nat} (h0 : 9223372036854775808 ≤ x) (h : x < 2 ^ 64) : sI x < 0 := by
  unfold sI
  unfold wrap64
  omega
theorem opR_back (k : Nat) (hk : k < 9) (a : Int) (ha : I64 a) (h : rightB k a = true) (t : List Int) : opR k (opF k a ++ t) = .ok (a, t) := by
  by_cases h0 : k = 0
  · subst h0
    rw [right0 h]
    rfl
  · by_cases h1 : k = 1
    · subst h1
      have e : opF 1 a = Wm.uform 9 (foldI a).toNat := rfl
      have hb := foldI_bd a ha.1 ha.2
      rw [e]
      unfold opR
      rw [if_neg (by omega), unum_form _ _ (by omega)]
      simp [unfold_fold]
    · have e : opF k a = Wm.uform 9 (a % 18446744073709551616).toNat := by unfold opF; rw [if_neg h0, if_neg h1]
      obtain ⟨q1, q2⟩ := rightk hk h0 h1 h
      rw [e]
      unfold opR
      rw [if_neg h0, unum_form _ _ (by omega)]
      simp only [if_neg h1]
      rw [sI_small (by omega)]
      congr 2
      omega
theorem okB_split {p : Int × Int} (h : okB p.1 p.2 = true) : isOp p.1 = true ∧ rightB (kd p.1.toNat) p.2 = true := by
  simpa [okB] using h
theorem rd1_back (p : Int × Int) (ha : I64 p.2) (h : okB p.1 p.2 = true) (t : List Int) : rd1 p.1 (opF (kd p.1.toNat) p.2 ++ t) = .ok (p, t) := by
  obtain ⟨h1, h2⟩ := okB_split h
  unfold rd1
  rw [if_pos h1, opR_back _ (kd_lt _) _ ha h2]
  simp only [h, if_true]
theorem decG_back : ∀ (l : List (Int × Int)) (f : Nat) (acc : List (Int × Int)), (∀ p ∈ l, I64 p.2) → okL l = true → acc.length + l.length ≤ 2000 → (efm l).length < f → decG f acc (efm l) = .ok (acc ++ l)
  | [], f, acc, _, _, _, _ => by
    have : efm [] = [] := rfl
    rw [this, decG_nil, List.append_nil]
  | p :: r, f, acc, hI, hok, hl, hf => by
    have e : efm (p :: r) = p.1 :: (opF (kd p.1.toNat) p.2 ++ efm r) := by simp [efm, ifm]
    rw [e] at hf ⊢
    obtain ⟨f', rfl⟩ : ∃ f', f = f' + 1 := ⟨f - 1, by simp at hf; omega⟩
    have hp : okB p.1 p.2 = true := by simp [okL] at hok; exact hok.1
    have hr : okL r = true := by simp [okL] at hok ⊢; exact hok.2
    simp only [List.length_cons] at hl
    rw [decG, if_neg (by omega), rd1_back p (hI p (List.mem_cons_self ..)) hp]
    simp only
    rw [decG_back r f' (acc ++ [p]) (fun q hq => hI q (List.mem_cons_of_mem _ hq)) hr (by rw [List.length_append, List.length_singleton]; omega) (by simp at hf; omega)]
    rw [List.append_assoc]; rfl
theorem dec_back {l : List (Int × Int)} (hI : ∀ p ∈ l, I64 p.1 ∧ I64 p.2) (h : encE l = 0) : dec (encB l) = .ok l := by
  obtain ⟨h1, h2⟩ := encE_ok h
  rw [encB_ok h]
  have := decG_back l ((efm l).length + 1) [] (fun p hp => (hI p hp).2) h2 (by simpa using h1) (by omega)
  simpa [dec] using this
theorem opR_one {k : Nat} (hk : k < 9) {t t' : List Int} {a : Int} (hB : BOk t) (h : opR k t = .ok (a, t')) (hr : rightB k a = true) : opF k a ++ t' = t ∧ I64 a := by
  by_cases h0 : k = 0
  · subst h0
    have e : opR 0 t = .ok (0, t) := rfl
    rw [e] at h
    cases h
    exact ⟨rfl, by decide, by decide⟩
  · unfold opR at h
    rw [if_neg h0] at h
    split at h
    · cases h
    · rename_i x t2 hu
      obtain ⟨hx, _⟩ := unum_lt 0 0 t x t2 (by omega) (by decide) hB hu
      have h1 := unum_one t x t2 hB hu
      cases h
      by_cases h1k : k = 1
      · subst h1k
        rw [if_pos rfl]
        have e : opF 1 (unfoldI x) = Wm.uform 9 (foldI (unfoldI x)).toNat := rfl
        rw [e, fold_unfold]
        exact ⟨by simpa using h1, unfold_bd x hx⟩
      · rw [if_neg h1k] at hr ⊢
        obtain ⟨q1, q2⟩ := rightk hk h0 h1k hr
        have hs : x < 9223372036854775808 := by
          rcases Nat.lt_or_ge x 9223372036854775808 with c | c
          · exact c
          · have := sI_big c hx; omega
        rw [sI_small hs] at q1 q2 ⊢
        have e : opF k (x : Int) = Wm.uform 9 ((x : Int) % 18446744073709551616).toNat := by unfold opF; rw [if_neg h0, if_neg h1k]
        rw [e, show ((x : Int) % 18446744073709551616).toNat = x by omega]
        exact ⟨h1, by unfold I64; omega⟩
theorem rd1_one {b : Int} {t t' : List Int} {p : Int × Int} (hB : BOk t) (h : rd1 b t = .ok (p, t')) : ifm p ++ t' = b :: t ∧ okB p.1 p.2 = true ∧ I64 p.1 ∧ I64 p.2 := by
  obtain ⟨_, _, q1, q2, q3, q4⟩ := rd1_ok hB h
  obtain ⟨_, q5⟩ := okB_split q2
  rw [q1] at q5
  obtain ⟨q6, q7⟩ := opR_one (kd_lt _) hB q3 q5
  refine ⟨?_, q2, ?_, q7⟩
  · unfold ifm
    rw [q1, List.cons_append, q6]
  · have : 0 ≤ b ∧ b < 67 := by simpa [isOp] using q4
    rw [q1]; unfold I64; omega
theorem decG_one : ∀ (f : Nat) (acc l : List (Int × Int)) (B : List Int), BOk B → B.length < f → acc.length ≤ 2000 → decG f acc B = .ok l → ∃ m, l = acc ++ m ∧ okL m = true ∧ efm m = B ∧ l.length ≤ 2000 ∧ ∀ p ∈ m, I64 p.1 ∧ I64 p.2
  | 0, _, _, _, _, hf, _, _ => by omega
  | f + 1, acc, l, [], _, _, ha, h => by
    rw [decG_nil] at h
    cases h
    exact ⟨[], by simp, rfl, rfl, ha, fun p hp => by cases hp⟩
  | f + 1, acc, l, b :: t, hB, hf, ha, h => by
    rw [decG] at h
    split at h
    · cases h
    · rename_i hne
      split at h
      · cases h
      · rename_i p t' hrd
        have hBt : BOk t := fun x hx => hB x (List.mem_cons_of_mem _ hx)
        obtain ⟨q1, q2, q3⟩ := rd1_one hBt hrd
        obtain ⟨q4, q5, _⟩ := rd1_ok hBt hrd
        obtain ⟨m, e1, e2, e3, e4, e5⟩ := decG_one f (acc ++ [p]) l t' q4 (by simp at hf; omega) (by rw [List.length_append, List.length_singleton]; omega) h
        refine ⟨p :: m, by rw [e1]; simp, ?_, ?_, e4, ?_⟩
        · simp [okL] at e2 ⊢; exact ⟨q2, e2⟩
        · rw [← q1, ← e3]; simp [efm]
        · intro q hq
          rcases List.mem_cons.1 hq with rfl | hq
          · exact q3
          · exact e5 q hq
theorem dec_one {B : List Int} (hB : BOk B) {l : List (Int × Int)} (h : dec B = .ok l) : encE l = 0 ∧ encB l = B ∧ ∀ p ∈ l, I64 p.1 ∧ I64 p.2 := by
  obtain ⟨m, e1, e2, e3, e4, e5⟩ := decG_one _ [] l B hB (by omega) (by simp) h
  simp at e1
  subst e1
  have e := encE_of e4 e2
  exact ⟨e, by rw [encB_ok e, e3], e5⟩

theorem errOf_ne {B : List Int} (e : Int) (h : dec B = .error e) : e ≠ 0 := by
  have : ∀ (f : Nat) (acc : List (Int × Int)) (B : List Int), decG f acc B = .error e → e ≠ 0 := by
    intro f
    induction f with
    | zero => intro acc B h; cases h
    | succ f ih =>
      intro acc B h
      cases B with
      | nil => rw [decG_nil] at h; cases h
      | cons b t =>
        rw [decG] at h
        split at h
        · cases h; decide
        · split at h
          · rename_i er hrd
            cases h
            unfold rd1 at hrd
            split at hrd
            · split at hrd
              · rename_i e2 ho
                cases hrd
                exact opR_err ho
              · split at hrd
                · cases hrd
                · cases hrd; decide
            · cases hrd; decide
          · exact ih _ _ h
  exact this _ _ _ h

set_option maxRecDepth 100000 in
set_option maxHeartbeats 4000000 in
theorem sameC_any {w : World} {u v : Value} {l : List (Int × Int)} (hu : RtV w u l) (hv : RtV w v l) :
    Calls Tryz.prog 51 #[u, v] w fun e w' => e = .returned (.bool true) ∧ ∃ k, w' = w.drewN k := by
  obtain ⟨ua, uc, rfl, hu1, um, hU⟩ := hu
  obtain ⟨va, vc, rfl, hv1, vm, hV⟩ := hv
  have HU := hide hU
  have HV := hide hV
  obtain ⟨L, hL⟩ : ∃ L, Hid (l.length = L) := ⟨_, rfl⟩
  have hLm : L ≤ maxLen := by rw [← unhide hL]; omega
  unfold maxLen at hLm
  rw [unhide hL] at ⊢
  clear hU hV um vm hu1 hv1
  have d0 : (((L : Nat) : Int) != (L : Int)) = false := by simp
  go_enter Tryz.func51, Tryz.ntmps51
  go_wp2_with fail
  go_loopg [5] L (fun gg t5 wr => ∃ (i : Nat), Hid (i + gg = L) ∧ t5 = .int .i64 (i : Int) ∧ Hid (∃ k, wr = w.drewN k))
  case atStart => exact ⟨0, by unfold Hid; omega, rfl, 0, rfl⟩
  case round =>
    obtain ⟨i, hi, rfl, hB⟩ := hrel
    by_cases hlt : i < L
    · have hil : i < l.length := by rw [unhide hL]; exact hlt
      obtain ⟨p, hp⟩ : ∃ p, l[i]? = some p := ⟨_, List.getElem?_eq_getElem hil⟩
      obtain ⟨b, so, rfl, hb, c0, c1⟩ := unhide HU i p hp
      obtain ⟨g, off, rfl, hg, q0, q1⟩ := unhide HV i p hp
      have fd : Fr (fun _ => False) w wr := by obtain ⟨k, e⟩ := unhide hB; rw [e]; exact ⟨rfl, rfl, rfl, Nat.le_refl _, fun _ _ _ => rfl⟩
      have lb := Nat.lt_of_lt_of_le hb fd.size
      have lg := Nat.lt_of_lt_of_le hg fd.size
      have k0 := (fd.cell (a := ⟨b, so + i * 2, none⟩) hb (fun e => e)).trans c0
      have k1 := (fd.cell (a := ⟨b, so + i * 2 + 1, none⟩) hb (fun e => e)).trans c1
      have r0 := (fd.cell (a := ⟨g, off + i * 2, none⟩) hg (fun e => e)).trans q0
      have r1 := (fd.cell (a := ⟨g, off + i * 2 + 1, none⟩) hg (fun e => e)).trans q1
      have i0 : (0 : Int) ≤ (i : Int) := by omega
      have i1 : (i : Int) < (L : Int) := by omega
      clear c0 c1 q0 q1 hp hb hg fd
      go_wp2_with fail
      go_quiet (fail)
      go_wp2_with fail
      go_roundg (gk - 1)
      case measure => have := unhide hi; omega
      case rel => exact ⟨i + 1, by have := unhide hi; unfold Hid; omega, by go_num, by obtain ⟨k, e⟩ := unhide hB; exact ⟨k + nq, by rw [e, World.drewN_drewN]⟩⟩
    · have hiL : i = L := by have := unhide hi; omega
      subst hiL
      obtain ⟨k, rfl⟩ := unhide hB
      go_wp2_with fail
      go_ret
      exact ⟨rfl, k, rfl⟩

set_option linter.unusedVariables false
set_option linter.unusedSimpArgs false
set_option maxRecDepth 100000

/-- A reading that went well took just the form of what it answers. -/
def One {T : Type} (f : Sr → T × Sr) (fm : T → List Int) (P : T → Prop) : Prop := ∀ B : List Int, BOk B → (f (B, 0)).2.2 = 0 → fm (f (B, 0)).1 ++ (f (B, 0)).2.1 = B ∧ BOk (f (B, 0)).2.1 ∧ P (f (B, 0)).1
def One3 {T : Type} (f : Sr → T × Int × Sr) (fm : T → List Int) (P : T → Prop) : Prop := ∀ B : List Int, BOk B → (f (B, 0)).2.1 = 0 → (f (B, 0)).2.2.2 = 0 ∧ fm (f (B, 0)).1 ++ (f (B, 0)).2.2.1 = B ∧ BOk (f (B, 0)).2.2.1 ∧ P (f (B, 0)).1
theorem unumMost_one {most : Int} {B t : List Int} {x : Nat} (hB : BOk B) (h : unumMost most B = .ok (x, t)) : Wm.uform 9 x ++ t = B ∧ BOk t := by
  refine ⟨?_, unumMost_ok hB h⟩
  unfold unumMost at h
  cases hu : unum 0 0 B with
  | error k => rw [hu] at h; cases h
  | ok p =>
    obtain ⟨y, u⟩ := p
    rw [hu] at h
    simp only at h
    by_cases q : max most 0 < (y : Int)
    · rw [if_pos q] at h; cases h
    · rw [if_neg q] at h
      cases h
      exact unum_one _ _ _ hB hu
theorem cnt_one (most : Int) : One (cnt most) (fun x => ufm (x : Int)) (fun x => (x : Int) ≤ max most 0) := by
  intro B hB h
  refine ⟨?_, ?_, cnt_le most (B, 0)⟩
  all_goals
    unfold cnt at h ⊢
    simp only [if_true] at h ⊢
    cases hu : unumMost most B with
    | error k => rw [hu] at h; simp only at h; exact absurd h (unumMost_ne hu)
    | ok p =>
      obtain ⟨x, t⟩ := p
      obtain ⟨q1, q2⟩ := unumMost_one hB hu
      first | exact q2 | (unfold ufm; simpa using q1)
theorem txt_one (most : Int) : One (txt most) (fun s => Wm.uform 9 s.size ++ strI s) (fun s => (s.size : Int) ≤ max most 0) := by
  intro B hB h
  refine ⟨?_, ?_, txt_len most (B, 0)⟩
  all_goals
    unfold txt at h ⊢
    simp only [if_true] at h ⊢
    cases hu : unumMost most B with
    | error k => rw [hu] at h; simp only at h; exact absurd h (unumMost_ne hu)
    | ok p =>
      obtain ⟨x, t⟩ := p
      rw [hu] at h
      obtain ⟨q1, q2⟩ := unumMost_one hB hu
      simp only at h ⊢
      by_cases q : t.length < x
      · rw [if_pos q] at h; simp at h
      · rw [if_neg q]
        first
        | exact q2.drop x
        | (simp only
           rw [toStr_size, strI_toStr _ (q2.take x), List.length_take, Nat.min_eq_left (by omega), List.append_assoc, List.take_append_drop]
           exact q1)
theorem byt_one : One byt (fun b => [b]) (fun b => 0 ≤ b ∧ b < 256) := by
  intro B hB h
  refine ⟨?_, ?_, byt_lt (s := (B, 0)) hB⟩
  all_goals
    unfold byt at h ⊢
    simp only [if_true] at h ⊢
    cases B with
    | nil => simp at h
    | cons b t =>
      first | exact (fun x hx => hB x (List.mem_cons_of_mem _ hx)) | rfl
theorem wrd_one : One wrd (fun x => wpre x 8) (fun x => x < 2 ^ 64) := by
  intro B hB h
  refine ⟨?_, ?_, ?_⟩
  all_goals
    unfold wrd at h ⊢
    simp only [if_true] at h ⊢
    by_cases q : B.length < 8
    · rw [if_pos q] at h; simp at h
    · rw [if_neg q]
      first
      | exact hB.drop 8
      | (simp only
         rw [wpre_wnum _ (by rw [List.length_take]; omega) (hB.take 8), List.take_append_drop])
      | exact wnum_lt64 _ (by rw [List.length_take]; omega) (hB.take 8)
theorem raw_one (n : Nat) : One (raw n) (fun b => b) (fun b => b.length = n ∧ BOk b) := by
  intro B hB h
  refine ⟨?_, ?_, ?_⟩
  all_goals
    unfold raw at h ⊢
    simp only [if_true] at h ⊢
    by_cases q : B.length < n
    · rw [if_pos q] at h; simp at h
    · rw [if_neg q]
      first
      | exact hB.drop n
      | exact List.take_append_drop _ _
      | exact ⟨by rw [List.length_take]; omega, hB.take n⟩
theorem rdH_one : One rdH hfm NnH := by
  intro B hB h
  unfold rdH at h ⊢
  simp only at h ⊢
  have h3 : (cnt 64 (cnt 2000 (cnt 2000 (cnt 2000 (B, 0)).2).2).2).2.2 = 0 := h
  have h2 : (cnt 2000 (cnt 2000 (cnt 2000 (B, 0)).2).2).2.2 = 0 := Decidable.byContradiction fun q => cnt_stk _ _ q h3
  have h1 : (cnt 2000 (cnt 2000 (B, 0)).2).2.2 = 0 := Decidable.byContradiction fun q => cnt_stk _ _ q h2
  have h0 : (cnt 2000 (B, 0)).2.2 = 0 := Decidable.byContradiction fun q => cnt_stk _ _ q h1
  obtain ⟨a0, b0, c0⟩ := cnt_one 2000 B hB h0
  rcases q0 : cnt 2000 (B, 0) with ⟨x0, t0, e0⟩
  rw [q0] at h0 h1 h2 h3 a0 b0 c0
  simp only at h0 h1 h2 h3 a0 b0 c0 ⊢
  subst h0
  obtain ⟨a1, b1, c1⟩ := cnt_one 2000 t0 b0 h1
  rcases q1 : cnt 2000 (t0, 0) with ⟨x1, t1, e1⟩
  rw [q1] at h1 h2 h3 a1 b1 c1
  simp only at h1 h2 h3 a1 b1 c1 ⊢
  subst h1
  obtain ⟨a2, b2, c2⟩ := cnt_one 2000 t1 b1 h2
  rcases q2 : cnt 2000 (t1, 0) with ⟨x2, t2, e2⟩
  rw [q2] at h2 h3 a2 b2 c2
  simp only at h2 h3 a2 b2 c2 ⊢
  subst h2
  obtain ⟨a3, b3, c3⟩ := cnt_one 64 t2 b2 h3
  rcases q3 : cnt 64 (t2, 0) with ⟨x3, t3, e3⟩
  rw [q3] at h3 a3 b3 c3
  simp only at h3 a3 b3 c3 ⊢
  refine ⟨?_, b3, ?_⟩
  · unfold hfm
    simp only [List.append_assoc]
    rw [a3, a2, a1, a0]
  · unfold NnH
    simp only
    omega
theorem rdH1_one : One3 rdH1 hfm NnH := fun B hB h => ⟨h, rdH_one B hB h⟩
theorem lp_one {T : Type} {rd : Sr → T × Int × Sr} {fm : T → List Int} {P : T → Prop} (h : One3 rd fm P) : ∀ (n : Nat) (acc : List T) (B : List Int), BOk B → (lp rd n acc (B, 0)).2.1 = 0 →
    (lp rd n acc (B, 0)).2.2.2 = 0 ∧ ∃ m, (lp rd n acc (B, 0)).1 = acc ++ m ∧ m.length = n ∧ m.flatMap fm ++ (lp rd n acc (B, 0)).2.2.1 = B ∧ BOk (lp rd n acc (B, 0)).2.2.1 ∧ ∀ x ∈ m, P x := by
  intro n
  induction n with
  | zero => intro acc B hB h0; exact ⟨rfl, [], by simp [lp], rfl, rfl, hB, fun x hx => by simp at hx⟩
  | succ n ih =>
    intro acc B hB h0
    rw [lp] at h0 ⊢
    by_cases q : (rd (B, 0)).2.1 ≠ 0
    · rw [if_pos q] at h0; exact absurd h0 q
    · rw [if_neg q] at h0 ⊢
      have q' : (rd (B, 0)).2.1 = 0 := by simpa using q
      obtain ⟨e1, e2, e3, e4⟩ := h B hB q'
      rcases hq : rd (B, 0) with ⟨x, er, t, e⟩
      rw [hq] at h0 e1 e2 e3 e4
      simp only at h0 e1 e2 e3 e4 ⊢
      subst e1
      obtain ⟨g1, m, g2, g3, g4, g5, g6⟩ := ih (acc ++ [x]) t e3 h0
      refine ⟨g1, x :: m, by rw [g2]; simp, by simp [g3], ?_, g5, fun y hy => ?_⟩
      · rw [List.flatMap_cons, List.append_assoc, g4, e2]
      · rcases List.mem_cons.1 hy with rfl | hy
        · exact e4
        · exact g6 y hy
theorem rdL_one {T : Type} {rd : Sr → T × Int × Sr} {fm : T → List Int} {P : T → Prop} (h : One3 rd fm P) (he : Ext3 rd) (most : Int) : One3 (rdL rd most) (lfm fm) (fun l => (l.length : Int) ≤ max most 0 ∧ ∀ x ∈ l, P x) := by
  intro B hB h0
  unfold rdL at h0 ⊢
  have hc : (cnt most (B, 0)).2.2 = 0 := Decidable.byContradiction fun q => lp_stk he _ _ _ q h0
  obtain ⟨a0, b0, c0⟩ := cnt_one most B hB hc
  rcases hq : cnt most (B, 0) with ⟨x, t, e⟩
  rw [hq] at h0 hc a0 b0 c0
  simp only at h0 hc a0 b0 c0 ⊢
  subst hc
  obtain ⟨g1, m, g2, g3, g4, g5, g6⟩ := lp_one h x [] t b0 h0
  rw [List.nil_append] at g2
  refine ⟨g1, ?_, g5, ?_⟩
  · rw [g2]
    unfold lfm
    rw [List.append_assoc, g4, g3, a0]
  · rw [g2, g3]
    exact ⟨c0, g6⟩
theorem u64_wrap64 {x : Nat} (h : x < 2 ^ 64) : (IntKind.u64.wrap (wrap64 (x : Int))).toNat = x := by
  rw [wrap_u]
  unfold wrap64
  omega
theorem rdC_one : One3 rdC cfm NnC := by
  intro B hB h0
  have hb : (byt (B, 0)).2.2 = 0 := Decidable.byContradiction fun q => by
    unfold rdC at h0
    by_cases q3 : (byt (B, 0)).1 = 3
    · rw [if_pos q3] at h0; exact wrd_stk _ q h0
    · rw [if_neg q3] at h0
      by_cases q4 : (byt (B, 0)).1 = 4
      · rw [if_pos q4] at h0; exact txt_stk _ _ q h0
      · rw [if_neg q4, if_neg q] at h0; exact q h0
  obtain ⟨a0, b0, c0⟩ := byt_one B hB hb
  unfold rdC at h0 ⊢
  rcases hq : byt (B, 0) with ⟨x, t, e⟩
  rw [hq] at h0 hb a0 b0 c0
  simp only at h0 hb a0 b0 c0 ⊢
  subst hb
  by_cases q3 : x = 3
  · rw [if_pos q3] at h0 ⊢
    obtain ⟨a1, b1, c1⟩ := wrd_one t b0 h0
    refine ⟨h0, ?_, b1, .inl rfl, by simp, ?_⟩
    · unfold cfm
      simp only [if_true]
      rw [u64_wrap64 c1, List.cons_append, a1, ← q3]
      exact a0
    · show I64 (wrap64 _)
      unfold I64 wrap64
      omega
  · rw [if_neg q3] at h0 ⊢
    by_cases q4 : x = 4
    · rw [if_pos q4] at h0 ⊢
      obtain ⟨a1, b1, c1⟩ := txt_one 4096 t b0 h0
      refine ⟨h0, ?_, b1, .inr rfl, ?_, ?_⟩
      · unfold cfm
        simp only [if_neg (show ¬ (4 : Int) = 3 by decide)]
        rw [List.cons_append, a1, ← q4]
        exact a0
      · simp only at c1 ⊢; omega
      · unfold I64; simp
    · rw [if_neg q4] at h0
      simp at h0
theorem rdF0_one : One rdF0 (fun x => (Wm.uform 9 x.1.size ++ strI x.1) ++ (ufm x.2.1 ++ (ufm x.2.2.1 ++ (ufm x.2.2.2.length ++ x.2.2.2)))) (fun x => x.1.size ≤ 32 ∧ x.2.1 ≤ 64 ∧ x.2.2.1 ≤ 64 ∧ BOk x.2.2.2) := by
  intro B hB h
  unfold rdF0 at h ⊢
  simp only at h ⊢
  have h4 : (raw (cnt 22000 (cnt 64 (cnt 64 (txt 32 (B, 0)).2).2).2).1 (cnt 22000 (cnt 64 (cnt 64 (txt 32 (B, 0)).2).2).2).2).2.2 = 0 := h
  have h3 : (cnt 22000 (cnt 64 (cnt 64 (txt 32 (B, 0)).2).2).2).2.2 = 0 := Decidable.byContradiction fun q => raw_stk _ _ q h4
  have h2 : (cnt 64 (cnt 64 (txt 32 (B, 0)).2).2).2.2 = 0 := Decidable.byContradiction fun q => cnt_stk _ _ q h3
  have h1 : (cnt 64 (txt 32 (B, 0)).2).2.2 = 0 := Decidable.byContradiction fun q => cnt_stk _ _ q h2
  have h0 : (txt 32 (B, 0)).2.2 = 0 := Decidable.byContradiction fun q => cnt_stk _ _ q h1
  obtain ⟨a0, b0, c0⟩ := txt_one 32 B hB h0
  rcases q0 : txt 32 (B, 0) with ⟨x0, t0, e0⟩
  rw [q0] at h0 h1 h2 h3 h4 a0 b0 c0
  simp only at h0 h1 h2 h3 h4 a0 b0 c0 ⊢
  subst h0
  obtain ⟨a1, b1, c1⟩ := cnt_one 64 t0 b0 h1
  rcases q1 : cnt 64 (t0, 0) with ⟨x1, t1, e1⟩
  rw [q1] at h1 h2 h3 h4 a1 b1 c1
  simp only at h1 h2 h3 h4 a1 b1 c1 ⊢
  subst h1
  obtain ⟨a2, b2, c2⟩ := cnt_one 64 t1 b1 h2
  rcases q2 : cnt 64 (t1, 0) with ⟨x2, t2, e2⟩
  rw [q2] at h2 h3 h4 a2 b2 c2
  simp only at h2 h3 h4 a2 b2 c2 ⊢
  subst h2
  obtain ⟨a3, b3, c3⟩ := cnt_one 22000 t2 b2 h3
  rcases q3 : cnt 22000 (t2, 0) with ⟨x3, t3, e3⟩
  rw [q3] at h3 h4 a3 b3 c3
  simp only at h3 h4 a3 b3 c3 ⊢
  subst h3
  obtain ⟨a4, b4, c4⟩ := raw_one x3 t3 b3 h4
  rcases q4 : raw x3 (t3, 0) with ⟨x4, t4, e4⟩
  rw [q4] at h4 a4 b4 c4
  simp only at h4 a4 b4 c4 ⊢
  refine ⟨?_, b4, by omega, by omega, by omega, c4.2⟩
  rw [c4.1]
  simp only [List.append_assoc] at a0 ⊢
  rw [a4, a3, a2, a1, a0]
/-- What is known of a function that was read. -/
def NnF' (f : Fc) : Prop := f.name.size ≤ 32 ∧ (0 ≤ f.params ∧ f.params ≤ 64) ∧ (0 ≤ f.locals ∧ f.locals ≤ 64) ∧ f.code.length ≤ 2000 ∧ (∀ q ∈ f.code, I64 q.1 ∧ I64 q.2) ∧ (∀ x ∈ f.hs, NnH x) ∧ f.hs.length ≤ 32 ∧ encE f.code = 0
theorem rdF_one : One3 rdF ffm NnF' := by
  intro B hB h0
  have key : ∀ s, (rdF0 s).2.2 ≠ 0 → (rdF s).2.1 ≠ 0 := fun s h => by
    unfold rdF
    by_cases q : errOf (dec (rdF0 s).1.2.2.2) ≠ 0
    · rw [if_pos q]; exact q
    · rw [if_neg q]; exact (rdL_ext rdH1_ext 32).1 _ h
  have hb : (rdF0 (B, 0)).2.2 = 0 := Decidable.byContradiction fun q => key _ q h0
  obtain ⟨a0, b0, c0⟩ := rdF0_one B hB hb
  unfold rdF at h0 ⊢
  rcases hq : rdF0 (B, 0) with ⟨x, t, e⟩
  rw [hq] at h0 hb a0 b0 c0
  simp only at h0 hb a0 b0 c0 ⊢
  subst hb
  by_cases q : errOf (dec x.2.2.2) ≠ 0
  · rw [if_pos q] at h0; exact absurd h0 q
  · rw [if_neg q] at h0 ⊢
    obtain ⟨g1, g2, g3, g4, g5⟩ := rdL_one rdH1_one rdH1_ext 32 t b0 h0
    obtain ⟨l, hl⟩ : ∃ l, dec x.2.2.2 = .ok l := by
      cases hd : dec x.2.2.2 with
      | ok l => exact ⟨l, rfl⟩
      | error e => rw [hd] at q; exact absurd (errOf_ne e hd) q
    obtain ⟨k1, k2, k3⟩ := dec_one c0.2.2.2 hl
    have hll : lstOf (dec x.2.2.2) = l := by rw [hl]; rfl
    refine ⟨g1, ?_, g3, c0.1, ?_, ?_, lst_len _, ?_, g5, ?_, ?_⟩
    · unfold ffm
      simp only
      rw [hll, k2]
      simp only [List.append_assoc] at a0 ⊢
      rw [g2]
      exact a0
    · simp only; omega
    · simp only; omega
    · rw [hll]; exact k3
    · simp only; omega
    · rw [hll]; exact k1
theorem toStr_sgn {x : List Int} (hB : BOk x) (h : (toStr x).toList = sgn4) : x = [80, 84, 80, 1] := by
  have e : strI (toStr x) = x := strI_toStr x hB
  have h2 : toStr x = ⟨#[80, 84, 80, 1]⟩ := by
    have h3 : (toStr x).data.toList = [80, 84, 80, 1] := by
      have : (toStr x).toList = (toStr x).data.toList := by first | exact toList_data _ | exact ByteArray.toList_eq _ | simp
      rw [← this]; exact h
    have h4 : (toStr x).data = #[80, 84, 80, 1] := by
      apply Array.toList_inj.1; exact h3
    cases hx : toStr x with
    | mk d => rw [hx] at h4; simp only at h4; rw [h4]
  rw [← e, h2]
  rfl
theorem rdP_one {B : List Int} (hB : BOk B) (h : (rdP (B, 0)).2 = 0) : pfm (rdP (B, 0)).1 = B ∧ (∀ c ∈ (rdP (B, 0)).1.consts, NnC c) ∧ (∀ f ∈ (rdP (B, 0)).1.funcs, NnF' f) ∧ (rdP (B, 0)).1.consts.length ≤ 512 ∧ (rdP (B, 0)).1.funcs.length ≤ 128 := by
  unfold rdP at h ⊢
  have hr : (raw 4 (B, 0)).2.2 = 0 := Decidable.byContradiction fun q => by
    rw [if_neg (fun c => q c.1)] at h
    have := (rdL_ext rdC_ext 512).1 _ q
    rw [if_pos this] at h
    exact this h
  obtain ⟨a0, b0, c0⟩ := raw_one 4 B hB hr
  rcases hq : raw 4 (B, 0) with ⟨x, t, e⟩
  rw [hq] at h hr a0 b0 c0
  simp only at h hr a0 b0 c0 ⊢
  subst hr
  by_cases q1 : (toStr x).toList ≠ sgn4
  · have hc : ∀ P : Prop, P → (P ∧ (toStr x).toList ≠ sgn4) := fun P c => ⟨c, q1⟩
    rw [if_pos (hc _ (by simp))] at h; simp at h
  · have hc : ∀ P : Prop, ¬ (P ∧ (toStr x).toList ≠ sgn4) := fun P c => q1 c.2
    rw [if_neg (hc _)] at h ⊢
    have hx := toStr_sgn c0.2 (by simpa using q1)
    by_cases q2 : (rdL rdC 512 (t, 0)).2.1 ≠ 0
    · rw [if_pos q2] at h; exact absurd h q2
    · rw [if_neg q2] at h ⊢
      obtain ⟨e1, e2, e3, e4, e5⟩ := rdL_one rdC_one rdC_ext 512 t b0 (by simpa using q2)
      rcases hq2 : rdL rdC 512 (t, 0) with ⟨cs, er, t2, e⟩
      rw [hq2] at h e1 e2 e3 e4 e5
      simp only at h e1 e2 e3 e4 e5 ⊢
      subst e1
      by_cases q3 : (rdL rdF 128 (t2, 0)).2.1 ≠ 0
      · rw [if_pos q3] at h; exact absurd h q3
      · rw [if_neg q3] at h ⊢
        obtain ⟨g1, g2, g3, g4, g5⟩ := rdL_one rdF_one rdF_ext 128 t2 e3 (by simpa using q3)
        rcases hq3 : rdL rdF 128 (t2, 0) with ⟨fs, er3, t3, e9⟩
        rw [hq3] at h g1 g2 g3 g4 g5
        simp only at h g1 g2 g3 g4 g5 ⊢
        subst g1
        have ht3 : t3 = [] := by
          unfold rEnd at h
          rw [if_pos rfl] at h
          by_cases q4 : t3.length = 0
          · exact List.length_eq_zero_iff.1 q4
          · rw [if_neg q4] at h; simp at h
        subst ht3
        refine ⟨?_, e5, g5, by omega, by omega⟩
        unfold pfm
        simp only
        rw [List.append_nil] at g2
        rw [g2, e2, ← hx]
        exact a0
theorem decP_rdP {B : List Int} (h : (decP B).2 = 0) : B.length ≤ 4194304 ∧ (rdP (B, 0)).2 = 0 ∧ (decP B).1 = (rdP (B, 0)).1 := by
  unfold decP at h ⊢
  by_cases q1 : 4194304 < B.length
  · rw [if_pos q1] at h; simp at h
  · rw [if_neg q1] at h ⊢
    by_cases q2 : (rdP (B, 0)).2 ≠ 0
    · rw [if_pos q2] at h; exact absurd h q2
    · rw [if_neg q2] at h ⊢
      cases hc : ckF (rdP (B, 0)).1 with
      | some e => obtain ⟨k, a, y⟩ := e; rw [hc] at h; exact absurd h (ckF_ne hc)
      | none => exact ⟨by omega, by simpa using q2, rfl⟩
theorem decP_nn {B : List Int} (hB : BOk B) (h : (decP B).2 = 0) : (∀ c ∈ (decP B).1.consts, NnC c) ∧ (∀ f ∈ (decP B).1.funcs, NnF f) ∧ (decP B).1.consts.length ≤ 512 ∧ (decP B).1.funcs.length ≤ 128 := by
  obtain ⟨_, h1, h2⟩ := decP_rdP h
  obtain ⟨_, hck⟩ := decP_ok h
  obtain ⟨_, k2, k3, k4, k5⟩ := rdP_one hB h1
  rw [← h2] at k2 k3 k4 k5
  refine ⟨k2, fun f hf => ?_, k4, k5⟩
  obtain ⟨n1, n2, n3, n4, n5, n6, n7, n8⟩ := k3 f hf
  obtain ⟨i, hi⟩ := List.getElem?_of_mem hf
  have hfn := (ckF_none.1 hck).2.2.2 i f hi
  have hsz := (szF_none.1 (fnF_none.1 hfn).2.1).2.2.2.2.1
  refine ⟨n1, by omega, by omega, n4, n5, n6, n7, ?_⟩
  rw [encB_ok n8]
  cases hc : f.code with
  | nil => rw [hc] at hsz; simp at hsz
  | cons q r => simp [efm, ifm]
/-- The one form. -/
theorem decP_one {B : List Int} (hB : BOk B) (h : (decP B).2 = 0) : enP (decP B).1 = (B, 0) := by
  obtain ⟨h0, h1, h2⟩ := decP_rdP h
  obtain ⟨_, hck⟩ := decP_ok h
  obtain ⟨k1, _⟩ := rdP_one hB h1
  unfold enP
  rw [hck]
  simp only
  rw [h2, k1, if_neg (by omega)]
end Go.Proofs.YtlogmdldjmkkjaaGreatDoor
