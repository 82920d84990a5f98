/-
  What Decode takes has these bytes and no others.
-/
import Derived.Test.YtlogmdldjmkkjaaGreatDoorDDe
import Derived.Test.YtlogmdldjmkkjaaGreatDoorDRd
import Derived.Test.YtlogmdldjmkkjaaGreatDoorSh0
import Derived.Test.YtlogmdldjmkkjaaGreatDoorSpoil
namespace Go.Proofs.YtlogmdldjmkkjaaGreatDoor
open Go.RowKit
set_option linter.unusedVariables false

/-- A reading that went well goes as well with more behind. -/
def Ext {T : Type} (f : Sr → T × Sr) : Prop := ∀ (B D : List Int), (f (B, 0)).2.2 = 0 → f (B ++ D, 0) = ((f (B, 0)).1, ((f (B, 0)).2.1 ++ D, 0))
/-- Behind an error nothing goes well. -/
def Stk {T : Type} (f : Sr → T × Sr) : Prop := ∀ (s : Sr), s.2 ≠ 0 → (f s).2.2 ≠ 0
theorem Ext.bind {A C : Type} {f : Sr → A × Sr} {g : A → Sr → C × Sr} (hf : Ext f) (hg : ∀ a, Ext (g a)) (sg : ∀ a, Stk (g a)) : Ext (fun s => g (f s).1 (f s).2) := by
  intro B D h
  simp only at h ⊢
  have h0 : (f (B, 0)).2.2 = 0 := Decidable.byContradiction fun q => sg _ _ q h
  rw [hf B D h0]
  rcases hq : f (B, 0) with ⟨x, t, e⟩
  rw [hq] at h h0
  simp only at h h0 ⊢
  subst h0
  exact hg x t D h
theorem Stk.bind {A C : Type} {f : Sr → A × Sr} {g : A → Sr → C × Sr} (sf : Stk f) (sg : ∀ a, Stk (g a)) : Stk (fun s => g (f s).1 (f s).2) := fun s h => sg _ _ (sf s h)
set_option linter.unusedVariables false

theorem unfold_fold (n : Int) : unfoldI (foldI n).toNat = n := by
  unfold foldI unfoldI
  split <;> split <;> omega
theorem encE_ok {l : List (Int × Int)} (h : encE l = 0) : l.length ≤ 2000 ∧ okL l = true := by
  unfold encE at h
  split at h
  · omega
  · split at h
    · rename_i h1 h2; exact ⟨by omega, h2⟩
    · omega
theorem encE_of {l : List (Int × Int)} (h1 : l.length ≤ 2000) (h2 : okL l = true) : encE l = 0 := by
  unfold encE
  rw [if_neg (by omega), if_pos h2]
theorem encB_ok {l : List (Int × Int)} (h : encE l = 0) : encB l = efm l := by unfold encB; rw [if_pos h]
theorem right0 {a : Int} (h : rightB 0 a = true) : a = 0 := by
  have e1 : lo 0 = 0 := rfl
  have e2 : hi 0 = 0 := rfl
  simp only [rightB, e1, e2] at h
  simp at h
  omega
theorem rightk {k : Nat} (hk : k < 9) (h0 : k ≠ 0) (h1 : k ≠ 1) {a : Int} (h : rightB k a = true) : 0 ≤ a ∧ a < 9223372036854775808 := by
  by_cases h7 : k = 7
  · subst h7
    have e : rightB 7 a = decide (a = 8 ∨ a = 16 ∨ a = 32) := rfl
    rw [e] at h
    simp at h
    omega
  · have e : rightB k a = decide (lo k ≤ a ∧ a ≤ hi k) := by rw [rightB, if_neg h7]
    rw [e] at h
    have : ∀ k : Fin 9, k.val ≠ 0 → k.val ≠ 1 → 0 ≤ lo k.val ∧ hi k.val < 9223372036854775808 := by decide +kernel
    have q : 0 ≤ lo k ∧ hi k < 9223372036854775808 := this ⟨k, hk⟩ h0 h1
    simp at h
    omega
theorem sI_small {x : Nat} (h : x < 9223372036854775808) : sI x = x := by
  unfold sI
  unfold wrap64
  omega
theorem opR_back (k : Nat) (hk : k < 9) (a : Int) (ha : I64 a) (h : rightB k a = true) (t : List Int) : opR k (opF k a ++ t) = .ok (a, t) := by
  by_cases h0 : k = 0
  · subst h0
    rw [right0 h]
    rfl
  · by_cases h1 : k = 1
    · subst h1
      have e : opF 1 a = Wm.uform 9 (foldI a).toNat := rfl
      have hb := foldI_bd a ha.1 ha.2
      rw [e]
      unfold opR
      rw [if_neg (by omega), unum_form _ _ (by omega)]
      simp [unfold_fold]
    · have e : opF k a = Wm.uform 9 (a % 18446744073709551616).toNat := by unfold opF; rw [if_neg h0, if_neg h1]
      obtain ⟨q1, q2⟩ := rightk hk h0 h1 h
      rw [e]
      unfold opR
      rw [if_neg h0, unum_form _ _ (by omega)]
      simp only [if_neg h1]
      rw [sI_small (by omega)]
      congr 2
      omega
theorem okB_split {p : Int × Int} (h : okB p.1 p.2 = true) : isOp p.1 = true ∧ rightB (kd p.1.toNat) p.2 = true := by
  simpa [okB] using h
theorem rd1_back (p : Int × Int) (ha : I64 p.2) (h : okB p.1 p.2 = true) (t : List Int) : rd1 p.1 (opF (kd p.1.toNat) p.2 ++ t) = .ok (p, t) := by
  obtain ⟨h1, h2⟩ := okB_split h
  unfold rd1
  rw [if_pos h1, opR_back _ (kd_lt _) _ ha h2]
  simp only [h, if_true]
theorem decG_back : ∀ (l : List (Int × Int)) (f : Nat) (acc : List (Int × Int)), (∀ p ∈ l, I64 p.2) → okL l = true → acc.length + l.length ≤ 2000 → (efm l).length < f → decG f acc (efm l) = .ok (acc ++ l)
  | [], f, acc, _, _, _, _ => by
    have : efm [] = [] := rfl
    rw [this, decG_nil, List.append_nil]
  | p :: r, f, acc, hI, hok, hl, hf => by
    have e : efm (p :: r) = p.1 :: (opF (kd p.1.toNat) p.2 ++ efm r) := by simp [efm, ifm]
    rw [e] at hf ⊢
    obtain ⟨f', rfl⟩ : ∃ f', f = f' + 1 := ⟨f - 1, by simp at hf; omega⟩
    have hp : okB p.1 p.2 = true := by simp [okL] at hok; exact hok.1
    have hr : okL r = true := by simp [okL] at hok ⊢; exact hok.2
    simp only [List.length_cons] at hl
    rw [decG, if_neg (by omega), rd1_back p (hI p (List.mem_cons_self ..)) hp]
    simp only
    rw [decG_back r f' (acc ++ [p]) (fun q hq => hI q (List.mem_cons_of_mem _ hq)) hr (by rw [List.length_append, List.length_singleton]; omega) (by simp at hf; omega)]
    rw [List.append_assoc]; rfl
theorem dec_back {l : List (Int × Int)} (hI : ∀ p ∈ l, I64 p.1 ∧ I64 p.2) (h : encE l = 0) : dec (encB l) = .ok l := by
  obtain ⟨h1, h2⟩ := encE_ok h
  rw [encB_ok h]
  have := decG_back l ((efm l).length + 1) [] (fun p hp => (hI p hp).2) h2 (by simpa using h1) (by omega)
  simpa [dec] using this
set_option linter.unusedVariables false
set_option linter.unusedSimpArgs false
set_option maxRecDepth 100000

/-- A reading that went well took just the form of what it answers. -/
def One {T : Type} (f : Sr → T × Sr) (fm : T → List Int) (P : T → Prop) : Prop := ∀ B : List Int, BOk B → (f (B, 0)).2.2 = 0 → fm (f (B, 0)).1 ++ (f (B, 0)).2.1 = B ∧ BOk (f (B, 0)).2.1 ∧ P (f (B, 0)).1
theorem decP_rdP {B : List Int} (h : (decP B).2 = 0) : B.length ≤ 4194304 ∧ (rdP (B, 0)).2 = 0 ∧ (decP B).1 = (rdP (B, 0)).1 := by
  unfold decP at h ⊢
  by_cases q1 : 4194304 < B.length
  · rw [if_pos q1] at h; simp at h
  · rw [if_neg q1] at h ⊢
    by_cases q2 : (rdP (B, 0)).2 ≠ 0
    · rw [if_pos q2] at h; exact absurd h q2
    · rw [if_neg q2] at h ⊢
      cases hc : ckF (rdP (B, 0)).1 with
      | some e => obtain ⟨k, a, y⟩ := e; rw [hc] at h; exact absurd h (ckF_ne hc)
      | none => exact ⟨by omega, by simpa using q2, rfl⟩
end Go.Proofs.YtlogmdldjmkkjaaGreatDoor
