/-
  A function that Check has let through.
-/
import Derived.Test.YtbphddocgdihjaaDoorSpoil
import Derived.Test.YtbphddocgdihjaaDoorVFac
namespace Go.Proofs.YtbphddocgdihjaaDoor
open Go.RowKit
set_option linter.unusedVariables false
theorem right2 {a : Int} (h : rightB 2 a = true) : 0 ≤ a := by
  have e1 : lo 2 = 0 := rfl
  simp only [rightB, e1] at h
  simp at h
  exact h.1
theorem OkF.of {p : Pg} (h : ckF p = none) {i : Nat} {f : Fc} (hi : p.funcs[i]? = some f) : OkF f := by
  obtain ⟨_, _, _, hF⟩ := ckF_none.1 h
  obtain ⟨_, hs, hc, hh⟩ := fnF_none.1 (hF i f hi)
  obtain ⟨_, _, _, _, h5, h6⟩ := szF_none.1 hs
  obtain ⟨g1, g2⟩ := hsF_none.1 hh
  have hcd := cdF_none.1 hc
  refine ⟨h5, h6, by omega, fun j op a hj => ?_, fun k hk => ?_⟩
  · obtain ⟨e1, e2⟩ := hcd j (op, a) hj
    simp only at e1 e2
    have hok : okB op a = true := by
      unfold erN at e1
      split at e1
      · assumption
      · omega
    refine ⟨hok, fun hj => ?_⟩
    have hop : isOp op = true := by simp [okB] at hok; exact hok.1
    have ho : 0 ≤ op ∧ op < 67 := by simpa [isOp] using hop
    obtain ⟨k, rfl⟩ : ∃ k : Nat, op = k := ⟨op.toNat, by omega⟩
    have hk : k < 67 := by omega
    rw [jm_kd k hk] at hj
    have hk2 : kd k = 2 := by have := of_decide_eq_true hj; omega
    unfold nmB at e2
    rw [kdI_nat hk, hk2] at e2
    have hr : rightB 2 a = true := by rw [okB_op hk, hk2] at hok; exact hok
    exact ⟨right2 hr, by simpa using e2⟩
  · obtain ⟨j, hj, e⟩ := List.getElem_of_mem hk
    have := g2 j k (by rw [← e]; exact List.getElem?_eq_getElem hj)
    unfold fitB at this
    have := of_decide_eq_true this
    omega
/-- What Program finds: the place and why, or the heights of all functions. -/
def VpR (p : Pg) (L : Option (List (List Int))) (k a er : Int) : Prop :=
  (∃ y, ckF p = some (k, a, y) ∧ er = y ∧ L = none ∧ er ≠ 0) ∨
  (ckF p = none ∧ ∃ (i : Nat) (f : Fc), p.funcs[i]? = some f ∧ k = (i : Int) ∧ L = none ∧ er ≠ 0 ∧ FnR f none a er ∧ ∀ (j : Nat) (g : Fc), j < i → p.funcs[j]? = some g → ∃ l, FnR g (some l) 0 0) ∨
  (ckF p = none ∧ k = 0 ∧ a = 0 ∧ er = 0 ∧ ∃ Ls, L = some Ls ∧ Ls.length = p.funcs.length ∧ ∀ (i : Nat) (f : Fc) (l : List Int), p.funcs[i]? = some f → Ls[i]? = some l → FnR f (some l) 0 0)
end Go.Proofs.YtbphddocgdihjaaDoor
