/-
  Taken out once, nothing is left to be taken out.
-/
import Derived.Test.YtpbdmbmafjkinaaDoorLv0
namespace Go.Proofs.YtpbdmbmafjkinaaDoor
set_option linter.unusedVariables false
set_option linter.unusedSimpArgs false
theorem idle_anti {S T : Rset} (h : Sub S T) {x : RIn} (q : idle T x = true) : idle S x = true := by
  simp only [idle, Bool.and_eq_true, Bool.not_eq_true'] at q ⊢
  refine ⟨q.1, ?_⟩
  cases e : inS S x.dst with
  | false => rfl
  | true => have := inS_mono h e; rw [q.2] at this; cases this
theorem backS_idle {S : Rset} {x : RIn} (q : idle S x = true) : backS S x = S := funext (fun r => by unfold backS; rw [if_pos q])
/-- What is wanted is asked by what stays alone. -/
theorem backL_kep {S T : Rset} (h : Sub S T) : ∀ l, backL S (kepL T l) = backL S l
  | [] => rfl
  | x :: l => by
    by_cases q : idle (backL T l) x = true
    · rw [kepL, if_pos q, backL_kep h l, backL_cons, backS_idle (idle_anti (backL_mono h l) q)]
    · rw [kepL, if_neg q, backL_cons, backL_cons, backL_kep h l]
theorem kepL_kep (S : Rset) : ∀ l, kepL S (kepL S l) = kepL S l
  | [] => rfl
  | x :: l => by
    by_cases q : idle (backL S l) x = true
    · rw [kepL, if_pos q, kepL_kep S l]
    · rw [kepL, if_neg q, kepL, backL_kep (Sub.refl S) l, if_neg q, kepL_kep S l]
theorem kepC_inv {bl : List Bk} {k : Nat} {u' : Bk} (h : (kepC bl)[k]? = some u') : ∃ u, bl[k]? = some u ∧ u' = kepB bl k u := by
  unfold kepC at h
  rw [List.getElem?_mapIdx] at h
  cases hb : bl[k]? with
  | none => rw [hb] at h; cases h
  | some u => rw [hb] at h; exact ⟨u, rfl, (Option.some.inj h).symm⟩
theorem kepC_fwd {bl : List Bk} {k : Nat} {u : Bk} (h : bl[k]? = some u) : (kepC bl)[k]? = some (kepB bl k u) := by
  unfold kepC
  rw [List.getElem?_mapIdx, h]
  rfl
theorem wS_kep (bl : List Bk) (b : Nat) : wS (kepC bl) b = wS bl b := by
  have h1 : Closed (kepC bl) (wS bl) := fun b n u' t' hu ht hn => by
    obtain ⟨u, hu2, rfl⟩ := kepC_inv hu
    obtain ⟨t, ht2, rfl⟩ := kepC_inv ht
    have q := wS_closed bl b n u t hu2 ht2 hn
    rw [← backL_kep (Sub.refl (wS bl n)) t.ins] at q
    exact q
  have h2 : ∀ b, Sub (wS (kepC bl) b) (wS bl b) := fun b => wS_least h1 b
  refine wS_eq h2 (fun b n u t hu ht hn => ?_) b
  have q := wS_closed (kepC bl) b n _ _ (kepC_fwd hu) (kepC_fwd ht) hn
  have e : backL (wS (kepC bl) n) (kepB bl n t).ins = backL (wS (kepC bl) n) t.ins := backL_kep (h2 n) t.ins
  rw [e] at q
  exact q
theorem kepC_kep (bl : List Bk) : kepC (kepC bl) = kepC bl := by
  refine List.ext_getElem? (fun k => ?_)
  cases hb : bl[k]? with
  | none =>
    have e : (kepC bl)[k]? = none := by unfold kepC; rw [List.getElem?_mapIdx, hb]; rfl
    have e2 : (kepC (kepC bl))[k]? = none := by
      cases q : (kepC (kepC bl))[k]? with
      | none => rfl
      | some u => obtain ⟨u1, q1, _⟩ := kepC_inv q; rw [e] at q1; cases q1
    rw [e, e2]
  | some u =>
    rw [kepC_fwd (kepC_fwd hb), kepC_fwd hb]
    unfold kepB
    rw [wS_kep, kepL_kep]
end Go.Proofs.YtpbdmbmafjkinaaDoor
