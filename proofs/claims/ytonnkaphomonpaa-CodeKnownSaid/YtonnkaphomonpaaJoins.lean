/-
  Joins.
-/
import Derived.Test.YtonnkaphomonpaaWorks
namespace Go.Proofs.Ytonnkaphomonpaa
open Go.RowKit
set_option linter.unusedVariables false

theorem Rd.of_ro {w : World} {v : Value} {bs : List Int} (h : Ro w 1 v bs.length (bs.map By)) : Rd w v bs := by
  by_cases h0 : bs.length = 0
  · obtain rfl := List.eq_nil_of_length_eq_zero h0
    rcases h.2 with ⟨e, _⟩ | ⟨g, off, cap, cur, t, e, hh, h1, h2, _⟩
    · exact .inl ⟨e, rfl⟩
    · exact .inr ⟨g, off, cap, e, h1, h2, (Array.getElem?_eq_some_iff.1 hh).1, fun i hi => by simp at hi⟩
  · obtain ⟨g, off, cap, e, h1, h2, h3, h4⟩ := h.full (by omega)
    refine .inr ⟨g, off, cap, e, h1, h2, h3, fun i hi => ?_⟩
    rw [h4 i (by omega), List.getElem?_map, List.getElem?_eq_getElem hi, List.getD_eq_getElem?_getD, List.getElem?_eq_getElem hi]
    rfl
theorem Below.drewNB {B : Nat} {a w : World} (h : Below B a w) (n : Nat) : Below B a (w.drewN n) := ⟨h.os, h.tape, h.output, h.size, h.block⟩
theorem encE_ok {l : List (Int × Int)} (h : encE l = 0) : l.length ≤ 2000 ∧ okL l = true := by
  unfold encE at h
  split at h
  · omega
  · split at h
    · rename_i h1 h2; exact ⟨by omega, h2⟩
    · omega
theorem encE_of {l : List (Int × Int)} (h1 : l.length ≤ 2000) (h2 : okL l = true) : encE l = 0 := by
  unfold encE
  rw [if_neg (by omega), if_pos h2]
theorem encB_ok {l : List (Int × Int)} (h : encE l = 0) : encB l = efm l := by unfold encB; rw [if_pos h]
theorem enc_join {a b : List (Int × Int)} (h1 : encE a = 0) (h2 : encE b = 0) (h3 : a.length + b.length ≤ 2000) : encE (a ++ b) = 0 ∧ encB (a ++ b) = encB a ++ encB b := by
  have e : encE (a ++ b) = 0 := encE_of (by rw [List.length_append]; exact h3) (by unfold okL; rw [List.all_append]; simp only [Bool.and_eq_true]; exact ⟨(encE_ok h1).2, (encE_ok h2).2⟩)
  refine ⟨e, ?_⟩
  rw [encB_ok e, encB_ok h1, encB_ok h2]
  simp [efm, List.flatMap_append]
theorem encB_len (l : List (Int × Int)) : (encB l).length ≤ 22000 := by
  unfold encB
  split
  · rename_i h
    have := (encE_ok h).1
    have := efm_len l
    omega
  · simp

end Go.Proofs.Ytonnkaphomonpaa
