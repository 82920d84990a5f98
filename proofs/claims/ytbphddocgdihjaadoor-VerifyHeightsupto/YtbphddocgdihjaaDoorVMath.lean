/-
  What the walk finds: all that is met.
-/
import Derived.Test.YtbphddocgdihjaaDoorVEff
namespace Go.Proofs.YtbphddocgdihjaaDoor
open Go.RowKit
set_option linter.unusedVariables false
set_option linter.unusedSimpArgs false
theorem nodup_le {l : List Nat} {M : Nat} (h : l.Nodup) (hb : ∀ x ∈ l, x < M) : l.length ≤ M := by
  induction M generalizing l with
  | zero =>
    cases l with
    | nil => simp
    | cons x r => have := hb x (by simp); omega
  | succ M ih =>
    by_cases hm : M ∈ l
    · have h1 := List.length_erase_of_mem hm
      have h2 := ih (h.erase M) (fun x hx => by
        have := (h.mem_erase_iff).1 hx
        have := hb x this.2
        omega)
      omega
    · have := ih h (fun x hx => by
        have := hb x hx
        have : x ≠ M := fun e => hm (e ▸ hx)
        omega)
      omega
/-- So many spots there are. -/
theorem spots_le {l : List Spot} {N : Nat} (h : l.Nodup) (hb : ∀ s ∈ l, 0 ≤ s.1 ∧ s.1 < (N : Int) ∧ 0 ≤ s.2 ∧ s.2 ≤ 1000) : l.length ≤ N * 1001 := by
  have h1 : (l.map (fun s => s.1.toNat * 1001 + s.2.toNat)).Nodup := by
    rw [List.nodup_iff_pairwise_ne, List.pairwise_map]
    refine (List.nodup_iff_pairwise_ne.1 h).imp_of_mem (fun {a b} ha hb' hne e => hne ?_)
    have := hb a ha
    have := hb b hb'
    have e1 : a.1.toNat = b.1.toNat := by omega
    have e2 : a.2.toNat = b.2.toNat := by omega
    exact Prod.ext (by omega) (by omega)
  have := nodup_le (M := N * 1001) h1 (fun x hx => by
    obtain ⟨s, hs, rfl⟩ := List.mem_map.1 hx
    have := hb s hs
    have : s.1.toNat + 1 ≤ N := by omega
    have := Nat.mul_le_mul_right 1001 this
    omega)
  simpa using this
end Go.Proofs.YtbphddocgdihjaaDoor
