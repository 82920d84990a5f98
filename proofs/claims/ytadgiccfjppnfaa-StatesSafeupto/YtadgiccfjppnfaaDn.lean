/-
  The document's next instruction.
-/
import Derived.Test.YtadgiccfjppnfaaDn1
import Derived.Test.YtadgiccfjppnfaaDn2
namespace Go.Proofs.Ytadgiccfjppnfaa
open Go.RowKit
set_option linter.unusedVariables false
set_option linter.unusedSimpArgs false
theorem dNext_any {w : World} {pv v : Value} {p : Pg} {s : St} (hp : PgV w pv p) (h : StV w v s) (hs : StB s) (k : Int) : Calls Try.prog 50 #[pv, v, .int .i64 k] w (DnP w (nxD p s k)) := by
  by_cases hk : 0 ≤ k ∧ k < (s.fibs.length : Int)
  · obtain ⟨i, rfl⟩ : ∃ i : Nat, k = i := ⟨k.toNat, by omega⟩
    obtain ⟨fs, hi⟩ : ∃ fs, s.fibs[i]? = some fs := ⟨_, List.getElem?_eq_getElem (by omega)⟩
    obtain ⟨b1, b2⟩ := hs.bs fs (List.mem_of_getElem? hi)
    rcases List.eq_nil_or_concat fs with rfl | ⟨l, f, rfl⟩
    · exact dNext_end hp h i hi
    · simp only [List.concat_eq_append, List.length_append, List.length_singleton] at b1
      exact dNext_yes hp h i (f := f) hi l.length (by simp) (by simp) (by omega)
  · exact dNext_out hp h k hk
end Go.Proofs.Ytadgiccfjppnfaa
