/-
  InlineFits, over what came in.
-/
import Derived.Test.YtnefmfnchimppaaPIn
import Derived.Test.YtnefmfnchimppaaIfL
namespace Go.Proofs.Ytnefmfnchimppaa
open Go.RowKit
set_option linter.unusedVariables false
theorem okBD {p : Pg} (h : ∀ (i : Nat) (f : Fc), p.funcs[i]? = some f → into.okF f) : ∀ (i : Nat) (f : Fc), p.funcs[i]? = some f → f.code.length ≤ 1048576 ∧ f.hs.length ≤ 1048576 := fun i f hf => ⟨(h i f hf).1, (h i f hf).2.1⟩
theorem fitsIn {w : World} {pv : Value} {p : Pg} (fn : Int) (h : PgV w pv p ∧ p.funcs.length ≤ 1048576 ∧ p.consts.length ≤ 1048576 ∧ (∀ (i : Nat) (f : Fc), p.funcs[i]? = some f → into.okF f) ∧ ∀ c ∈ p.consts, into.okC c) :
    Calls Try.prog 3 #[pv, .int .i64 fn] w fun e w' => e = .returned (.bool true) ∧ Below w.heap.size w w' :=
  fitsLaw fn h.1 h.2.1 h.2.2.1 (okBD h.2.2.2.1)
end Go.Proofs.Ytnefmfnchimppaa
