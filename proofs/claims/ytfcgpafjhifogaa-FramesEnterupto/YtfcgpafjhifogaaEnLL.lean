/-
  FramesEnter, over what came in.
-/
import Derived.Test.YtfcgpafjhifogaaMIn
import Derived.Test.YtfcgpafjhifogaaEnL
namespace Go.Proofs.Ytfcgpafjhifogaa
open Go.RowKit
set_option linter.unusedVariables false
theorem okBD {p : Pg} (h : ∀ (i : Nat) (f : Fc), p.funcs[i]? = some f → into.okF f) : ∀ (i : Nat) (f : Fc), p.funcs[i]? = some f → f.code.length ≤ 1048576 ∧ f.hs.length ≤ 1048576 := fun i f hf => ⟨(h i f hf).1, (h i f hf).2.1⟩
theorem enterIn {w : World} {pv av : Value} {p : Pg} {args : List (Int × Int)} (fn : Int) (h : PgV w pv p ∧ p.funcs.length ≤ 1048576 ∧ p.consts.length ≤ 1048576 ∧ (∀ (i : Nat) (f : Fc), p.funcs[i]? = some f → into.okF f) ∧ ∀ c ∈ p.consts, into.okC c)
    (ha : Rx w 2 av args.length (flt enI args) ∧ args.length < 1048576 ∧ ∀ p ∈ args, into.okI p) :
    Calls Try.prog 3 #[pv, .int .i64 fn, av] w fun e w' => e = .returned (.bool true) ∧ Below w.heap.size w w' :=
  enterLaw fn h.1 ha.1 h.2.1 h.2.2.1 (okBD h.2.2.2.1) (Nat.le_of_lt ha.2.1)
end Go.Proofs.Ytfcgpafjhifogaa
