/-
  FramesReturn, over what came in.
-/
import Derived.Test.YtfcgpafjhifogaaMIn
import Derived.Test.YtfcgpafjhifogaaRtL
namespace Go.Proofs.Ytfcgpafjhifogaa
open Go.RowKit
set_option linter.unusedVariables false
theorem okBDr {p : Pg} (h : ∀ (i : Nat) (f : Fc), p.funcs[i]? = some f → into.okF f) : ∀ (i : Nat) (f : Fc), p.funcs[i]? = some f → f.code.length ≤ 1048576 ∧ f.hs.length ≤ 1048576 := fun i f hf => ⟨(h i f hf).1, (h i f hf).2.1⟩
theorem returnIn {w : World} {pv lv vv : Value} {p : Pg} {l : List Fm} {x : Int × Int} (h : PgV w pv p ∧ p.funcs.length ≤ 1048576 ∧ p.consts.length ≤ 1048576 ∧ (∀ (i : Nat) (f : Fc), p.funcs[i]? = some f → into.okF f) ∧ ∀ c ∈ p.consts, into.okC c)
    (hl : FsV w lv l ∧ l.length < 1048576 ∧ ∀ f ∈ l, into.okM f) (hv : vv = .agg #[.int .i64 x.1, .int .i64 x.2] ∧ into.okI x) :
    Calls Try.prog 5 #[pv, lv, vv] w fun e w' => e = .returned (.bool true) ∧ Below w.heap.size w w' := by
  obtain ⟨rfl, _⟩ := hv
  exact returnLaw x h.1 hl.1 h.2.1 h.2.2.1 (okBDr h.2.2.2.1) (Nat.le_of_lt hl.2.1) (fun f hf => (hl.2.2 f hf).1)
end Go.Proofs.Ytfcgpafjhifogaa
