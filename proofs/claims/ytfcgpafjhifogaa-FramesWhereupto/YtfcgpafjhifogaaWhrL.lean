/-
  FramesWhere, over what came in.
-/
import Derived.Test.YtfcgpafjhifogaaUnwL
import Derived.Test.YtfcgpafjhifogaaWhr
namespace Go.Proofs.Ytfcgpafjhifogaa
open Go.RowKit
set_option linter.unusedVariables false
theorem whereIn {w : World} {pv lv tv : Value} {p : Pg} {fs : List Fm} {f : Fm} (h : PgV w pv p ∧ p.funcs.length ≤ 1048576 ∧ p.consts.length ≤ 1048576 ∧ (∀ (i : Nat) (f : Fc), p.funcs[i]? = some f → into.okF f) ∧ ∀ c ∈ p.consts, into.okC c)
    (hl : FsV w lv fs ∧ fs.length < 1048576 ∧ ∀ f ∈ fs, into.okM f) (ht : ∃ (sv : Value) (x y : Int × Int), tv = .agg #[.int .i64 f.fn, .int .i64 f.pc, sv, .int .i64 x.1, .int .i64 x.2, .int .i64 y.1, .int .i64 y.2] ∧ Rx w 2 sv f.sl.length (flt enI f.sl) ∧ into.okM f ∧ into.okI x ∧ into.okI y) :
    Calls Try.prog 8 #[pv, lv, tv] w fun e w' => e = .returned (.bool true) ∧ Below w.heap.size w w' := by
  obtain ⟨sv, x, y, rfl, h1, h2, _, _⟩ := ht
  exact whereLaw x y h.1 hl.1 rfl rfl (one_sl h1) h.2.1 (okO h.2.2.2.1) hl.2.1 (fun g hg => (hl.2.2 g hg).1)
end Go.Proofs.Ytfcgpafjhifogaa
