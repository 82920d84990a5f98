/-
  No cell of these rows narrows 'for every input' (looked for: loops, veiled, ifaces, maps, wideKeys, modest, calm, conditions, laid).
  DERIVED. THE GIVEN ROWS OF THIS SEAT. 5 by the template 'for every input the law returns true; each argument reads behind the call as it read before'; 0 by the template 'total and deterministic' (their statements: YtnikbaibchgmnaaTotals.lean).
  GIVEN WITH THE SEED: the statements are not yours to turn. If you find one false, say at which input.
  Laid BY PROGRAM, IN A SANDBOX (cutbox-rows.mjs): the forced cells as the released guide's own fill.sh prints them over the translation 412d63e05831e5bd… (all of the seat's roots in one cut). By AI agents, Wed Nov 11 2026. No macro, syntax, notation, axiom, sorry.
-/
import Derived.Test.YtnikbaibchgmnaaChecked
import GoSem.Claim
import GoSem.ClaimJoined
import GoSem.ClaimMapViews
import Derived.JoinedTies
import Derived.KernelRfl
namespace Go.Proofs.Ytnikbaibchgmnaa
/- THE CELL 'sum', in the pinned program and in every row, IS THE sha256 OF THE DUMP (.gsa) THAT YtnikbaibchgmnaaProg.lean LOADS. Nothing in Lean hashes anything: it is a label: what it is worth is what the hold of that sum in a sandbox is worth. -/
noncomputable def Try.pinned : Pinned := { name := "ytnikbaibchgmnaa", sum := "412d63e05831e5bd013eeb22d1ded5e8c5372ba05137b5cc20f0faa7deef07a4", checked := Try.checked }
namespace Rows
def none {H : Type} : Left H := { results := [], args := [] }

/-- 'portagelaw03.RealAdds': WHATEVER THE INPUT: true; the input reads as it did. -/
def realAddsSpec : ChangeSpec := { name := "realAdds", fn := fun _ => fun
  | [d1, d2] => { results := [.lit (.bool true)], args := [d1, d2] }
  | _ => none }
def realAddsRow : OpenClaim := { program := "ytnikbaibchgmnaa", sum := "412d63e05831e5bd013eeb22d1ded5e8c5372ba05137b5cc20f0faa7deef07a4", func := "portage/portagelaw03.RealAdds", spec := "realAdds", inPlace := ["math.Float64frombits", "math.Float64bits"], apart := false }
def RealAddsSaid : Prop := realAddsRow.holds Try.pinned (OpenSpec.ofChange realAddsSpec)

/-- ITS FALSE NEIGHBOUR: 'it returns false'. Refute it at one input. -/
def realAddsWrong : ChangeSpec := { name := "realAdds", fn := fun _ => fun
  | [d1, d2] => { results := [.lit (.bool false)], args := [d1, d2] }
  | _ => none }
def RealAddsWrongFalsely : Prop := realAddsRow.holds Try.pinned (OpenSpec.ofChange realAddsWrong)

/-- 'portagelaw03.RealMuls': WHATEVER THE INPUT: true; the input reads as it did. -/
def realMulsSpec : ChangeSpec := { name := "realMuls", fn := fun _ => fun
  | [d1, d2] => { results := [.lit (.bool true)], args := [d1, d2] }
  | _ => none }
def realMulsRow : OpenClaim := { program := "ytnikbaibchgmnaa", sum := "412d63e05831e5bd013eeb22d1ded5e8c5372ba05137b5cc20f0faa7deef07a4", func := "portage/portagelaw03.RealMuls", spec := "realMuls", inPlace := ["math.Float64frombits", "math.Float64bits"], apart := false }
def RealMulsSaid : Prop := realMulsRow.holds Try.pinned (OpenSpec.ofChange realMulsSpec)

/-- ITS FALSE NEIGHBOUR: 'it returns false'. Refute it at one input. -/
def realMulsWrong : ChangeSpec := { name := "realMuls", fn := fun _ => fun
  | [d1, d2] => { results := [.lit (.bool false)], args := [d1, d2] }
  | _ => none }
def RealMulsWrongFalsely : Prop := realMulsRow.holds Try.pinned (OpenSpec.ofChange realMulsWrong)

/-- 'portagelaw03.RealHolds': WHATEVER THE INPUT: true; the input reads as it did. -/
def realHoldsSpec : ChangeSpec := { name := "realHolds", fn := fun _ => fun
  | [d1, d2] => { results := [.lit (.bool true)], args := [d1, d2] }
  | _ => none }
def realHoldsRow : OpenClaim := { program := "ytnikbaibchgmnaa", sum := "412d63e05831e5bd013eeb22d1ded5e8c5372ba05137b5cc20f0faa7deef07a4", func := "portage/portagelaw03.RealHolds", spec := "realHolds", inPlace := ["math.Float64frombits"], apart := false }
def RealHoldsSaid : Prop := realHoldsRow.holds Try.pinned (OpenSpec.ofChange realHoldsSpec)

/-- ITS FALSE NEIGHBOUR: 'it returns false'. Refute it at one input. -/
def realHoldsWrong : ChangeSpec := { name := "realHolds", fn := fun _ => fun
  | [d1, d2] => { results := [.lit (.bool false)], args := [d1, d2] }
  | _ => none }
def RealHoldsWrongFalsely : Prop := realHoldsRow.holds Try.pinned (OpenSpec.ofChange realHoldsWrong)

/-- 'portagelaw03.RealInts': WHATEVER THE INPUT: true; the input reads as it did. -/
def realIntsSpec : ChangeSpec := { name := "realInts", fn := fun _ => fun
  | [d1, d2] => { results := [.lit (.bool true)], args := [d1, d2] }
  | _ => none }
def realIntsRow : OpenClaim := { program := "ytnikbaibchgmnaa", sum := "412d63e05831e5bd013eeb22d1ded5e8c5372ba05137b5cc20f0faa7deef07a4", func := "portage/portagelaw03.RealInts", spec := "realInts", inPlace := ["math.Float64frombits", "math.Float64bits"], apart := false }
def RealIntsSaid : Prop := realIntsRow.holds Try.pinned (OpenSpec.ofChange realIntsSpec)

/-- ITS FALSE NEIGHBOUR: 'it returns false'. Refute it at one input. -/
def realIntsWrong : ChangeSpec := { name := "realInts", fn := fun _ => fun
  | [d1, d2] => { results := [.lit (.bool false)], args := [d1, d2] }
  | _ => none }
def RealIntsWrongFalsely : Prop := realIntsRow.holds Try.pinned (OpenSpec.ofChange realIntsWrong)

/-- 'portagelaw03.RealExact': WHATEVER THE INPUT: true; the input reads as it did. -/
def realExactSpec : ChangeSpec := { name := "realExact", fn := fun _ => fun
  | [d1, d2] => { results := [.lit (.bool true)], args := [d1, d2] }
  | _ => none }
def realExactRow : OpenClaim := { program := "ytnikbaibchgmnaa", sum := "412d63e05831e5bd013eeb22d1ded5e8c5372ba05137b5cc20f0faa7deef07a4", func := "portage/portagelaw03.RealExact", spec := "realExact", inPlace := ["math.Float64frombits", "math.Float64bits"], apart := false }
def RealExactSaid : Prop := realExactRow.holds Try.pinned (OpenSpec.ofChange realExactSpec)

/-- ITS FALSE NEIGHBOUR: 'it returns false'. Refute it at one input. -/
def realExactWrong : ChangeSpec := { name := "realExact", fn := fun _ => fun
  | [d1, d2] => { results := [.lit (.bool false)], args := [d1, d2] }
  | _ => none }
def RealExactWrongFalsely : Prop := realExactRow.holds Try.pinned (OpenSpec.ofChange realExactWrong)

/- THE SECOND FORM. 'bulk': how many values and letters a reading holds, each counted each time it is reached (what is shared counts as often as it is met; a slice's spare places count too). A statement '..UptoSaid' is the law's where the arguments, and the package variables that the reading takes, are together of bulk at most 1048576: NARROWER than '..Said'. Prove '..Said' where nothing that the law and all that it calls make is longer than what came in: it says more and counts as full. Else prove '..UptoSaid'. A law counts once. -/
mutual
def uptoBulk {H : Type} : DataW H → Nat
  | .lit (.string bytes) => bytes.length + 1
  | .lit _ => 1
  | .nil => 1
  | .ptr d => uptoBulk d + 1
  | .slice elems spare => uptoBulkAll elems + uptoBulkAll spare + 1
  | .agg parts => uptoBulkAll parts + 1
  | .iface _ d => uptoBulk d + 1
  | .map entries => uptoBulkEntries entries + 1
  | .held _ => 1
def uptoBulkAll {H : Type} : List (DataW H) → Nat
  | [] => 0
  | d :: r => uptoBulk d + uptoBulkAll r
def uptoBulkEntries {H : Type} : List (Lit × DataW H) → Nat
  | [] => 0
  | x :: r => uptoBulkEntry x + uptoBulkEntries r
def uptoBulkEntry {H : Type} : Lit × DataW H → Nat
  | (.string bytes, d) => bytes.length + uptoBulk d + 1
  | (_, d) => uptoBulk d + 1
 end
def uptoSmall : (H : Type) → List (DataW H) → Bool := fun _ ds => decide (uptoBulkAll ds ≤ 1048576)
def OpenSpec.upto (s : _root_.Go.ChangeSpec) : _root_.Go.OpenSpec := { _root_.Go.OpenSpec.ofChange s with cond := some uptoSmall }

/-- 'portagelaw03.RealAdds', WHERE WHAT IT READS IS OF BULK AT MOST 1048576: true; the input reads as it did. -/
def realAddsUptoRow : OpenClaim := { program := "ytnikbaibchgmnaa", sum := "412d63e05831e5bd013eeb22d1ded5e8c5372ba05137b5cc20f0faa7deef07a4", func := "portage/portagelaw03.RealAdds", spec := "realAdds", inPlace := ["math.Float64frombits", "math.Float64bits"], apart := false, narrowed := true }
def RealAddsUptoSaid : Prop := realAddsUptoRow.holds Try.pinned (OpenSpec.upto realAddsSpec)

/-- 'portagelaw03.RealMuls', WHERE WHAT IT READS IS OF BULK AT MOST 1048576: true; the input reads as it did. -/
def realMulsUptoRow : OpenClaim := { program := "ytnikbaibchgmnaa", sum := "412d63e05831e5bd013eeb22d1ded5e8c5372ba05137b5cc20f0faa7deef07a4", func := "portage/portagelaw03.RealMuls", spec := "realMuls", inPlace := ["math.Float64frombits", "math.Float64bits"], apart := false, narrowed := true }
def RealMulsUptoSaid : Prop := realMulsUptoRow.holds Try.pinned (OpenSpec.upto realMulsSpec)

/-- 'portagelaw03.RealHolds', WHERE WHAT IT READS IS OF BULK AT MOST 1048576: true; the input reads as it did. -/
def realHoldsUptoRow : OpenClaim := { program := "ytnikbaibchgmnaa", sum := "412d63e05831e5bd013eeb22d1ded5e8c5372ba05137b5cc20f0faa7deef07a4", func := "portage/portagelaw03.RealHolds", spec := "realHolds", inPlace := ["math.Float64frombits"], apart := false, narrowed := true }
def RealHoldsUptoSaid : Prop := realHoldsUptoRow.holds Try.pinned (OpenSpec.upto realHoldsSpec)

/-- 'portagelaw03.RealInts', WHERE WHAT IT READS IS OF BULK AT MOST 1048576: true; the input reads as it did. -/
def realIntsUptoRow : OpenClaim := { program := "ytnikbaibchgmnaa", sum := "412d63e05831e5bd013eeb22d1ded5e8c5372ba05137b5cc20f0faa7deef07a4", func := "portage/portagelaw03.RealInts", spec := "realInts", inPlace := ["math.Float64frombits", "math.Float64bits"], apart := false, narrowed := true }
def RealIntsUptoSaid : Prop := realIntsUptoRow.holds Try.pinned (OpenSpec.upto realIntsSpec)

/-- 'portagelaw03.RealExact', WHERE WHAT IT READS IS OF BULK AT MOST 1048576: true; the input reads as it did. -/
def realExactUptoRow : OpenClaim := { program := "ytnikbaibchgmnaa", sum := "412d63e05831e5bd013eeb22d1ded5e8c5372ba05137b5cc20f0faa7deef07a4", func := "portage/portagelaw03.RealExact", spec := "realExact", inPlace := ["math.Float64frombits", "math.Float64bits"], apart := false, narrowed := true }
def RealExactUptoSaid : Prop := realExactUptoRow.holds Try.pinned (OpenSpec.upto realExactSpec)

end Rows
end Go.Proofs.Ytnikbaibchgmnaa
