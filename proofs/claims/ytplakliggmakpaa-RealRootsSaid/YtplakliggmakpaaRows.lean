/-
  No cell of these rows narrows 'for every input' (looked for: loops, veiled, ifaces, maps, wideKeys, modest, calm, conditions, laid).
  DERIVED. THE GIVEN ROWS OF THIS SEAT. 6 by the template 'for every input the law returns true; each argument reads behind the call as it read before'; 0 by the template 'total and deterministic' (their statements: YtplakliggmakpaaTotals.lean).
  GIVEN WITH THE SEED: the statements are not yours to turn. If you find one false, say at which input.
  Laid BY PROGRAM, IN A SANDBOX (cutbox-rows.mjs): the forced cells as the released guide's own fill.sh prints them over the translation 50beb87d884c96d1… (all of the seat's roots in one cut). By AI agents, Wed Nov 11 2026. No macro, syntax, notation, axiom, sorry.
-/
import Derived.Test.YtplakliggmakpaaChecked
import GoSem.Claim
import GoSem.ClaimJoined
import GoSem.ClaimMapViews
import Derived.JoinedTies
import Derived.KernelRfl
namespace Go.Proofs.Ytplakliggmakpaa
/- THE CELL 'sum', in the pinned program and in every row, IS THE sha256 OF THE DUMP (.gsa) THAT YtplakliggmakpaaProg.lean LOADS. Nothing in Lean hashes anything: it is a label: what it is worth is what the hold of that sum in a sandbox is worth. -/
noncomputable def Try.pinned : Pinned := { name := "ytplakliggmakpaa", sum := "50beb87d884c96d160af4706b3b359bf5290c906eae105e85ca8d44207ad3a27", checked := Try.checked }
namespace Rows
def none {H : Type} : Left H := { results := [], args := [] }

/-- 'portagelaw03.RealProper': WHATEVER THE INPUT: true; the input reads as it did. -/
def realProperSpec : ChangeSpec := { name := "realProper", fn := fun _ => fun
  | [d1, d2, d3] => { results := [.lit (.bool true)], args := [d1, d2, d3] }
  | _ => none }
def realProperRow : OpenClaim := { program := "ytplakliggmakpaa", sum := "50beb87d884c96d160af4706b3b359bf5290c906eae105e85ca8d44207ad3a27", func := "portage/portagelaw03.RealProper", spec := "realProper", inPlace := ["math.Float64frombits", "math.Float64bits", "math.sqrt", "math.archFloor", "math.archTrunc"], apart := false }
def RealProperSaid : Prop := realProperRow.holds Try.pinned (OpenSpec.ofChange realProperSpec)

/-- ITS FALSE NEIGHBOUR: 'it returns false'. Refute it at one input. -/
def realProperWrong : ChangeSpec := { name := "realProper", fn := fun _ => fun
  | [d1, d2, d3] => { results := [.lit (.bool false)], args := [d1, d2, d3] }
  | _ => none }
def RealProperWrongFalsely : Prop := realProperRow.holds Try.pinned (OpenSpec.ofChange realProperWrong)

/-- 'portagelaw03.RealOrder': WHATEVER THE INPUT: true; the input reads as it did. -/
def realOrderSpec : ChangeSpec := { name := "realOrder", fn := fun _ => fun
  | [d1, d2] => { results := [.lit (.bool true)], args := [d1, d2] }
  | _ => none }
def realOrderRow : OpenClaim := { program := "ytplakliggmakpaa", sum := "50beb87d884c96d160af4706b3b359bf5290c906eae105e85ca8d44207ad3a27", func := "portage/portagelaw03.RealOrder", spec := "realOrder", inPlace := ["math.Float64frombits", "math.Float64bits", "math.sqrt"], apart := false }
def RealOrderSaid : Prop := realOrderRow.holds Try.pinned (OpenSpec.ofChange realOrderSpec)

/-- ITS FALSE NEIGHBOUR: 'it returns false'. Refute it at one input. -/
def realOrderWrong : ChangeSpec := { name := "realOrder", fn := fun _ => fun
  | [d1, d2] => { results := [.lit (.bool false)], args := [d1, d2] }
  | _ => none }
def RealOrderWrongFalsely : Prop := realOrderRow.holds Try.pinned (OpenSpec.ofChange realOrderWrong)

/-- 'portagelaw03.RealSigns': WHATEVER THE INPUT: true; the input reads as it did. -/
def realSignsSpec : ChangeSpec := { name := "realSigns", fn := fun _ => fun
  | [d1, d2] => { results := [.lit (.bool true)], args := [d1, d2] }
  | _ => none }
def realSignsRow : OpenClaim := { program := "ytplakliggmakpaa", sum := "50beb87d884c96d160af4706b3b359bf5290c906eae105e85ca8d44207ad3a27", func := "portage/portagelaw03.RealSigns", spec := "realSigns", inPlace := ["math.Float64frombits", "math.Float64bits", "math.sqrt"], apart := false }
def RealSignsSaid : Prop := realSignsRow.holds Try.pinned (OpenSpec.ofChange realSignsSpec)

/-- ITS FALSE NEIGHBOUR: 'it returns false'. Refute it at one input. -/
def realSignsWrong : ChangeSpec := { name := "realSigns", fn := fun _ => fun
  | [d1, d2] => { results := [.lit (.bool false)], args := [d1, d2] }
  | _ => none }
def RealSignsWrongFalsely : Prop := realSignsRow.holds Try.pinned (OpenSpec.ofChange realSignsWrong)

/-- 'portagelaw03.RealNear': WHATEVER THE INPUT: true; the input reads as it did. -/
def realNearSpec : ChangeSpec := { name := "realNear", fn := fun _ => fun
  | [d1, d2] => { results := [.lit (.bool true)], args := [d1, d2] }
  | _ => none }
def realNearRow : OpenClaim := { program := "ytplakliggmakpaa", sum := "50beb87d884c96d160af4706b3b359bf5290c906eae105e85ca8d44207ad3a27", func := "portage/portagelaw03.RealNear", spec := "realNear", inPlace := ["math.Float64frombits", "math.Float64bits", "math.sqrt"], apart := false }
def RealNearSaid : Prop := realNearRow.holds Try.pinned (OpenSpec.ofChange realNearSpec)

/-- ITS FALSE NEIGHBOUR: 'it returns false'. Refute it at one input. -/
def realNearWrong : ChangeSpec := { name := "realNear", fn := fun _ => fun
  | [d1, d2] => { results := [.lit (.bool false)], args := [d1, d2] }
  | _ => none }
def RealNearWrongFalsely : Prop := realNearRow.holds Try.pinned (OpenSpec.ofChange realNearWrong)

/-- 'portagelaw03.RealRoots': WHATEVER THE INPUT: true; the input reads as it did. -/
def realRootsSpec : ChangeSpec := { name := "realRoots", fn := fun _ => fun
  | [d] => { results := [.lit (.bool true)], args := [d] }
  | _ => none }
def realRootsRow : OpenClaim := { program := "ytplakliggmakpaa", sum := "50beb87d884c96d160af4706b3b359bf5290c906eae105e85ca8d44207ad3a27", func := "portage/portagelaw03.RealRoots", spec := "realRoots", inPlace := ["math.Float64frombits", "math.Float64bits", "math.sqrt"], apart := false }
def RealRootsSaid : Prop := realRootsRow.holds Try.pinned (OpenSpec.ofChange realRootsSpec)

/-- ITS FALSE NEIGHBOUR: 'it returns false'. Refute it at one input. -/
def realRootsWrong : ChangeSpec := { name := "realRoots", fn := fun _ => fun
  | [d] => { results := [.lit (.bool false)], args := [d] }
  | _ => none }
def RealRootsWrongFalsely : Prop := realRootsRow.holds Try.pinned (OpenSpec.ofChange realRootsWrong)

/-- 'portagelaw03.RealScales': WHATEVER THE INPUT: true; the input reads as it did. -/
def realScalesSpec : ChangeSpec := { name := "realScales", fn := fun _ => fun
  | [d1, d2] => { results := [.lit (.bool true)], args := [d1, d2] }
  | _ => none }
def realScalesRow : OpenClaim := { program := "ytplakliggmakpaa", sum := "50beb87d884c96d160af4706b3b359bf5290c906eae105e85ca8d44207ad3a27", func := "portage/portagelaw03.RealScales", spec := "realScales", inPlace := ["math.Float64frombits", "math.Float64bits", "math.sqrt"], apart := false }
def RealScalesSaid : Prop := realScalesRow.holds Try.pinned (OpenSpec.ofChange realScalesSpec)

/-- ITS FALSE NEIGHBOUR: 'it returns false'. Refute it at one input. -/
def realScalesWrong : ChangeSpec := { name := "realScales", fn := fun _ => fun
  | [d1, d2] => { results := [.lit (.bool false)], args := [d1, d2] }
  | _ => none }
def RealScalesWrongFalsely : Prop := realScalesRow.holds Try.pinned (OpenSpec.ofChange realScalesWrong)

/- THE SECOND FORM. 'bulk': how many values and letters a reading holds, each counted each time it is reached (what is shared counts as often as it is met; a slice's spare places count too). A statement '..UptoSaid' is the law's where the arguments, and the package variables that the reading takes, are together of bulk at most 1048576: NARROWER than '..Said'. Prove '..Said' where nothing that the law and all that it calls make is longer than what came in: it says more and counts as full. Else prove '..UptoSaid'. A law counts once. -/
mutual
def uptoBulk {H : Type} : DataW H → Nat
  | .lit (.string bytes) => bytes.length + 1
  | .lit _ => 1
  | .nil => 1
  | .ptr d => uptoBulk d + 1
  | .slice elems spare => uptoBulkAll elems + uptoBulkAll spare + 1
  | .agg parts => uptoBulkAll parts + 1
  | .iface _ d => uptoBulk d + 1
  | .map entries => uptoBulkEntries entries + 1
  | .held _ => 1
def uptoBulkAll {H : Type} : List (DataW H) → Nat
  | [] => 0
  | d :: r => uptoBulk d + uptoBulkAll r
def uptoBulkEntries {H : Type} : List (Lit × DataW H) → Nat
  | [] => 0
  | x :: r => uptoBulkEntry x + uptoBulkEntries r
def uptoBulkEntry {H : Type} : Lit × DataW H → Nat
  | (.string bytes, d) => bytes.length + uptoBulk d + 1
  | (_, d) => uptoBulk d + 1
 end
def uptoSmall : (H : Type) → List (DataW H) → Bool := fun _ ds => decide (uptoBulkAll ds ≤ 1048576)
def OpenSpec.upto (s : _root_.Go.ChangeSpec) : _root_.Go.OpenSpec := { _root_.Go.OpenSpec.ofChange s with cond := some uptoSmall }

/-- 'portagelaw03.RealProper', WHERE WHAT IT READS IS OF BULK AT MOST 1048576: true; the input reads as it did. -/
def realProperUptoRow : OpenClaim := { program := "ytplakliggmakpaa", sum := "50beb87d884c96d160af4706b3b359bf5290c906eae105e85ca8d44207ad3a27", func := "portage/portagelaw03.RealProper", spec := "realProper", inPlace := ["math.Float64frombits", "math.Float64bits", "math.sqrt", "math.archFloor", "math.archTrunc"], apart := false, narrowed := true }
def RealProperUptoSaid : Prop := realProperUptoRow.holds Try.pinned (OpenSpec.upto realProperSpec)

/-- 'portagelaw03.RealOrder', WHERE WHAT IT READS IS OF BULK AT MOST 1048576: true; the input reads as it did. -/
def realOrderUptoRow : OpenClaim := { program := "ytplakliggmakpaa", sum := "50beb87d884c96d160af4706b3b359bf5290c906eae105e85ca8d44207ad3a27", func := "portage/portagelaw03.RealOrder", spec := "realOrder", inPlace := ["math.Float64frombits", "math.Float64bits", "math.sqrt"], apart := false, narrowed := true }
def RealOrderUptoSaid : Prop := realOrderUptoRow.holds Try.pinned (OpenSpec.upto realOrderSpec)

/-- 'portagelaw03.RealSigns', WHERE WHAT IT READS IS OF BULK AT MOST 1048576: true; the input reads as it did. -/
def realSignsUptoRow : OpenClaim := { program := "ytplakliggmakpaa", sum := "50beb87d884c96d160af4706b3b359bf5290c906eae105e85ca8d44207ad3a27", func := "portage/portagelaw03.RealSigns", spec := "realSigns", inPlace := ["math.Float64frombits", "math.Float64bits", "math.sqrt"], apart := false, narrowed := true }
def RealSignsUptoSaid : Prop := realSignsUptoRow.holds Try.pinned (OpenSpec.upto realSignsSpec)

/-- 'portagelaw03.RealNear', WHERE WHAT IT READS IS OF BULK AT MOST 1048576: true; the input reads as it did. -/
def realNearUptoRow : OpenClaim := { program := "ytplakliggmakpaa", sum := "50beb87d884c96d160af4706b3b359bf5290c906eae105e85ca8d44207ad3a27", func := "portage/portagelaw03.RealNear", spec := "realNear", inPlace := ["math.Float64frombits", "math.Float64bits", "math.sqrt"], apart := false, narrowed := true }
def RealNearUptoSaid : Prop := realNearUptoRow.holds Try.pinned (OpenSpec.upto realNearSpec)

/-- 'portagelaw03.RealRoots', WHERE WHAT IT READS IS OF BULK AT MOST 1048576: true; the input reads as it did. -/
def realRootsUptoRow : OpenClaim := { program := "ytplakliggmakpaa", sum := "50beb87d884c96d160af4706b3b359bf5290c906eae105e85ca8d44207ad3a27", func := "portage/portagelaw03.RealRoots", spec := "realRoots", inPlace := ["math.Float64frombits", "math.Float64bits", "math.sqrt"], apart := false, narrowed := true }
def RealRootsUptoSaid : Prop := realRootsUptoRow.holds Try.pinned (OpenSpec.upto realRootsSpec)

/-- 'portagelaw03.RealScales', WHERE WHAT IT READS IS OF BULK AT MOST 1048576: true; the input reads as it did. -/
def realScalesUptoRow : OpenClaim := { program := "ytplakliggmakpaa", sum := "50beb87d884c96d160af4706b3b359bf5290c906eae105e85ca8d44207ad3a27", func := "portage/portagelaw03.RealScales", spec := "realScales", inPlace := ["math.Float64frombits", "math.Float64bits", "math.sqrt"], apart := false, narrowed := true }
def RealScalesUptoSaid : Prop := realScalesUptoRow.holds Try.pinned (OpenSpec.upto realScalesSpec)

end Rows
end Go.Proofs.Ytplakliggmakpaa
