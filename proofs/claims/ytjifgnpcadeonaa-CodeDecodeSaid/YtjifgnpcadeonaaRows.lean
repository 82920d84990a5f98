/-
  No cell of these rows narrows 'for every input' (looked for: loops, veiled, ifaces, maps, wideKeys, modest, calm, conditions, laid).
  DERIVED. THE GIVEN ROWS OF THIS SEAT. 6 by the template 'for every input the law returns true; each argument reads behind the call as it read before'; 0 by the template 'total and deterministic' (their statements: YtjifgnpcadeonaaTotals.lean).
  GIVEN WITH THE SEED: the statements are not yours to turn. If you find one false, say at which input.
  Laid BY PROGRAM, IN A SANDBOX (cutbox-rows.mjs): the forced cells as the released guide's own fill.sh prints them over the translation 910ef857dd142653… (all of the seat's roots in one cut). By AI agents, Wed Nov 11 2026. No macro, syntax, notation, axiom, sorry.
-/
import Derived.Test.YtjifgnpcadeonaaChecked
import GoSem.Claim
import GoSem.ClaimJoined
import GoSem.ClaimMapViews
import Derived.JoinedTies
import Derived.KernelRfl
namespace Go.Proofs.Ytjifgnpcadeonaa
/- THE CELL 'sum', in the pinned program and in every row, IS THE sha256 OF THE DUMP (.gsa) THAT YtjifgnpcadeonaaProg.lean LOADS. Nothing in Lean hashes anything: it is a label: what it is worth is what the hold of that sum in a sandbox is worth. -/
noncomputable def Try.pinned : Pinned := { name := "ytjifgnpcadeonaa", sum := "910ef857dd1426538da2c4f6e595bd9fb803fbe975d6c2e280b8818a5cf4d38e", checked := Try.checked }
namespace Rows
def none {H : Type} : Left H := { results := [], args := [] }

/-- 'portagelaw07.CodeEncode': WHATEVER THE INPUT: true; the input reads as it did. -/
def codeEncodeSpec : ChangeSpec := { name := "codeEncode", fn := fun _ => fun
  | [d] => { results := [.lit (.bool true)], args := [d] }
  | _ => none }
def codeEncodeRow : OpenClaim := { program := "ytjifgnpcadeonaa", sum := "910ef857dd1426538da2c4f6e595bd9fb803fbe975d6c2e280b8818a5cf4d38e", func := "portage/portagelaw07.CodeEncode", spec := "codeEncode", unfollowed := true, recurses := true, apart := false }
def CodeEncodeSaid : Prop := codeEncodeRow.holds Try.pinned (OpenSpec.ofChange codeEncodeSpec)

/-- ITS FALSE NEIGHBOUR: 'it returns false'. Refute it at one input. -/
def codeEncodeWrong : ChangeSpec := { name := "codeEncode", fn := fun _ => fun
  | [d] => { results := [.lit (.bool false)], args := [d] }
  | _ => none }
def CodeEncodeWrongFalsely : Prop := codeEncodeRow.holds Try.pinned (OpenSpec.ofChange codeEncodeWrong)

/-- 'portagelaw07.CodeDecode': WHATEVER THE INPUT: true; the input reads as it did. -/
def codeDecodeSpec : ChangeSpec := { name := "codeDecode", fn := fun _ => fun
  | [d] => { results := [.lit (.bool true)], args := [d] }
  | _ => none }
def codeDecodeRow : OpenClaim := { program := "ytjifgnpcadeonaa", sum := "910ef857dd1426538da2c4f6e595bd9fb803fbe975d6c2e280b8818a5cf4d38e", func := "portage/portagelaw07.CodeDecode", spec := "codeDecode", unfollowed := true, recurses := true, apart := false }
def CodeDecodeSaid : Prop := codeDecodeRow.holds Try.pinned (OpenSpec.ofChange codeDecodeSpec)

/-- ITS FALSE NEIGHBOUR: 'it returns false'. Refute it at one input. -/
def codeDecodeWrong : ChangeSpec := { name := "codeDecode", fn := fun _ => fun
  | [d] => { results := [.lit (.bool false)], args := [d] }
  | _ => none }
def CodeDecodeWrongFalsely : Prop := codeDecodeRow.holds Try.pinned (OpenSpec.ofChange codeDecodeWrong)

/-- 'portagelaw07.CodeBack': WHATEVER THE INPUT: true; the input reads as it did. -/
def codeBackSpec : ChangeSpec := { name := "codeBack", fn := fun _ => fun
  | [d] => { results := [.lit (.bool true)], args := [d] }
  | _ => none }
def codeBackRow : OpenClaim := { program := "ytjifgnpcadeonaa", sum := "910ef857dd1426538da2c4f6e595bd9fb803fbe975d6c2e280b8818a5cf4d38e", func := "portage/portagelaw07.CodeBack", spec := "codeBack", unfollowed := true, recurses := true, apart := false }
def CodeBackSaid : Prop := codeBackRow.holds Try.pinned (OpenSpec.ofChange codeBackSpec)

/-- ITS FALSE NEIGHBOUR: 'it returns false'. Refute it at one input. -/
def codeBackWrong : ChangeSpec := { name := "codeBack", fn := fun _ => fun
  | [d] => { results := [.lit (.bool false)], args := [d] }
  | _ => none }
def CodeBackWrongFalsely : Prop := codeBackRow.holds Try.pinned (OpenSpec.ofChange codeBackWrong)

/-- 'portagelaw07.CodeOneForm': WHATEVER THE INPUT: true; the input reads as it did. -/
def codeOneFormSpec : ChangeSpec := { name := "codeOneForm", fn := fun _ => fun
  | [d] => { results := [.lit (.bool true)], args := [d] }
  | _ => none }
def codeOneFormRow : OpenClaim := { program := "ytjifgnpcadeonaa", sum := "910ef857dd1426538da2c4f6e595bd9fb803fbe975d6c2e280b8818a5cf4d38e", func := "portage/portagelaw07.CodeOneForm", spec := "codeOneForm", unfollowed := true, recurses := true, apart := false }
def CodeOneFormSaid : Prop := codeOneFormRow.holds Try.pinned (OpenSpec.ofChange codeOneFormSpec)

/-- ITS FALSE NEIGHBOUR: 'it returns false'. Refute it at one input. -/
def codeOneFormWrong : ChangeSpec := { name := "codeOneForm", fn := fun _ => fun
  | [d] => { results := [.lit (.bool false)], args := [d] }
  | _ => none }
def CodeOneFormWrongFalsely : Prop := codeOneFormRow.holds Try.pinned (OpenSpec.ofChange codeOneFormWrong)

/-- 'portagelaw07.CodeJoins': WHATEVER THE INPUT: true; the input reads as it did. -/
def codeJoinsSpec : ChangeSpec := { name := "codeJoins", fn := fun _ => fun
  | [d1, d2] => { results := [.lit (.bool true)], args := [d1, d2] }
  | _ => none }
def codeJoinsRow : OpenClaim := { program := "ytjifgnpcadeonaa", sum := "910ef857dd1426538da2c4f6e595bd9fb803fbe975d6c2e280b8818a5cf4d38e", func := "portage/portagelaw07.CodeJoins", spec := "codeJoins", unfollowed := true, recurses := true, apart := false }
def CodeJoinsSaid : Prop := codeJoinsRow.holds Try.pinned (OpenSpec.ofChange codeJoinsSpec)

/-- ITS FALSE NEIGHBOUR: 'it returns false'. Refute it at one input. -/
def codeJoinsWrong : ChangeSpec := { name := "codeJoins", fn := fun _ => fun
  | [d1, d2] => { results := [.lit (.bool false)], args := [d1, d2] }
  | _ => none }
def CodeJoinsWrongFalsely : Prop := codeJoinsRow.holds Try.pinned (OpenSpec.ofChange codeJoinsWrong)

/-- 'portagelaw07.CodeCut': WHATEVER THE INPUT: true; the input reads as it did. -/
def codeCutSpec : ChangeSpec := { name := "codeCut", fn := fun _ => fun
  | [d1, d2] => { results := [.lit (.bool true)], args := [d1, d2] }
  | _ => none }
def codeCutRow : OpenClaim := { program := "ytjifgnpcadeonaa", sum := "910ef857dd1426538da2c4f6e595bd9fb803fbe975d6c2e280b8818a5cf4d38e", func := "portage/portagelaw07.CodeCut", spec := "codeCut", unfollowed := true, recurses := true, apart := false }
def CodeCutSaid : Prop := codeCutRow.holds Try.pinned (OpenSpec.ofChange codeCutSpec)

/-- ITS FALSE NEIGHBOUR: 'it returns false'. Refute it at one input. -/
def codeCutWrong : ChangeSpec := { name := "codeCut", fn := fun _ => fun
  | [d1, d2] => { results := [.lit (.bool false)], args := [d1, d2] }
  | _ => none }
def CodeCutWrongFalsely : Prop := codeCutRow.holds Try.pinned (OpenSpec.ofChange codeCutWrong)

/- THE SECOND FORM. 'bulk': how many values and letters a reading holds, each counted each time it is reached (what is shared counts as often as it is met; a slice's spare places count too). A statement '..UptoSaid' is the law's where the arguments, and the package variables that the reading takes, are together of bulk at most 1048576: NARROWER than '..Said'. Prove '..Said' where nothing that the law and all that it calls make is longer than what came in: it says more and counts as full. Else prove '..UptoSaid'. A law counts once. -/
mutual
def uptoBulk {H : Type} : DataW H → Nat
  | .lit (.string bytes) => bytes.length + 1
  | .lit _ => 1
  | .nil => 1
  | .ptr d => uptoBulk d + 1
  | .slice elems spare => uptoBulkAll elems + uptoBulkAll spare + 1
  | .agg parts => uptoBulkAll parts + 1
  | .iface _ d => uptoBulk d + 1
  | .map entries => uptoBulkEntries entries + 1
  | .held _ => 1
def uptoBulkAll {H : Type} : List (DataW H) → Nat
  | [] => 0
  | d :: r => uptoBulk d + uptoBulkAll r
def uptoBulkEntries {H : Type} : List (Lit × DataW H) → Nat
  | [] => 0
  | x :: r => uptoBulkEntry x + uptoBulkEntries r
def uptoBulkEntry {H : Type} : Lit × DataW H → Nat
  | (.string bytes, d) => bytes.length + uptoBulk d + 1
  | (_, d) => uptoBulk d + 1
 end
def uptoSmall : (H : Type) → List (DataW H) → Bool := fun _ ds => decide (uptoBulkAll ds ≤ 1048576)
def OpenSpec.upto (s : _root_.Go.ChangeSpec) : _root_.Go.OpenSpec := { _root_.Go.OpenSpec.ofChange s with cond := some uptoSmall }

/-- 'portagelaw07.CodeEncode', WHERE WHAT IT READS IS OF BULK AT MOST 1048576: true; the input reads as it did. -/
def codeEncodeUptoRow : OpenClaim := { program := "ytjifgnpcadeonaa", sum := "910ef857dd1426538da2c4f6e595bd9fb803fbe975d6c2e280b8818a5cf4d38e", func := "portage/portagelaw07.CodeEncode", spec := "codeEncode", unfollowed := true, recurses := true, apart := false, narrowed := true }
def CodeEncodeUptoSaid : Prop := codeEncodeUptoRow.holds Try.pinned (OpenSpec.upto codeEncodeSpec)

/-- 'portagelaw07.CodeDecode', WHERE WHAT IT READS IS OF BULK AT MOST 1048576: true; the input reads as it did. -/
def codeDecodeUptoRow : OpenClaim := { program := "ytjifgnpcadeonaa", sum := "910ef857dd1426538da2c4f6e595bd9fb803fbe975d6c2e280b8818a5cf4d38e", func := "portage/portagelaw07.CodeDecode", spec := "codeDecode", unfollowed := true, recurses := true, apart := false, narrowed := true }
def CodeDecodeUptoSaid : Prop := codeDecodeUptoRow.holds Try.pinned (OpenSpec.upto codeDecodeSpec)

/-- 'portagelaw07.CodeBack', WHERE WHAT IT READS IS OF BULK AT MOST 1048576: true; the input reads as it did. -/
def codeBackUptoRow : OpenClaim := { program := "ytjifgnpcadeonaa", sum := "910ef857dd1426538da2c4f6e595bd9fb803fbe975d6c2e280b8818a5cf4d38e", func := "portage/portagelaw07.CodeBack", spec := "codeBack", unfollowed := true, recurses := true, apart := false, narrowed := true }
def CodeBackUptoSaid : Prop := codeBackUptoRow.holds Try.pinned (OpenSpec.upto codeBackSpec)

/-- 'portagelaw07.CodeOneForm', WHERE WHAT IT READS IS OF BULK AT MOST 1048576: true; the input reads as it did. -/
def codeOneFormUptoRow : OpenClaim := { program := "ytjifgnpcadeonaa", sum := "910ef857dd1426538da2c4f6e595bd9fb803fbe975d6c2e280b8818a5cf4d38e", func := "portage/portagelaw07.CodeOneForm", spec := "codeOneForm", unfollowed := true, recurses := true, apart := false, narrowed := true }
def CodeOneFormUptoSaid : Prop := codeOneFormUptoRow.holds Try.pinned (OpenSpec.upto codeOneFormSpec)

/-- 'portagelaw07.CodeJoins', WHERE WHAT IT READS IS OF BULK AT MOST 1048576: true; the input reads as it did. -/
def codeJoinsUptoRow : OpenClaim := { program := "ytjifgnpcadeonaa", sum := "910ef857dd1426538da2c4f6e595bd9fb803fbe975d6c2e280b8818a5cf4d38e", func := "portage/portagelaw07.CodeJoins", spec := "codeJoins", unfollowed := true, recurses := true, apart := false, narrowed := true }
def CodeJoinsUptoSaid : Prop := codeJoinsUptoRow.holds Try.pinned (OpenSpec.upto codeJoinsSpec)

/-- 'portagelaw07.CodeCut', WHERE WHAT IT READS IS OF BULK AT MOST 1048576: true; the input reads as it did. -/
def codeCutUptoRow : OpenClaim := { program := "ytjifgnpcadeonaa", sum := "910ef857dd1426538da2c4f6e595bd9fb803fbe975d6c2e280b8818a5cf4d38e", func := "portage/portagelaw07.CodeCut", spec := "codeCut", unfollowed := true, recurses := true, apart := false, narrowed := true }
def CodeCutUptoSaid : Prop := codeCutUptoRow.holds Try.pinned (OpenSpec.upto codeCutSpec)

end Rows
end Go.Proofs.Ytjifgnpcadeonaa
