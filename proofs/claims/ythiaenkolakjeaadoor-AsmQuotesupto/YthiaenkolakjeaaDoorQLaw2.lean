/-
  AsmQuotes holds.
-/
import Derived.Test.YthiaenkolakjeaaDoorQUn2
import Derived.Test.YthiaenkolakjeaaDoorQLaw
import Derived.Test.YthiaenkolakjeaaDoorQRq2
namespace Go.Proofs.YthiaenkolakjeaaDoor
open Go.RowKit Go.Shelf
set_option linter.unusedVariables false
set_option linter.unusedSimpArgs false
/-- The two parts of what Unquote answers. -/
def uT : Option (List UInt8) → ByteArray
  | none => ⟨#[]⟩
  | some r => ⟨r.toArray⟩
theorem rsU_eq (o : Option (List UInt8)) : rsU o = .tuple #[.string (uT o), .bool o.isSome] := by cases o <;> rfl
theorem neq4 (b : Bool) (W : World) : (binOp .neq 4 (.bool b) (.bool b)).run Tryd.prog W = .ok (.bool false) W := by cases b <;> kernel_rfl
theorem eql4 (b : Bool) (W : World) : (binOp .eql 4 (.bool b) (.bool b)).run Tryd.prog W = .ok (.bool true) W := by cases b <;> kernel_rfl
set_option maxHeartbeats 1000000 in
set_option maxRecDepth 100000 in
theorem quotesLaw (s : ByteArray) (w : World) (hs : s.size ≤ 1048576) (hEr : Er w) :
    Calls Tryd.prog 3 #[.string s] w fun e w' => e = .returned (.bool true) ∧ Below w.heap.size w w' := by
  have HEr := hide hEr
  have H5 := hide (fun w => runqA_any s w (by omega))
  have H6 := hide (fun w (h : Er w) => unqA_any s w h (by omega))
  have H7 := hide (fun w => quote_any s w (by omega))
  have H8 := hide (fun w => rquote_any s w (by omega))
  obtain ⟨q, hq⟩ : ∃ q : ByteArray, q = ⟨(quo s.data.toList).toArray⟩ := ⟨_, rfl⟩
  rw [← hq] at H7 H8
  clear hq
  obtain ⟨t, ht⟩ : ∃ t : ByteArray, t = ⟨#[34]⟩ ++ s ++ ⟨#[34]⟩ := ⟨_, rfl⟩
  have htz : t.size ≤ 4194304 := by
    rw [ht]
    simp only [ByteArray.size_append]
    have : (⟨#[34]⟩ : ByteArray).size = 1 := rfl
    omega
  have K5 := hide (fun w => runqA_any t w htz)
  have K6 := hide (fun w (h : Er w) => unqA_any t w h htz)
  rw [rsU_eq] at H5 H6 K5 K6
  generalize uT (uq s.data.toList) = u1 at H5 H6
  generalize (uq s.data.toList).isSome = b1 at H5 H6
  generalize uT (uq t.data.toList) = u2 at K5 K6
  generalize (uq t.data.toList).isSome = b2 at K5 K6
  clear hEr htz
  have n1 := neq4 b1
  have n2 := eql4 b2
  go_enter Tryd.func3, Tryd.ntmps3
  go_wp2_with fail
  refine (unhide H5 _).mono ?_
  rintro e W1 ⟨rfl, hb⟩
  have F1 : Hid (Below w.heap.size w W1) := hb
  have E1 : Hid (Er W1) := (unhide HEr).keep hb (unhide HEr).size
  clear hb
  go_wp2_with fail
  refine (unhide H6 _ (unhide E1)).mono ?_
  rintro e W2 ⟨rfl, hb⟩
  have F2 : Hid (Below w.heap.size w W2) := (unhide F1).trans (hb.mono (unhide F1).size)
  clear hb
  go_wp2_with fail
  refine (unhide H7 _).mono ?_
  rintro e W3 ⟨rfl, hb⟩
  have F3 : Hid (Below w.heap.size w W3) := (unhide F2).trans (hb.mono (unhide F2).size)
  clear hb
  go_wp2_with fail
  refine (unhide H8 _).mono ?_
  rintro e W4 ⟨rfl, hb⟩
  have F4 : Hid (Below w.heap.size w W4) := (unhide F3).trans (hb.mono (unhide F3).size)
  have E4 : Hid (Er W4) := (unhide HEr).keep (unhide F4) (unhide HEr).size
  clear hb
  go_wp2_with fail
  rw [← ht]
  clear ht hs
  refine (unhide K5 _).mono ?_
  rintro e W5 ⟨rfl, hb⟩
  have F5 : Hid (Below w.heap.size w W5) := (unhide F4).trans (hb.mono (unhide F4).size)
  have E5 : Hid (Er W5) := (unhide HEr).keep (unhide F5) (unhide HEr).size
  clear hb
  go_wp2_with fail
  refine (unhide K6 _ (unhide E5)).mono ?_
  rintro e W6 ⟨rfl, hb⟩
  have F6 : Hid (Below w.heap.size w W6) := (unhide F5).trans (hb.mono (unhide F5).size)
  clear hb
  go_wp2_with fail
  go_ret
  exact ⟨rfl, unhide F6⟩
end Go.Proofs.YthiaenkolakjeaaDoor
