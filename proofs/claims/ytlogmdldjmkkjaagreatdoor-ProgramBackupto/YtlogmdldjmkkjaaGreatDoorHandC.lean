/-
  What came in: a program, bytes; the laid variables.
-/
import Derived.Test.YtlogmdldjmkkjaaGreatDoorCards
import Derived.Test.YtlogmdldjmkkjaaGreatDoorTie
import Derived.Test.YtlogmdldjmkkjaaGreatDoorDDe
import Derived.Test.YtlogmdldjmkkjaaGreatDoorPIn
import Derived.Test.YtlogmdldjmkkjaaGreatDoorDSum
import Derived.WalkKit
import Derived.ProofKit
import Derived.OpenShut
import Derived.ShutString
import Derived.ChangeOld
import Derived.Below
import Derived.SizedLaws
import Derived.Lib.SmallJoins
import Derived.Lib.LaidTab
import Derived.LaidHandle
import Derived.LaidOnce
import Derived.SevenTiedAt
import Derived.Deep.DeepHandedRow
import Derived.JoinedCond
namespace Go.Proofs.YtlogmdldjmkkjaaGreatDoor
open Go.ChangeShapes Go.WideShapes Go.ChangeAt Go.RowKit Go.Joins
set_option linter.unusedVariables false
set_option maxRecDepth 100000
namespace into
theorem slice_at {P : Program} {w : World} {r : Reach} {base : Nat} {t e : TypeId} {a : Addr} {len cap : Nat} (ht : P.underlying t = some (.slice e)) (h : Value.okWide P w r base t (.slice (some a) len cap)) :
    a.spot = none ∧ a.block < w.heap.size := by
  simp only [Value.okWide, ht, Cell.okWide, Cell.ok] at h
  obtain ⟨_, _, _, hs, row, cells, hsh, _⟩ := h
  refine ⟨hs, ?_⟩
  by_cases hlt : a.block < w.heap.size
  · exact hlt
  · simp [World.shape?, Array.getElem?_eq_none (Nat.le_of_not_lt hlt)] at hsh

theorem getD_take {zs : List Int} {n i : Nat} (h : i < n) : (zs.take n).getD i 0 = zs.getD i 0 := by
  simp [List.getD, h]

/-- What the walk is told of the bytes that came in. -/
theorem inBu {H : Type} {enc : TypeId × Value → H} {W : World} {base : Nat} {a : Option Addr} {len cap : Nat} {d : DataW H} {p : List MemPlace}
    (hv : Value.okWide Tryz.prog W .any base 27 (.slice a len cap)) (h : ∃ f, DataW.trod enc Tryz.prog W 0 (fun _ => true) true f 27 (Value.slice a len cap).cells.toList = some (d, p))
    (hsz : Rows.uptoBulk d ≤ 1048576) :
    ∃ bs, Rd W (.slice a len cap) bs ∧ BOk bs ∧ bs.length ≤ 1048576 := by
  obtain ⟨fuel, hf⟩ := h
  rcases open_ints Tryz.underlying27 Tryz.underlying5 (by kernel_rfl) hf with ⟨hcs, _⟩ | ⟨x, l, c, zs, hcs, _, hl, hm, hz, hd, hcell, hwz⟩
  · simp [Value.cells] at hcs
    obtain ⟨rfl, rfl, rfl⟩ := hcs
    exact ⟨[], .inl ⟨rfl, rfl⟩, fun b hb => by simp at hb, by simp⟩
  · simp [Value.cells] at hcs
    obtain ⟨rfl, rfl, rfl⟩ := hcs
    obtain ⟨hs, hb⟩ := slice_at Tryz.underlying27 hv
    obtain ⟨b, off, spot⟩ := x
    simp at hs hb
    subst hs
    have hzl : zs.length = cap := by simpa using hz
    have htl : (zs.take len).length = len := by simp; omega
    have hd1 := ((Prod.mk.injEq _ _ _ _).mp hd).1
    refine ⟨zs.take len, .inr ⟨b, off, cap, by rw [htl], by omega, hm, hb, fun i hi => ?_⟩, fun n hn => ?_, ?_⟩
    · have hi' : i < len := by omega
      rw [getD_take hi', ← Go.WideShapes.add_plain]
      exact hcell i (by omega)
    · have := bounds_u8 (hwz n (List.mem_of_mem_take hn)); omega
    · have h1 : d = .slice (lits .u8 (zs.take len)) (lits .u8 (zs.drop len)) := hd1
      rw [h1, Rows.uptoBulk] at hsz
      have h2 := bulk_len (lits (H := H) .u8 (zs.take len))
      have h3 : (lits (H := H) .u8 (zs.take len)).length = (zs.take len).length := by simp [lits]
      omega
end into
theorem into.okp {p : Pg} (h3 : ∀ (i : Nat) (f : Fc), p.funcs[i]? = some f → into.okF f) (h4 : ∀ c ∈ p.consts, into.okC c) : OkP p := by
  have wf : ∀ k : Int, into.I64' k → (Lit.int .i64 k).wf = true := fun k hk => by
    unfold into.I64' at hk
    exact Go.WalkArith.wf_i64 ⟨by omega, by omega⟩
  refine ⟨fun c hc => ⟨wf _ (h4 c hc).1, wf _ (h4 c hc).2.1, (h4 c hc).2.2⟩, fun i f hf => ⟨Nat.le_trans (h3 i f hf).1 (by decide), ?_⟩⟩
  have := (h3 i f hf).2.2.1
  unfold maxLen at this
  omega
theorem Tryz.tsize : Tryz.prog.types.size = 324 := by kernel_rfl
theorem Tryz.oneRow : ((List.range 324).filter fun t => Tryz.prog.rowNamed t [101, 114, 114, 111, 114]) = [96] := by kernel_rfl
theorem Tryz.et : Tryz.prog.globalNamed "errors.errorType" = some 0 := by kernel_rfl
theorem laid_two {W : World} (h : laidMetH Tryz.prog Rows.programBackUptoRow.laid W) : laidMet Tryz.prog (Rows.programBackUptoRow.laid.filter fun x => x.2.handleName?.isNone) W ∧ handlesMet Tryz.prog (Rows.programBackUptoRow.laid.filter fun x => x.2.handleName?.isSome) W := h
theorem laid_of {W : World} (h : laidMetH Tryz.prog Rows.programBackUptoRow.laid W) : Laid W := by
  have h' : handlesMet Tryz.prog [("errors.errorType", Rows.laid_errors_errorType)] W := (laid_two h).2
  obtain ⟨name, u, ty, e1, e2, e3, e4, e5⟩ := h' _ (List.mem_singleton.2 rfl)
  have en : name = [101, 114, 114, 111, 114] := (Option.some.inj e1).symm
  subst en
  have eu : some 257 = some u := by rw [← e2]; kernel_rfl
  obtain rfl := Option.some.inj eu
  have hm : ty ∈ (List.range 324).filter fun t => Tryz.prog.rowNamed t [101, 114, 114, 111, 114] := List.mem_filter.2 ⟨List.mem_range.2 (by rw [← Tryz.tsize]; exact e3), e4⟩
  rw [Tryz.oneRow] at hm
  obtain rfl := List.mem_singleton.1 hm
  have hh : typeHandle Tryz.prog 96 = .pointer (some ⟨2, 96, none⟩) := by kernel_rfl
  rw [hh] at e5
  unfold Laid
  simpa using World.var?_cell Tryz.et e5 0
theorem kt_of {W : World} (h : laidMetH Tryz.prog Rows.programBackUptoRow.laid W) : dg.KT W := by
  have h1 : laidMet Tryz.prog (Rows.programBackUptoRow.laid.filter fun x => x.2.handleName?.isNone) W := (laid_two h).1
  have h2 := Lib.tabIs_of_head (P := Tryz.prog) (W := W) (k := .u32) (zs := dg.ktab) (rest := []) (g := 1) (t := 185) (e := 123) (n := 64) (by kernel_rfl) (by kernel_rfl) Tryz.underlying185 Tryz.underlying123 (by kernel_rfl) (by kernel_rfl) (show laidMet Tryz.prog ((_, Lib.tabData .u32 dg.ktab) :: []) W from h1)
  have h3 := fun i hi => h2.cell (g := 1) (by kernel_rfl) i hi
  refine ⟨fun j v hv => ?_, World.block_lt_of_cell? W _ (h3 0 (by rw [dg.ktab_len]; omega))⟩
  have hj : j < dg.ktab.length := by have := (List.getElem?_eq_some_iff.1 hv).1; simpa using this
  have e := h3 j hj
  rw [Nat.zero_add, e]
  rw [List.getElem?_map, List.getElem?_eq_getElem hj] at hv
  rw [List.getD, List.getElem?_eq_getElem hj]
  exact hv
noncomputable def lay0 (h : Array Obj) : Array Obj := h.modify 0 fun
  | .cells _ t frozen => .cells #[.iface 257 (.agg #[.pointer (some ⟨2, 96, none⟩)])] t frozen
  | o => o
noncomputable def lay1 (h : Array Obj) : Array Obj := h.modify 1 fun
  | .cells _ t frozen => .cells (dg.ktab.map (Value.int .u32)).toArray t frozen
  | o => o
noncomputable def laidWorld (os : Os) : World :=
  { World.holding Tryz.prog os ⟨#[], #[], []⟩ with heap := lay1 (lay0 (World.holding Tryz.prog os ⟨#[], #[], []⟩).heap) }
theorem laidWorld_met (os : Os) (args : Array Value) : laidMetH Tryz.prog Rows.programBackUptoRow.laid ((laidWorld os).forCall (fun _ _ => 0) ⟨#[], args, []⟩).memory :=
  laidMetH_of_parts (laidMet_of_run' 8 (by kernel_rfl) (by kernel_rfl)) (by kernel_rfl)
end Go.Proofs.YtlogmdldjmkkjaaGreatDoor
