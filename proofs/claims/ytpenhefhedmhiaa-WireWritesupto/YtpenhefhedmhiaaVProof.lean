/-
  WireWrites, the second form.
-/
import Derived.Test.YtpenhefhedmhiaaRows
import Derived.Test.YtpenhefhedmhiaaVLaw
import Derived.WalkKit
import Derived.ProofKit
import Derived.OpenShut
import Derived.ShutString
import Derived.ChangeOld
import Derived.Below
import Derived.JoinedCond
import Derived.Lib.SmallJoins
namespace Go.Proofs.Ytpenhefhedmhiaa.wireWrites
open Go.ChangeShapes Go.WideShapes Go.ChangeAt Go.RowKit Go.Joins
open Go.ChangeMaps (open_string shut_string)
set_option linter.unusedVariables false

theorem own : ownKnob Try.prog.godebug = none := by kernel_rfl
theorem laidOut : laidOutB Try.prog = true := by kernel_rfl
theorem cells29 : Try.prog.cellsOf 29 = 4 := by kernel_rfl
theorem cells3 : Try.prog.cellsOf 3 = 1 := by kernel_rfl
theorem cells22 : Try.prog.cellsOf 22 = 1 := by kernel_rfl
theorem cells9 : Try.prog.cellsOf 9 = 1 := by kernel_rfl

theorem slice_at {P : Program} {w : World} {r : Reach} {base : Nat} {t e : TypeId} {a : Addr} {len cap : Nat} (ht : P.underlying t = some (.slice e)) (h : Value.okWide P w r base t (.slice (some a) len cap)) :
    a.spot = none ∧ a.block < w.heap.size := by
  simp only [Value.okWide, ht, Cell.okWide, Cell.ok] at h
  obtain ⟨_, _, _, hs, row, cells, hsh, _⟩ := h
  refine ⟨hs, ?_⟩
  by_cases hlt : a.block < w.heap.size
  · exact hlt
  · simp [World.shape?, Array.getElem?_eq_none (Nat.le_of_not_lt hlt)] at hsh

/-- The call that a reading tells. -/
def putOf {H : Type} (d : DataW H) : PutD :=
  match d with
  | .agg [.lit (.int _ on), .lit (.int _ kind), .lit (.int _ x), .lit (.string l)] => ⟨on, kind, x.toNat, ⟨l.toArray⟩⟩
  | _ => PutD.zero

/-- One call, out of four cells. -/
theorem put_cells {H : Type} {enc : TypeId × Value → H} {W : World} {n : Nat} {a : Addr} {y : DataW H × List MemPlace}
    (h : (W.cells? 0 a 4).bind (DataW.trod enc Try.prog W 0 (fun _ => true) true n 29) = some y) :
    W.cell? (a.add 0) = some (.int .i64 (putOf y.1).on) ∧ W.cell? (a.add 1) = some (.int .i64 (putOf y.1).kind) ∧ W.cell? (a.add 2) = some (.int .u64 ((putOf y.1).x : Int)) ∧ W.cell? (a.add 3) = some (.string (putOf y.1).s) ∧
      (putOf y.1).x < 2 ^ 64 ∧ Rows.uptoBulk y.1 = 5 + (putOf y.1).s.size := by
  rw [Option.bind_eq_some_iff] at h
  obtain ⟨cs, hcs, hy⟩ := h
  obtain ⟨_, hlen, hcell⟩ := World.cells?_some hcs
  obtain ⟨y0, y1, y2, y3, m, rfl, _, g0, g1, g2, g3⟩ := trod_struct4 Try.underlying29 hy
  match cs, hlen with
  | [c0, c1, c2, c3], _ =>
    simp [cells3, cells22, cells9] at g0 g1 g2 g3
    obtain ⟨on, e0, rfl, wa⟩ := DataW.trod_int Try.underlying3 g0
    obtain ⟨kind, e1, rfl, wb⟩ := DataW.trod_int Try.underlying3 g1
    obtain ⟨x, e2, rfl, wc⟩ := DataW.trod_int Try.underlying22 g2
    obtain ⟨s, e3, rfl, wd⟩ := DataW.trod_string Try.underlying9 g3
    simp at e0 e1 e2 e3
    subst e0 e1 e2 e3
    obtain ⟨hx0, hx1⟩ := bounds_u64 wc
    have f0 := hcell 0 (by omega)
    have f1 := hcell 1 (by omega)
    have f2 := hcell 2 (by omega)
    have f3 := hcell 3 (by omega)
    simp at f0 f1 f2 f3
    have ex : ((x.toNat : Nat) : Int) = x := Int.toNat_of_nonneg hx0
    have es : (⟨s.data.toList.toArray⟩ : ByteArray) = s := by simp
    simp only [putOf, ex, es]
    refine ⟨f0, f1, f2, f3, by omega, ?_⟩
    have e : s.data.toList.length = s.size := by rw [Array.length_toList]; rfl
    simp only [Rows.uptoBulk, Rows.uptoBulkAll]
    omega

theorem bulk_elems {H : Type} (l : List (DataW H × List MemPlace)) (h : ∀ y ∈ l, Rows.uptoBulk y.1 = 5 + (putOf y.1).s.size) :
    bulk (l.map fun y => putOf y.1) ≤ 2 * Rows.uptoBulkAll (l.map (·.1)) ∧ l.length ≤ Rows.uptoBulkAll (l.map (·.1)) ∧ ∀ y ∈ l, (putOf y.1).s.size ≤ Rows.uptoBulkAll (l.map (·.1)) := by
  induction l with
  | nil => exact ⟨Nat.zero_le _, Nat.zero_le _, fun y hy => by simp at hy⟩
  | cons y r ih =>
    obtain ⟨i1, i2, i3⟩ := ih fun z hz => h z (by simp [hz])
    have hy := h y (by simp)
    have e1 : bulk ((y :: r).map fun y => putOf y.1) = (10 + (putOf y.1).s.size) + bulk (r.map fun y => putOf y.1) := by simp [bulk]
    have e2 : Rows.uptoBulkAll ((y :: r).map (·.1)) = Rows.uptoBulk y.1 + Rows.uptoBulkAll (r.map (·.1)) := by rw [List.map_cons, Rows.uptoBulkAll]
    rw [e1, e2]
    refine ⟨by omega, by simp only [List.length_cons]; omega, fun z hz => ?_⟩
    rcases List.mem_cons.1 hz with rfl | hz
    · omega
    · have := i3 z hz; omega

/-- What the walk is told of the row that came in. -/
theorem inP {H : Type} {enc : TypeId × Value → H} {W : World} {base : Nat} {a : Option Addr} {len cap : Nat} {d : DataW H} {p : List MemPlace}
    (hv : Value.okWide Try.prog W .any base 32 (.slice a len cap)) (h : ∃ f, DataW.trod enc Try.prog W 0 (fun _ => true) true f 32 (Value.slice a len cap).cells.toList = some (d, p)) (hbu : Rows.uptoBulk d ≤ 1048576) :
    ∃ ps, RdP W (.slice a len cap) ps ∧ (∀ q ∈ ps, q.x < 2 ^ 64) ∧ ps.length ≤ 1048576 ∧ bulk ps ≤ 16777216 := by
  obtain ⟨fuel, hf⟩ := h
  rcases DataW.trod_slice Try.underlying32 hf with ⟨hcs, _⟩ | ⟨x, l, c, elems, rest, n, _, hcs, hd, _, hl, hm, hlen, hel, _, _⟩
  · simp [Value.cells] at hcs
    obtain ⟨rfl, rfl, rfl⟩ := hcs
    exact ⟨[], ⟨none, 0, rfl, fun i hi => by simp at hi⟩, fun q hq => by simp at hq, by simp, by simp [bulk]⟩
  · simp [Value.cells] at hcs
    obtain ⟨rfl, rfl, rfl⟩ := hcs
    obtain ⟨hs, hb⟩ := slice_at Try.underlying32 hv
    obtain ⟨b, off, spot⟩ := x
    simp at hs hb
    subst hs
    have hd1 := ((Prod.mk.injEq _ _ _ _).mp hd).1
    rw [cells29] at hel
    have each : ∀ i y, elems[i]? = some y → _ := fun i y hy => put_cells ((hel i (by have := (List.getElem?_eq_some_iff.1 hy).1; omega)).trans hy)
    have hall : ∀ y ∈ elems, Rows.uptoBulk y.1 = 5 + (putOf y.1).s.size ∧ (putOf y.1).x < 2 ^ 64 := fun y hy => by
      obtain ⟨i, hi⟩ := List.getElem?_of_mem hy
      have := each i y hi
      exact ⟨this.2.2.2.2.2, this.2.2.2.2.1⟩
    obtain ⟨b1, b2, b3⟩ := bulk_elems elems fun y hy => (hall y hy).1
    have hbb : Rows.uptoBulkAll (elems.map (·.1)) ≤ 1048576 := by
      rw [hd1, Rows.uptoBulk] at hbu
      omega
    refine ⟨elems.map fun y => putOf y.1, ⟨some ⟨b, off, none⟩, cap, by rw [List.length_map, hlen], fun i hi => ⟨b, off, rfl, hb, ?_⟩⟩, fun q hq => ?_, by rw [List.length_map]; omega, by omega⟩
    · rw [List.length_map] at hi
      have hy : elems[i]? = some (elems[i]'hi) := List.getElem?_eq_getElem hi
      obtain ⟨g0, g1, g2, g3, _, _⟩ := each i _ hy
      have eg : (elems.map fun y => putOf y.1).getD i PutD.zero = putOf (elems[i]'hi).1 := by rw [List.getD, List.getElem?_map, hy]; rfl
      rw [eg]
      rw [addr_add] at g0 g1 g2 g3
      rw [addr_add] at g0 g1 g2 g3
      exact ⟨g0, g1, g2, g3⟩
    · obtain ⟨y, hy, rfl⟩ := List.mem_map.1 hq
      exact (hall y hy).2

set_option maxRecDepth 100000 in
theorem lifted (os : Os) (started : os.Started) (H : Type) (enc : TypeId × Value → H) (F : Stop.Interp) :
    ReturnsInHanded {} Try.checked os 6 .any ((Rows.OpenSpec.upto Rows.wireWritesSpec).pre6 enc Try.prog Try.f6 Rows.wireWritesUptoRow.domain false) (((Rows.OpenSpec.upto Rows.wireWritesSpec).at F).post enc Try.prog Try.f6 false true false false) := by
  refine returnsInHanded_of_cond (C := Try.checked) (s := Rows.OpenSpec.upto Rows.wireWritesSpec) (k := Rows.uptoSmall) rfl own started (by kernel_rfl) Try.func6
    (OpenSpec.witness (enc := enc) (C := Try.checked) (s := Rows.OpenSpec.upto Rows.wireWritesSpec) (k := Rows.uptoSmall) rfl false ⟨#[], #[.slice none 0 0], []⟩ 8 (by kernel_rfl) (by kernel_rfl) (by kernel_rfl)
      (x := ([.nil], [], [])) (by kernel_rfl) rfl (by kernel_rfl)) ?_
  intro W base args ds gs before hval0 hW _ hk _
  have hval : ∀ (j : Nat) t v, Try.f6.params[j]? = some t → args[j]? = some v → Value.okWide Try.prog W .any base t v := hval0
  have hW' := hW
  obtain ⟨p, q, hA0, hV, rfl, hfz, hnd⟩ := hW
  have hA : DataW.TrodAll enc Try.prog W 0 (fun _ => true) true Try.f6.params.toList args.toList ds p := hA0
  rw [Try.params6] at hA hval
  obtain ⟨v0, vs0, d0, ds0, p0, q0, hargs, rfl, rfl, h0, r0⟩ := trodAll_cons hA
  obtain ⟨rfl, rfl, rfl⟩ := trodAll_nil r0
  obtain rfl : args = #[v0] := by cases args; simp_all
  obtain ⟨rfl, rfl⟩ := trodVars_none hV
  have hok0 := hval 0 32 v0 rfl rfl
  obtain ⟨a0, len0, cap0, rfl⟩ := okWide_slice Try.underlying32 hok0
  have k0 := h0
  have lt0 : ∀ x ∈ p0, x.block < W.heap.size := by obtain ⟨m, hm⟩ := k0; exact DataW.trod_lt m _ _ _ hm
  have hbulk : Rows.uptoBulk d0 ≤ 1048576 := by
    have h : Rows.uptoBulkAll ([d0] ++ []) ≤ 1048576 := of_decide_eq_true hk
    simpa [Rows.uptoBulkAll] using h
  obtain ⟨ps, hP, hok, hM, hB⟩ := inP hok0 h0 hbulk
  clear hA0 hval0
  refine (writesLaw _ ps W hP hok hM hB).mono fun e W' ⟨he, bel⟩ => ?_
  subst he
  exact ⟨_, rfl, _, _, _, [], _, [], hW', trodAll_mk1 (shut_bool Try.underlying4 _), (trodAll_cons_mk (Below.trod laidOut (by kernel_rfl) (of_decide_eq_true (by kernel_rfl)) k0 bel lt0) trodAll_mk0), rfl, bel.frame _, fun h => by cases h⟩

theorem over : Rows.wireWritesUptoRow.holds Try.pinned (Rows.OpenSpec.upto Rows.wireWritesSpec) :=
  OpenClaim.holds_of_cond 6 Try.f6 rfl rfl rfl rfl rfl rfl rfl ⟨rfl, rfl, rfl, rfl, rfl⟩ rfl rfl rfl rfl rfl (by kernel_rfl) Try.func6 (by kernel_rfl)
    (of_decide_eq_true (by kernel_rfl)) (by unfold Func.isWrapper; first | (rw [if_pos (by decide +kernel)]; kernel_rfl) | (rw [if_neg (by decide +kernel)]; exact ⟨rfl, rfl⟩))
    (fun os started H enc _ F => lifted os started H enc F)

theorem proved : Rows.WireWritesUptoSaid := over
#print axioms proved
end Go.Proofs.Ytpenhefhedmhiaa.wireWrites
