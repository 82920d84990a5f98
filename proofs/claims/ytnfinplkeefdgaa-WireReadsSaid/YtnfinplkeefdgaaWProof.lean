/-
  WireReads.
-/
import Derived.Test.YtnfinplkeefdgaaRows
import Derived.Test.YtnfinplkeefdgaaWLaw
import Derived.WalkKit
import Derived.ProofKit
import Derived.OpenShut
import Derived.ShutString
import Derived.ChangeOld
import Derived.Below
import Derived.SizedLaws
import Derived.Lib.SmallJoins
namespace Go.Proofs.Ytnfinplkeefdgaa.wireReads
open Go.ChangeShapes Go.WideShapes Go.ChangeAt Go.RowKit Go.Joins
open Go.ChangeMaps (open_string shut_string)
set_option linter.unusedVariables false

theorem own : ownKnob Try.prog.godebug = none := by kernel_rfl
theorem laidOut : laidOutB Try.prog = true := by kernel_rfl
theorem cells57 : Try.prog.cellsOf 57 = 3 := by kernel_rfl
theorem cells3 : Try.prog.cellsOf 3 = 1 := by kernel_rfl
theorem bytes5 : Try.prog.bytesOf 5 = 1 := by kernel_rfl
theorem bytes57 : Try.prog.bytesOf 57 = 24 := by kernel_rfl

theorem slice_at {P : Program} {w : World} {r : Reach} {base : Nat} {t e : TypeId} {a : Addr} {len cap : Nat} (ht : P.underlying t = some (.slice e)) (h : Value.okWide P w r base t (.slice (some a) len cap)) :
    a.spot = none ∧ a.block < w.heap.size := by
  simp only [Value.okWide, ht, Cell.okWide, Cell.ok] at h
  obtain ⟨_, _, _, hs, row, cells, hsh, _⟩ := h
  refine ⟨hs, ?_⟩
  by_cases hlt : a.block < w.heap.size
  · exact hlt
  · simp [World.shape?, Array.getElem?_eq_none (Nat.le_of_not_lt hlt)] at hsh

theorem getD_take {zs : List Int} {n i : Nat} (h : i < n) : (zs.take n).getD i 0 = zs.getD i 0 := by
  simp [List.getD, h]

/-- What the walk is told of the bytes that came in. -/
theorem inB {H : Type} {enc : TypeId × Value → H} {W : World} {base : Nat} {a : Option Addr} {len cap : Nat} {d : DataW H} {p : List MemPlace}
    (hv : Value.okWide Try.prog W .any base 22 (.slice a len cap)) (h : ∃ f, DataW.trod enc Try.prog W 0 (fun _ => true) true f 22 (Value.slice a len cap).cells.toList = some (d, p))
    (hsz : ∀ el sp, d = .slice el sp → (el.length + sp.length) * Try.prog.bytesOf 5 ≤ reachBytes) :
    ∃ bs, Rd W (.slice a len cap) bs ∧ BOk bs ∧ bs.length + 4096 ≤ 140737488355328 := by
  obtain ⟨fuel, hf⟩ := h
  rcases open_ints Try.underlying22 Try.underlying5 (by kernel_rfl) hf with ⟨hcs, _⟩ | ⟨x, l, c, zs, hcs, _, hl, hm, hz, hd, hcell, hwz⟩
  · simp [Value.cells] at hcs
    obtain ⟨rfl, rfl, rfl⟩ := hcs
    exact ⟨[], .inl ⟨rfl, rfl⟩, fun b hb => by simp at hb, by simp⟩
  · simp [Value.cells] at hcs
    obtain ⟨rfl, rfl, rfl⟩ := hcs
    obtain ⟨hs, hb⟩ := slice_at Try.underlying22 hv
    obtain ⟨b, off, spot⟩ := x
    simp at hs hb
    subst hs
    have hzl : zs.length = cap := by simpa using hz
    have htl : (zs.take len).length = len := by simp; omega
    have hd1 := ((Prod.mk.injEq _ _ _ _).mp hd).1
    refine ⟨zs.take len, .inr ⟨b, off, cap, by rw [htl], by omega, hm, hb, fun i hi => ?_⟩, fun n hn => ?_, ?_⟩
    · have hi' : i < len := by omega
      rw [getD_take hi', ← Go.WideShapes.add_plain]
      exact hcell i (by omega)
    · have := bounds_u8 (hwz n (List.mem_of_mem_take hn)); omega
    · have := hsz _ _ hd1
      rw [bytes5] at this
      simp only [lits, List.length_map] at this
      unfold reachBytes at this
      omega

def getOf {H : Type} (d : DataW H) : GetD :=
  match d with
  | .agg [.lit (.int _ on), .lit (.int _ kind), .lit (.int _ n)] => ⟨on, kind, n⟩
  | _ => GetD.zero

/-- One call, out of three cells. -/
theorem get_cells {H : Type} {enc : TypeId × Value → H} {W : World} {n : Nat} {a : Addr} {y : DataW H × List MemPlace}
    (h : (W.cells? 0 a 3).bind (DataW.trod enc Try.prog W 0 (fun _ => true) true n 57) = some y) :
    W.cell? (a.add 0) = some (.int .i64 (getOf y.1).on) ∧ W.cell? (a.add 1) = some (.int .i64 (getOf y.1).kind) ∧ W.cell? (a.add 2) = some (.int .i64 (getOf y.1).n) ∧ (getOf y.1).n ≤ 9223372036854775807 := by
  rw [Option.bind_eq_some_iff] at h
  obtain ⟨cs, hcs, hy⟩ := h
  obtain ⟨_, hlen, hcell⟩ := World.cells?_some hcs
  obtain ⟨xs, m, _, rfl, _, hxl, hfs⟩ := DataW.trod_struct Try.underlying57 hy
  match xs, hxl, cs, hlen with
  | [y0, y1, y2], _, [c0, c1, c2], _ =>
    have g0 := hfs 0 _ rfl
    have g1 := hfs 1 _ rfl
    have g2 := hfs 2 _ rfl
    simp [cells3] at g0 g1 g2
    obtain ⟨on, e0, rfl, wa⟩ := DataW.trod_int Try.underlying3 g0
    obtain ⟨kind, e1, rfl, wb⟩ := DataW.trod_int Try.underlying3 g1
    obtain ⟨x, e2, rfl, wc⟩ := DataW.trod_int Try.underlying3 g2
    simp at e0 e1 e2
    subst e0 e1 e2
    have f0 := hcell 0 (by omega)
    have f1 := hcell 1 (by omega)
    have f2 := hcell 2 (by omega)
    simp at f0 f1 f2
    exact ⟨f0, f1, f2, (bounds_i64 wc).2⟩

/-- What the walk is told of the row that came in. -/
theorem inG {H : Type} {enc : TypeId × Value → H} {W : World} {base : Nat} {a : Option Addr} {len cap : Nat} {d : DataW H} {p : List MemPlace}
    (hv : Value.okWide Try.prog W .any base 54 (.slice a len cap)) (h : ∃ f, DataW.trod enc Try.prog W 0 (fun _ => true) true f 54 (Value.slice a len cap).cells.toList = some (d, p))
    (hsz : ∀ el sp, d = .slice el sp → (el.length + sp.length) * Try.prog.bytesOf 57 ≤ reachBytes) :
    ∃ gs, RdG W (.slice a len cap) gs ∧ gs.length ≤ 5864062014690 := by
  obtain ⟨fuel, hf⟩ := h
  rcases DataW.trod_slice Try.underlying54 hf with ⟨hcs, _⟩ | ⟨x, l, c, elems, rest, n, _, hcs, hd, _, hl, hm, hlen, hel, _, _⟩
  · simp [Value.cells] at hcs
    obtain ⟨rfl, rfl, rfl⟩ := hcs
    exact ⟨[], ⟨none, 0, rfl, fun i hi => by simp at hi⟩, by simp⟩
  · simp [Value.cells] at hcs
    obtain ⟨rfl, rfl, rfl⟩ := hcs
    obtain ⟨hs, hb⟩ := slice_at Try.underlying54 hv
    obtain ⟨b, off, spot⟩ := x
    simp at hs hb
    subst hs
    have hd1 := ((Prod.mk.injEq _ _ _ _).mp hd).1
    have hw := hsz _ _ hd1
    rw [bytes57] at hw
    simp only [List.length_map] at hw
    unfold reachBytes at hw
    rw [cells57] at hel
    refine ⟨elems.map fun y => getOf y.1, ⟨some ⟨b, off, none⟩, cap, by rw [List.length_map, hlen], fun i hi => ?_⟩, by rw [List.length_map]; omega⟩
    rw [List.length_map] at hi
    have hy : elems[i]? = some (elems[i]'hi) := List.getElem?_eq_getElem hi
    obtain ⟨g0, g1, g2, g3⟩ := get_cells ((hel i (by omega)).trans hy)
    have eg : (elems.map fun y => getOf y.1).getD i GetD.zero = getOf (elems[i]'hi).1 := by rw [List.getD, List.getElem?_map, hy]; rfl
    rw [eg]
    rw [addr_add] at g0 g1 g2
    rw [addr_add] at g0 g1 g2
    exact ⟨g3, b, off, rfl, hb, g0, g1, g2⟩

set_option maxRecDepth 100000 in
theorem lifted (os : Os) (started : os.Started) (H : Type) (enc : TypeId × Value → H) :
    ReturnsInHanded {} Try.checked os 8 .any (Rows.wireReadsSpec.pre6 enc Try.prog Try.f8 Rows.wireReadsRow.domain false) (Rows.wireReadsSpec.post enc Try.prog Try.f8 false true false false) := by
  refine returnsInHanded_of_change_sized (C := Try.checked) own started (by kernel_rfl) Try.func8
    (ChangeSpec.witness6 (enc := enc) (C := Try.checked) false ⟨#[], #[.slice none 0 0, .slice none 0 0, .slice none 0 0], []⟩ 8 (by kernel_rfl) (by kernel_rfl) (by kernel_rfl) (by kernel_rfl)) ?_
  intro W base args ds gs before hval0 hW hcnd hsz0 _
  have hsz : (DataW.weightsEach Try.prog (Try.f8.params.toList ++ Rows.wireReadsSpec.plain.varTypes Try.prog) (ds ++ gs)).all (· ≤ reachBytes) = true := hsz0
  have hval : ∀ (j : Nat) t v, Try.f8.params[j]? = some t → args[j]? = some v → Value.okWide Try.prog W .any base t v := hval0
  have hW' := hW
  obtain ⟨p, q, hA0, hV, rfl, hfz, hnd⟩ := hW
  have hA : DataW.TrodAll enc Try.prog W 0 (fun _ => true) true Try.f8.params.toList args.toList ds p := hA0
  rw [Try.params8] at hA hval hsz
  obtain ⟨v0, vs0, d0, ds0, p0, q0, hargs, rfl, rfl, h0, r0⟩ := trodAll_cons hA
  obtain ⟨v1, vs1, d1, ds1, p1, q1, rfl, rfl, rfl, h1, r1⟩ := trodAll_cons r0
  obtain ⟨v2, vs2, d2, ds2, p2, q2, rfl, rfl, rfl, h2, r2⟩ := trodAll_cons r1
  obtain ⟨rfl, rfl, rfl⟩ := trodAll_nil r2
  obtain rfl : args = #[v0, v1, v2] := by cases args; simp_all
  obtain ⟨rfl, rfl⟩ := trodVars_none hV
  have hok0 := hval 0 22 v0 rfl rfl
  have hok1 := hval 1 22 v1 rfl rfl
  have hok2 := hval 2 54 v2 rfl rfl
  obtain ⟨a0, len0, cap0, rfl⟩ := okWide_slice Try.underlying22 hok0
  have k0 := h0
  have lt0 : ∀ x ∈ p0, x.block < W.heap.size := by obtain ⟨m, hm⟩ := k0; exact DataW.trod_lt m _ _ _ hm
  obtain ⟨a1, len1, cap1, rfl⟩ := okWide_slice Try.underlying22 hok1
  have k1 := h1
  have lt1 : ∀ x ∈ p1, x.block < W.heap.size := by obtain ⟨m, hm⟩ := k1; exact DataW.trod_lt m _ _ _ hm
  obtain ⟨a2, len2, cap2, rfl⟩ := okWide_slice Try.underlying54 hok2
  have k2 := h2
  have lt2 : ∀ x ∈ p2, x.block < W.heap.size := by obtain ⟨m, hm⟩ := k2; exact DataW.trod_lt m _ _ _ hm
  obtain ⟨cs, hR1, hB1, hN1⟩ := inB hok1 h1 (fun el sp e => sized_slice hsz (j := 1) rfl (by rw [← e]; rfl) Try.underlying22)
  obtain ⟨bs, hR, hB, hN⟩ := inB hok0 h0 (fun el sp e => sized_slice hsz (j := 0) rfl (by rw [← e]; rfl) Try.underlying22)
  obtain ⟨gets, hI, hM⟩ := inG hok2 h2 (fun el sp e => sized_slice hsz (j := 2) rfl (by rw [← e]; rfl) Try.underlying54)
  clear hA0 hval0
  refine (readsLaw _ _ _ bs cs gets W hR hB hN hR1 hB1 hN1 hI hM).mono fun e W' ⟨he, bel⟩ => ?_
  subst he
  exact ⟨_, rfl, _, _, _, [], _, [], hW', trodAll_mk1 (shut_bool Try.underlying4 _), (trodAll_cons_mk (Below.trod laidOut (by kernel_rfl) (of_decide_eq_true (by kernel_rfl)) k0 bel lt0) (trodAll_cons_mk (Below.trod laidOut (by kernel_rfl) (of_decide_eq_true (by kernel_rfl)) k1 bel lt1) (trodAll_cons_mk (Below.trod laidOut (by kernel_rfl) (of_decide_eq_true (by kernel_rfl)) k2 bel lt2) trodAll_mk0))), rfl, bel.frame _, fun h => by cases h⟩

theorem over : Rows.wireReadsRow.holds Try.pinned (OpenSpec.ofChange Rows.wireReadsSpec) :=
  OpenClaim.holds_of_wide 8 Try.f8 rfl rfl rfl rfl rfl rfl rfl ⟨rfl, rfl, rfl, rfl, rfl⟩ rfl rfl rfl rfl rfl (by kernel_rfl) Try.func8 (by kernel_rfl)
    (of_decide_eq_true (by kernel_rfl)) (by unfold Func.isWrapper; first | (rw [if_pos (by decide +kernel)]; kernel_rfl) | (rw [if_neg (by decide +kernel)]; exact ⟨rfl, rfl⟩))
    (fun os started H enc _ => lifted os started H enc)

theorem proved : Rows.WireReadsSaid := over
#print axioms proved
end Go.Proofs.Ytnfinplkeefdgaa.wireReads
