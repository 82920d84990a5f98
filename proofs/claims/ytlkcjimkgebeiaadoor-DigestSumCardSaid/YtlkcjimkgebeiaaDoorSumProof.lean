/-
  DigestSum.
-/
import Derived.Test.YtlkcjimkgebeiaaDoorRows
import Derived.Test.YtlkcjimkgebeiaaDoorSumLaw
import Derived.WalkKit
import Derived.ProofKit
import Derived.OpenShut
import Derived.ShutString
import Derived.ChangeOld
import Derived.Below
import Derived.SizedLaws
import Derived.Lib.SmallJoins
import Derived.Lib.LaidTab
import Derived.Test.YtlkcjimkgebeiaaDoorCards
import Derived.Test.YtlkcjimkgebeiaaDoorTie
import Derived.LaidOnce
import Derived.SevenTiedAt
namespace Go.Proofs.YtlkcjimkgebeiaaDoor.digestSum
open Go.ChangeShapes Go.WideShapes Go.ChangeAt Go.RowKit Go.Joins
open Go.ChangeMaps (open_string shut_string)
set_option linter.unusedVariables false

theorem own : ownKnob Tryd.prog.godebug = none := by kernel_rfl
theorem laidOut : laidOutB Tryd.prog = true := by kernel_rfl
theorem bytes5 : Tryd.prog.bytesOf 5 = 1 := by kernel_rfl

theorem slice_at {P : Program} {w : World} {r : Reach} {base : Nat} {t e : TypeId} {a : Addr} {len cap : Nat} (ht : P.underlying t = some (.slice e)) (h : Value.okWide P w r base t (.slice (some a) len cap)) :
    a.spot = none ∧ a.block < w.heap.size := by
  simp only [Value.okWide, ht, Cell.okWide, Cell.ok] at h
  obtain ⟨_, _, _, hs, row, cells, hsh, _⟩ := h
  refine ⟨hs, ?_⟩
  by_cases hlt : a.block < w.heap.size
  · exact hlt
  · simp [World.shape?, Array.getElem?_eq_none (Nat.le_of_not_lt hlt)] at hsh

theorem getD_take {zs : List Int} {n i : Nat} (h : i < n) : (zs.take n).getD i 0 = zs.getD i 0 := by
  simp [List.getD, h]

/-- What the walk is told of the bytes that came in. -/
theorem inB {H : Type} {enc : TypeId × Value → H} {W : World} {base : Nat} {a : Option Addr} {len cap : Nat} {d : DataW H} {p : List MemPlace}
    (hv : Value.okWide Tryd.prog W .any base 22 (.slice a len cap)) (h : ∃ f, DataW.trod enc Tryd.prog W 0 (fun _ => true) true f 22 (Value.slice a len cap).cells.toList = some (d, p))
    (hsz : ∀ el sp, d = .slice el sp → (el.length + sp.length) * Tryd.prog.bytesOf 5 ≤ reachBytes) :
    ∃ bs, Rd W (.slice a len cap) bs ∧ BOk bs ∧ bs.length + 4096 ≤ 140737488355328 := by
  obtain ⟨fuel, hf⟩ := h
  rcases open_ints Tryd.underlying22 Tryd.underlying5 (by kernel_rfl) hf with ⟨hcs, _⟩ | ⟨x, l, c, zs, hcs, _, hl, hm, hz, hd, hcell, hwz⟩
  · simp [Value.cells] at hcs
    obtain ⟨rfl, rfl, rfl⟩ := hcs
    exact ⟨[], .inl ⟨rfl, rfl⟩, fun b hb => by simp at hb, by simp⟩
  · simp [Value.cells] at hcs
    obtain ⟨rfl, rfl, rfl⟩ := hcs
    obtain ⟨hs, hb⟩ := slice_at Tryd.underlying22 hv
    obtain ⟨b, off, spot⟩ := x
    simp at hs hb
    subst hs
    have hzl : zs.length = cap := by simpa using hz
    have htl : (zs.take len).length = len := by simp; omega
    have hd1 := ((Prod.mk.injEq _ _ _ _).mp hd).1
    refine ⟨zs.take len, .inr ⟨b, off, cap, by rw [htl], by omega, hm, hb, fun i hi => ?_⟩, fun n hn => ?_, ?_⟩
    · have hi' : i < len := by omega
      rw [getD_take hi', ← Go.WideShapes.add_plain]
      exact hcell i (by omega)
    · have := bounds_u8 (hwz n (List.mem_of_mem_take hn)); omega
    · have := hsz _ _ hd1
      rw [bytes5] at this
      simp only [lits, List.length_map] at this
      unfold reachBytes at this
      omega


theorem kt_of_laid {W : World} (h : laidMetH Tryd.prog Rows.digestSumRow.laid W) : KT W := by
  have h1 : laidMet Tryd.prog Rows.digestSumRow.laid W := h
  have h2 := Lib.tabIs_of_head (P := Tryd.prog) (W := W) (k := .u32) (zs := ktab) (rest := []) (g := 0) (t := 63) (e := 41) (n := 64) (by kernel_rfl) (by kernel_rfl) Tryd.underlying63 Tryd.underlying41 (by kernel_rfl) (by kernel_rfl) (show laidMet Tryd.prog ((_, Lib.tabData .u32 ktab) :: []) W from h1)
  have h3 := fun i hi => h2.cell (g := 0) (by kernel_rfl) i hi
  refine ⟨fun j v hv => ?_, World.block_lt_of_cell? W _ (h3 0 (by rw [ktab_len]; omega))⟩
  have hj : j < ktab.length := by have := (List.getElem?_eq_some_iff.1 hv).1; simpa using this
  have e := h3 j hj
  rw [Nat.zero_add, e]
  rw [List.getElem?_map, List.getElem?_eq_getElem hj] at hv
  rw [List.getD, List.getElem?_eq_getElem hj]
  exact hv
noncomputable def laidWorld (os : Os) : World :=
  let w0 := World.holding Tryd.prog os ⟨#[], #[], []⟩
  { w0 with heap := w0.heap.modify 0 fun
      | .cells _ t frozen => .cells (ktab.map (Value.int .u32)).toArray t frozen
      | o => o }
theorem laidWorld_met (os : Os) (args : Array Value) : laidMetH Tryd.prog Rows.digestSumRow.laid ((laidWorld os).forCall (fun _ _ => 0) ⟨#[], args, []⟩).memory :=
  laidMet_of_run' 8 (by kernel_rfl) (by kernel_rfl)

set_option maxRecDepth 100000 in
theorem lifted (os : Os) (started : os.Started) (H : Type) (enc : TypeId × Value → H) :
    ReturnsInHanded {} Tryd.checked os 3 .any (fun w args => (Rows.digestSumSpec.pre enc Tryd.prog Tryd.f3 [] false w args ∧ laidMetH Tryd.prog Rows.digestSumRow.laid w) ∧ sizedMet enc Tryd.prog Tryd.f3 (OpenSpec.ofChange Rows.digestSumSpec) false w args)
      (Rows.digestSumSpec.post enc Tryd.prog Tryd.f3 false true false false) := by
  refine returnsInHanded_of_change_and (C := Tryd.checked) (X := fun w _ => laidMetH Tryd.prog Rows.digestSumRow.laid w) (fun _ _ _ hh h => h.of_heap hh) own started (by kernel_rfl) Tryd.func3
    (ChangeSpec.witness_at (enc := enc) (C := Tryd.checked) (os := os) (X := fun w _ => laidMetH Tryd.prog Rows.digestSumRow.laid w) false (laidWorld os) #[.slice none 0 0] 8 rfl (by kernel_rfl) (by kernel_rfl) (by kernel_rfl) (by kernel_rfl) (by kernel_rfl) (laidWorld_met os _)) ?_
  intro W base args ds gs before hval0 hW hcnd hsz0 hL _
  have hsz : (DataW.weightsEach Tryd.prog (Tryd.f3.params.toList ++ Rows.digestSumSpec.plain.varTypes Tryd.prog) (ds ++ gs)).all (· ≤ reachBytes) = true := hsz0
  have hval : ∀ (j : Nat) t v, Tryd.f3.params[j]? = some t → args[j]? = some v → Value.okWide Tryd.prog W .any base t v := hval0
  have hW' := hW
  obtain ⟨p, q, hA0, hV, rfl, hfz, hnd⟩ := hW
  have hA : DataW.TrodAll enc Tryd.prog W 0 (fun _ => true) true Tryd.f3.params.toList args.toList ds p := hA0
  rw [Tryd.params3] at hA hval hsz
  obtain ⟨v0, vs0, d0, ds0, p0, q0, hargs, rfl, rfl, h0, r0⟩ := trodAll_cons hA
  obtain ⟨rfl, rfl, rfl⟩ := trodAll_nil r0
  obtain rfl : args = #[v0] := by cases args; simp_all
  obtain ⟨rfl, rfl⟩ := trodVars_none hV
  have hok0 := hval 0 22 v0 rfl rfl
  obtain ⟨a0, len0, cap0, rfl⟩ := okWide_slice Tryd.underlying22 hok0
  have k0 := h0
  have lt0 : ∀ x ∈ p0, x.block < W.heap.size := by obtain ⟨m, hm⟩ := k0; exact DataW.trod_lt m _ _ _ hm
  obtain ⟨bs, hR, hB, hN⟩ := inB hok0 h0 (fun el sp e => sized_slice hsz (j := 0) rfl (by rw [← e]; rfl) Tryd.underlying22)
  clear hA0 hval0
  refine (sumLaw _ bs W hR hB (by omega) (kt_of_laid hL)).mono fun e W' ⟨he, bel⟩ => ?_
  subst he
  exact ⟨_, rfl, _, _, _, [], _, [], hW', trodAll_mk1 (shut_bool Tryd.underlying4 _), (trodAll_cons_mk (Below.trod laidOut (by kernel_rfl) (of_decide_eq_true (by kernel_rfl)) k0 bel lt0) trodAll_mk0), rfl, bel.frame _, fun h => by cases h⟩

theorem over : Rows.digestSumRow.holds Tryd.pinned (OpenSpec.ofChange Rows.digestSumSpec) :=
  OpenClaim.holds_of_wide 3 Tryd.f3 rfl rfl rfl rfl rfl rfl rfl ⟨rfl, rfl, rfl, rfl, rfl⟩ rfl rfl rfl rfl rfl (by kernel_rfl) Tryd.func3 (by kernel_rfl)
    (of_decide_eq_true (by kernel_rfl)) (by unfold Func.isWrapper; first | (rw [if_pos (by decide +kernel)]; kernel_rfl) | (rw [if_neg (by decide +kernel)]; exact ⟨rfl, rfl⟩))
    (fun os started H enc _ => lifted os started H enc)

theorem proved : Rows.DigestSumSaid := over
#print axioms proved
end Go.Proofs.YtlkcjimkgebeiaaDoor.digestSum
