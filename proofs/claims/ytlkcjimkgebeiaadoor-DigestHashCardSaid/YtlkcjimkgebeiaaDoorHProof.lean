/-
  DigestHash.
-/
import Derived.Test.YtlkcjimkgebeiaaDoorRows
import Derived.Test.YtlkcjimkgebeiaaDoorHLaw
import Derived.WalkKit
import Derived.ProofKit
import Derived.OpenShut
import Derived.ShutString
import Derived.ChangeOld
import Derived.Below
import Derived.SizedLaws
import Derived.Lib.SmallJoins
import Derived.Lib.LaidTab
import Derived.Test.YtlkcjimkgebeiaaDoorCards
import Derived.Test.YtlkcjimkgebeiaaDoorTie
import Derived.LaidOnce
import Derived.SevenTiedAt
namespace Go.Proofs.YtlkcjimkgebeiaaDoor.digestHash
open Go.ChangeShapes Go.WideShapes Go.ChangeAt Go.RowKit Go.Joins
open Go.ChangeMaps (open_string shut_string)
set_option linter.unusedVariables false

theorem own : ownKnob Tryd.prog.godebug = none := by kernel_rfl
theorem laidOut : laidOutB Tryd.prog = true := by kernel_rfl
theorem bytes5 : Tryd.prog.bytesOf 5 = 1 := by kernel_rfl

theorem slice_at {P : Program} {w : World} {r : Reach} {base : Nat} {t e : TypeId} {a : Addr} {len cap : Nat} (ht : P.underlying t = some (.slice e)) (h : Value.okWide P w r base t (.slice (some a) len cap)) :
    a.spot = none ∧ a.block < w.heap.size := by
  simp only [Value.okWide, ht, Cell.okWide, Cell.ok] at h
  obtain ⟨_, _, _, hs, row, cells, hsh, _⟩ := h
  refine ⟨hs, ?_⟩
  by_cases hlt : a.block < w.heap.size
  · exact hlt
  · simp [World.shape?, Array.getElem?_eq_none (Nat.le_of_not_lt hlt)] at hsh

theorem cells22 : Tryd.prog.cellsOf 22 = 1 := by kernel_rfl
theorem bytes22 : Tryd.prog.bytesOf 22 = 24 := by kernel_rfl
theorem getD_take {zs : List Int} {n i : Nat} (h : i < n) : (zs.take n).getD i 0 = zs.getD i 0 := by
  simp [List.getD, h]
theorem weights_mem_all {H : Type} {P : Program} {e : TypeId} : ∀ {l : List (DataW H)} {d : DataW H}, d ∈ l → ∀ n ∈ d.weights P e, n ∈ DataW.weightsAll P e l
  | d0 :: l, d, h, n, hn => by
    simp only [DataW.weightsAll, List.mem_append]
    rcases List.mem_cons.1 h with rfl | h
    · exact .inl hn
    · exact .inr (weights_mem_all h n hn)
theorem cells3 : Tryd.prog.cellsOf 3 = 1 := by kernel_rfl
theorem cells30 : Tryd.prog.cellsOf 30 = 3 := by kernel_rfl
theorem bytes30 : Tryd.prog.bytesOf 30 = 40 := by kernel_rfl
/-- A piece, out of its one cell. -/
theorem pc_trod {H : Type} {enc : TypeId × Value → H} {W : World} {n : Nat} {c2 : Value} {y : DataW H × List MemPlace}
    (hy : DataW.trod enc Tryd.prog W 0 (fun _ => true) true n 22 [c2] = some y) (hsz : ∀ m ∈ y.1.weights Tryd.prog 22, m ≤ reachBytes) :
    ∃ bs, PR W c2 bs ∧ BOk bs ∧ bs.length ≤ 140737488355328 := by
  rcases open_ints Tryd.underlying22 Tryd.underlying5 (by kernel_rfl) hy with ⟨e, _⟩ | ⟨x, l, c, zs, e, _, hl, hm, hz, hd, hcz, hwz⟩
  · simp at e
    subst e
    exact ⟨[], .inl (.inl ⟨rfl, rfl⟩), fun b hb => by simp at hb, by simp⟩
  · simp at e
    subst e
    have hzl : zs.length = c := by simpa using hz
    have hw : ((lits (H := H) .u8 (zs.take l)).length + (lits (H := H) .u8 (zs.drop l)).length) * Tryd.prog.bytesOf 5 ≤ reachBytes := by
      refine hsz _ ?_
      rw [hd]
      simp [DataW.weights, Tryd.underlying22]
    rw [bytes5] at hw
    simp only [lits, List.length_map] at hw
    unfold reachBytes at hw
    have hw2 : l ≤ 140737488355328 := by
      simp only [List.length_take, List.length_drop] at hw
      omega
    by_cases hc0 : c = 0
    · subst hc0
      obtain rfl : l = 0 := by omega
      exact ⟨[], .inr ⟨x, rfl, rfl⟩, fun b hb => by simp at hb, by simp⟩
    · obtain ⟨b, off, rfl, hcc⟩ := ints_at hcz (by omega)
      have htl : (zs.take l).length = l := by simp; omega
      refine ⟨zs.take l, .inl (.inr ⟨b, off, c, by rw [htl], by rw [htl]; exact hl, hm, World.block_lt_of_cell? W _ (hcc 0 (by omega)), fun i hi => ?_⟩), fun m hn => ?_, by rw [htl]; exact hw2⟩
      · have hi' : i < l := by omega
        rw [getD_take hi']
        exact hcc i (by omega)
      · have := bounds_u8 (hwz m (List.mem_of_mem_take hn)); omega
/-- One call, out of three cells. -/
theorem hop_cells {H : Type} {enc : TypeId × Value → H} {W : World} {n : Nat} {a : Addr} {y : DataW H × List MemPlace}
    (h : (W.cells? 0 a 3).bind (DataW.trod enc Tryd.prog W 0 (fun _ => true) true n 30) = some y) (hsz : ∀ m ∈ y.1.weights Tryd.prog 30, m ≤ reachBytes) :
    ∃ q : Hop, (W.cell? (a.add 0) = some (.int .i64 q.on) ∧ W.cell? (a.add 1) = some (.int .i64 q.kind) ∧ W.cell? (a.add 2) = some q.v) ∧ PR W q.v q.bs ∧ BOk q.bs ∧ q.bs.length ≤ 140737488355328 := by
  rw [Option.bind_eq_some_iff] at h
  obtain ⟨cs, hcs, hy⟩ := h
  obtain ⟨_, hlen, hcell⟩ := World.cells?_some hcs
  obtain ⟨xs, m, _, rfl, _, hxl, hfs⟩ := DataW.trod_struct Tryd.underlying30 hy
  match xs, hxl, cs, hlen with
  | [y0, y1, y2], _, [c0, c1, c2], _ =>
    have g0 := hfs 0 _ rfl
    have g1 := hfs 1 _ rfl
    have g2 := hfs 2 _ rfl
    simp [cells3, cells22] at g0 g1 g2
    obtain ⟨on, e0, rfl, wa⟩ := DataW.trod_int Tryd.underlying3 g0
    obtain ⟨kind, e1, rfl, wb⟩ := DataW.trod_int Tryd.underlying3 g1
    simp at e0 e1
    subst e0 e1
    obtain ⟨bs, p1, p2, p3⟩ := pc_trod g2 (fun k hk => hsz k (by
      simp only [DataW.weights, Tryd.underlying30]
      simp [DataW.weightsEach, hk]))
    have f0 := hcell 0 (by omega)
    have f1 := hcell 1 (by omega)
    have f2 := hcell 2 (by omega)
    simp at f0 f1 f2
    exact ⟨⟨on, kind, c2, bs⟩, ⟨f0, f1, f2⟩, p1, p2, p3⟩

/-- What the walk is told of the script that came in. -/
theorem inH {H : Type} {enc : TypeId × Value → H} {W : World} {base : Nat} {a : Option Addr} {len cap : Nat} {d : DataW H} {p : List MemPlace}
    (hv : Value.okWide Tryd.prog W .any base 28 (.slice a len cap)) (h : ∃ f, DataW.trod enc Tryd.prog W 0 (fun _ => true) true f 28 (Value.slice a len cap).cells.toList = some (d, p))
    (hsz : ∀ n ∈ d.weights Tryd.prog 28, n ≤ reachBytes) :
    ∃ ps, RdH W (.slice a len cap) ps ∧ ps.length ≤ 140737488355328 := by
  obtain ⟨fuel, hf⟩ := h
  rcases DataW.trod_slice Tryd.underlying28 hf with ⟨hcs, _⟩ | ⟨x, l, c, elems, rest, n, _, hcs, hd, _, hl, hm, hlen, hel, _, _⟩
  · simp [Value.cells] at hcs
    obtain ⟨rfl, rfl, rfl⟩ := hcs
    exact ⟨[], ⟨none, 0, rfl, fun i hi => by simp at hi⟩, by simp⟩
  · simp [Value.cells] at hcs
    obtain ⟨rfl, rfl, rfl⟩ := hcs
    obtain ⟨hs, hb⟩ := slice_at Tryd.underlying28 hv
    obtain ⟨b, off, spot⟩ := x
    simp at hs hb
    subst hs
    have hd1 := ((Prod.mk.injEq _ _ _ _).mp hd).1
    have hw := hsz (((elems.map (·.1)).length + (rest.map (·.1)).length) * Tryd.prog.bytesOf 30) (by rw [hd1]; simp [DataW.weights, Tryd.underlying28])
    rw [bytes30] at hw
    simp only [List.length_map] at hw
    unfold reachBytes at hw
    rw [cells30] at hel
    have hex : ∀ i, ∃ q : Hop, i < len → (W.cell? ((⟨b, off, none⟩ : Addr).add (i * 3) |>.add 0) = some (.int .i64 q.on) ∧ W.cell? ((⟨b, off, none⟩ : Addr).add (i * 3) |>.add 1) = some (.int .i64 q.kind) ∧ W.cell? ((⟨b, off, none⟩ : Addr).add (i * 3) |>.add 2) = some q.v) ∧ PR W q.v q.bs ∧ BOk q.bs ∧ q.bs.length ≤ 140737488355328 := fun i => by
      by_cases hi : i < len
      · have hi' : i < elems.length := by omega
        have hy : elems[i]? = some (elems[i]'hi') := List.getElem?_eq_getElem hi'
        obtain ⟨q, hq⟩ := hop_cells ((hel i hi).trans hy) (fun m hm => hsz m (by
          rw [hd1]
          simp only [DataW.weights, Tryd.underlying28, List.mem_cons, List.mem_append]
          exact .inr (.inl (weights_mem_all (List.mem_map.2 ⟨_, List.getElem_mem hi', rfl⟩) m hm))))
        exact ⟨q, fun _ => hq⟩
      · exact ⟨Hop.zero, fun h => absurd h hi⟩
    obtain ⟨f, hf⟩ := Classical.axiomOfChoice hex
    refine ⟨(List.range len).map f, ⟨some ⟨b, off, none⟩, cap, by simp, fun i hi => ?_⟩, by simp; omega⟩
    have hi' : i < len := by simpa using hi
    obtain ⟨⟨g0, g1, g2⟩, g3, g4, g5⟩ := hf i hi'
    have eg : ((List.range len).map f).getD i Hop.zero = f i := by simp [List.getD, hi']
    rw [eg]
    rw [addr_add, addr_add, Nat.add_zero] at g0
    rw [addr_add, addr_add] at g1 g2
    exact ⟨⟨g3, g4, g5⟩, b, off, rfl, hb, g0, g1, g2⟩

theorem kt_of_laid {W : World} (h : laidMetH Tryd.prog Rows.digestHashRow.laid W) : KT W := by
  have h1 : laidMet Tryd.prog Rows.digestHashRow.laid W := h
  have h2 := Lib.tabIs_of_head (P := Tryd.prog) (W := W) (k := .u32) (zs := ktab) (rest := []) (g := 0) (t := 63) (e := 41) (n := 64) (by kernel_rfl) (by kernel_rfl) Tryd.underlying63 Tryd.underlying41 (by kernel_rfl) (by kernel_rfl) (show laidMet Tryd.prog ((_, Lib.tabData .u32 ktab) :: []) W from h1)
  have h3 := fun i hi => h2.cell (g := 0) (by kernel_rfl) i hi
  refine ⟨fun j v hv => ?_, World.block_lt_of_cell? W _ (h3 0 (by rw [ktab_len]; omega))⟩
  have hj : j < ktab.length := by have := (List.getElem?_eq_some_iff.1 hv).1; simpa using this
  have e := h3 j hj
  rw [Nat.zero_add, e]
  rw [List.getElem?_map, List.getElem?_eq_getElem hj] at hv
  rw [List.getD, List.getElem?_eq_getElem hj]
  exact hv
noncomputable def laidWorld (os : Os) : World :=
  let w0 := World.holding Tryd.prog os ⟨#[], #[], []⟩
  { w0 with heap := w0.heap.modify 0 fun
      | .cells _ t frozen => .cells (ktab.map (Value.int .u32)).toArray t frozen
      | o => o }
theorem laidWorld_met (os : Os) (args : Array Value) : laidMetH Tryd.prog Rows.digestHashRow.laid ((laidWorld os).forCall (fun _ _ => 0) ⟨#[], args, []⟩).memory :=
  laidMet_of_run' 8 (by kernel_rfl) (by kernel_rfl)

set_option maxRecDepth 100000 in
theorem lifted (os : Os) (started : os.Started) (H : Type) (enc : TypeId × Value → H) :
    ReturnsInHanded {} Tryd.checked os 4 .any (fun w args => (Rows.digestHashSpec.pre enc Tryd.prog Tryd.f4 [] false w args ∧ laidMetH Tryd.prog Rows.digestHashRow.laid w) ∧ sizedMet enc Tryd.prog Tryd.f4 (OpenSpec.ofChange Rows.digestHashSpec) false w args)
      (Rows.digestHashSpec.post enc Tryd.prog Tryd.f4 false true false false) := by
  refine returnsInHanded_of_change_and (C := Tryd.checked) (X := fun w _ => laidMetH Tryd.prog Rows.digestHashRow.laid w) (fun _ _ _ hh h => h.of_heap hh) own started (by kernel_rfl) Tryd.func4
    (ChangeSpec.witness_at (enc := enc) (C := Tryd.checked) (os := os) (X := fun w _ => laidMetH Tryd.prog Rows.digestHashRow.laid w) false (laidWorld os) #[.slice none 0 0] 8 rfl (by kernel_rfl) (by kernel_rfl) (by kernel_rfl) (by kernel_rfl) (by kernel_rfl) (laidWorld_met os _)) ?_
  intro W base args ds gs before hval0 hW hcnd hsz0 hL _
  have hsz : (DataW.weightsEach Tryd.prog (Tryd.f4.params.toList ++ Rows.digestHashSpec.plain.varTypes Tryd.prog) (ds ++ gs)).all (· ≤ reachBytes) = true := hsz0
  have hval : ∀ (j : Nat) t v, Tryd.f4.params[j]? = some t → args[j]? = some v → Value.okWide Tryd.prog W .any base t v := hval0
  have hW' := hW
  obtain ⟨p, q, hA0, hV, rfl, hfz, hnd⟩ := hW
  have hA : DataW.TrodAll enc Tryd.prog W 0 (fun _ => true) true Tryd.f4.params.toList args.toList ds p := hA0
  rw [Tryd.params4] at hA hval hsz
  obtain ⟨v0, vs0, d0, ds0, p0, q0, hargs, rfl, rfl, h0, r0⟩ := trodAll_cons hA
  obtain ⟨rfl, rfl, rfl⟩ := trodAll_nil r0
  obtain rfl : args = #[v0] := by cases args; simp_all
  obtain ⟨rfl, rfl⟩ := trodVars_none hV
  have hok0 := hval 0 28 v0 rfl rfl
  obtain ⟨a0, len0, cap0, rfl⟩ := okWide_slice Tryd.underlying28 hok0
  have k0 := h0
  have lt0 : ∀ x ∈ p0, x.block < W.heap.size := by obtain ⟨m, hm⟩ := k0; exact DataW.trod_lt m _ _ _ hm
  obtain ⟨ps, hR, hN⟩ := inH hok0 h0 (fun n hn => by
    have := List.all_eq_true.1 hsz n (DataW.weights_mem_each (j := 0) rfl rfl n hn)
    simpa using this)
  clear hA0 hval0
  refine (hashLaw _ ps W hR hN (kt_of_laid hL)).mono fun e W' ⟨he, bel⟩ => ?_
  subst he
  exact ⟨_, rfl, _, _, _, [], _, [], hW', trodAll_mk1 (shut_bool Tryd.underlying4 _), (trodAll_cons_mk (Below.trod laidOut (by kernel_rfl) (of_decide_eq_true (by kernel_rfl)) k0 bel lt0) trodAll_mk0), rfl, bel.frame _, fun h => by cases h⟩

theorem over : Rows.digestHashRow.holds Tryd.pinned (OpenSpec.ofChange Rows.digestHashSpec) :=
  OpenClaim.holds_of_wide 4 Tryd.f4 rfl rfl rfl rfl rfl rfl rfl ⟨rfl, rfl, rfl, rfl, rfl⟩ rfl rfl rfl rfl rfl (by kernel_rfl) Tryd.func4 (by kernel_rfl)
    (of_decide_eq_true (by kernel_rfl)) (by unfold Func.isWrapper; first | (rw [if_pos (by decide +kernel)]; kernel_rfl) | (rw [if_neg (by decide +kernel)]; exact ⟨rfl, rfl⟩))
    (fun os started H enc _ => lifted os started H enc)

theorem proved : Rows.DigestHashSaid := over
#print axioms proved
end Go.Proofs.YtlkcjimkgebeiaaDoor.digestHash
