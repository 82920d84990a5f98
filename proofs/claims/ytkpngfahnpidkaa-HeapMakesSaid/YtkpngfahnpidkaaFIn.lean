/-
  What a walk is told of a script that came in.
-/
import Derived.Test.YtkpngfahnpidkaaRows
import Derived.Test.YtkpngfahnpidkaaFState
import Derived.WalkKit
import Derived.ProofKit
import Derived.OpenShut
import Derived.ShutString
import Derived.ChangeOld
import Derived.Below
import Derived.SizedLaws
import Derived.SliceStrings
import Derived.Lib.SmallJoins
namespace Go.Proofs.Ytkpngfahnpidkaa
open Go.ChangeShapes Go.WideShapes Go.ChangeAt Go.RowKit Go.Joins
set_option linter.unusedVariables false

theorem own : ownKnob Try.prog.godebug = none := by kernel_rfl
theorem laidOut : laidOutB Try.prog = true := by kernel_rfl
theorem cells38 : Try.prog.cellsOf 38 = 9 := by kernel_rfl
theorem cells36 : Try.prog.cellsOf 36 = 1 := by kernel_rfl
theorem cells33 : Try.prog.cellsOf 33 = 2 := by kernel_rfl
theorem cells3 : Try.prog.cellsOf 3 = 1 := by kernel_rfl
theorem cells2 : Try.prog.cellsOf 2 = 1 := by kernel_rfl
theorem bytes38 : Try.prog.bytesOf 38 = 88 := by kernel_rfl
theorem bytes33 : Try.prog.bytesOf 33 = 16 := by kernel_rfl
theorem slice_at {P : Program} {w : World} {r : Reach} {base : Nat} {t e : TypeId} {a : Addr} {len cap : Nat} (ht : P.underlying t = some (.slice e)) (h : Value.okWide P w r base t (.slice (some a) len cap)) :
    a.spot = none ∧ a.block < w.heap.size := by
  simp only [Value.okWide, ht, Cell.okWide, Cell.ok] at h
  obtain ⟨_, _, _, hs, row, cells, hsh, _⟩ := h
  refine ⟨hs, ?_⟩
  by_cases hlt : a.block < w.heap.size
  · exact hlt
  · simp [World.shape?, Array.getElem?_eq_none (Nat.le_of_not_lt hlt)] at hsh
theorem spot_none {w : World} {a : Addr} {v : Value} (h : w.cell? a = some v) : a.spot = none := by
  unfold World.cell? at h
  cases e : a.spot with
  | none => rfl
  | some s => simp [e] at h <;> (split at h <;> simp at h)
theorem add_zero' (a : Addr) : a.add 0 = a := by unfold Addr.add; rw [if_pos rfl]
theorem addr_add (b off i j : Nat) : ((⟨b, off, none⟩ : Addr).add i).add j = ⟨b, off + i + j, none⟩ := by
  rw [Go.WideShapes.add_plain, Go.WideShapes.add_plain]
theorem weights_mem_all {H : Type} {P : Program} {e : TypeId} : ∀ {l : List (DataW H)} {d : DataW H}, d ∈ l → ∀ n ∈ d.weights P e, n ∈ DataW.weightsAll P e l
  | d0 :: l, d, h, n, hn => by
    simp only [DataW.weightsAll, List.mem_append]
    rcases List.mem_cons.1 h with rfl | h
    · exact .inl hn
    · exact .inr (weights_mem_all h n hn)
/-- A list of values as it came in. -/
def RtV (w : World) (v : Value) (l : List (Int × Int)) : Prop :=
  ∃ a cap, v = .slice a l.length cap ∧ l.length ≤ cap ∧ cap ≤ maxLen ∧ ∀ i p, l[i]? = some p → ∃ b off, a = some ⟨b, off, none⟩ ∧ b < w.heap.size ∧ w.cell? ⟨b, off + i * 2, none⟩ = some (.int .i64 p.1) ∧ w.cell? ⟨b, off + i * 2 + 1, none⟩ = some (.int .i64 p.2)
set_option maxRecDepth 100000 in
/-- A value, out of two cells. -/
theorem val_cells {H : Type} {enc : TypeId × Value → H} {W : World} {n : Nat} {cs : List Value} {y : DataW H × List MemPlace} (hl : cs.length = 2) (h : DataW.trod enc Try.prog W 0 (fun _ => true) true n 33 cs = some y) :
    ∃ k m : Int, cs = [.int .i64 k, .int .i64 m] := by
  obtain ⟨xs, q, _, rfl, _, hxl, hfs⟩ := DataW.trod_struct Try.underlying33 h
  match xs, hxl, cs, hl with
  | [y0, y1], _, [c0, c1], _ =>
    have g0 := hfs 0 _ rfl
    have g1 := hfs 1 _ rfl
    simp [cells3, cells2] at g0 g1
    obtain ⟨k, e0, rfl, _⟩ := DataW.trod_int Try.underlying3 g0
    obtain ⟨m, e1, rfl, _⟩ := DataW.trod_int Try.underlying2 g1
    simp at e0 e1
    subst e0 e1
    exact ⟨k, m, rfl⟩
set_option maxRecDepth 100000 in
/-- A list of values, out of its one cell. -/
theorem list_cell {H : Type} {enc : TypeId × Value → H} {W : World} {n : Nat} {c : Value} {y : DataW H × List MemPlace} (hy : DataW.trod enc Try.prog W 0 (fun _ => true) true n 36 [c] = some y) (hsz : ∀ m ∈ y.1.weights Try.prog 36, m ≤ reachBytes) :
    ∃ l, RtV W c l ∧ l.length ≤ 8796093021952 := by
  rcases DataW.trod_slice Try.underlying36 hy with ⟨hcs, _⟩ | ⟨x, l, cap, elems, rest, q, _, hcs, hd, _, hl, hm, hlen, hel, _, _⟩
  · simp at hcs
    subst hcs
    exact ⟨[], ⟨none, 0, rfl, Nat.le_refl _, Nat.zero_le _, fun i p hi => by simp at hi⟩, Nat.zero_le _⟩
  · simp at hcs
    subst hcs
    have hd1 := ((Prod.mk.injEq _ _ _ _).mp hd).1
    have hw := hsz (((elems.map (·.1)).length + (rest.map (·.1)).length) * Try.prog.bytesOf 33) (by rw [hd1]; simp [DataW.weights, Try.underlying36])
    rw [bytes33] at hw
    simp only [List.length_map] at hw
    unfold reachBytes at hw
    rw [cells33] at hel
    have hex : ∀ i, ∃ p : Int × Int, i < l → ∃ b off, x = ⟨b, off, none⟩ ∧ b < W.heap.size ∧ W.cell? ⟨b, off + i * 2, none⟩ = some (.int .i64 p.1) ∧ W.cell? ⟨b, off + i * 2 + 1, none⟩ = some (.int .i64 p.2) := fun i => by
      by_cases hi : i < l
      · have hi' : i < elems.length := by omega
        have hy2 : elems[i]? = some (elems[i]'hi') := List.getElem?_eq_getElem hi'
        have hb := (hel i hi).trans hy2
        rw [Option.bind_eq_some_iff] at hb
        obtain ⟨cs, hcs, hyy⟩ := hb
        obtain ⟨_, hlen2, hcell⟩ := World.cells?_some hcs
        obtain ⟨k, m, rfl⟩ := val_cells hlen2 hyy
        have f0 := hcell 0 (by omega)
        have f1 := hcell 1 (by omega)
        simp at f0 f1
        -- where it begins
        have hb0 := (hel 0 (by omega)).trans (List.getElem?_eq_getElem (show 0 < elems.length by omega))
        rw [Option.bind_eq_some_iff] at hb0
        obtain ⟨cs0, hcs0, _⟩ := hb0
        obtain ⟨_, hlen0, hcell0⟩ := World.cells?_some hcs0
        have z0 := hcell0 0 (by omega)
        rw [Nat.zero_mul, add_zero', add_zero'] at z0
        match cs0, hlen0 with
        | [d0, d1], _ =>
          simp at z0
          have hs := spot_none z0
          clear hel hcell hcell0 hcs hcs0
          obtain ⟨b, off, spot⟩ := x
          simp at hs
          subst hs
          simp only [Go.WideShapes.add_plain] at f0 f1
          exact ⟨(k, m), fun _ => ⟨b, off, rfl, World.block_lt_of_cell? _ _ z0, by simpa using f0, by simpa [Nat.add_assoc] using f1⟩⟩
      · exact ⟨(0, 0), fun h => absurd h hi⟩
    obtain ⟨f, hf⟩ := Classical.axiomOfChoice hex
    refine ⟨(List.range l).map f, ⟨some x, cap, by simp, by simp; omega, hm, fun i p hp => ?_⟩, by simp; omega⟩
    have hi : i < l := by
      have := (List.getElem?_eq_some_iff.1 hp).1
      simpa using this
    have e : p = f i := by simp [hi] at hp; exact hp.symm
    obtain ⟨b, off, rfl, r1, r2, r3⟩ := hf i hi
    rw [e]
    exact ⟨b, off, rfl, r1, r2, r3⟩
set_option maxRecDepth 100000 in
/-- One call, out of nine cells. -/
theorem op_cells {H : Type} {enc : TypeId × Value → H} {W : World} {n : Nat} {a : Addr} {y : DataW H × List MemPlace}
    (h : (W.cells? 0 a 9).bind (DataW.trod enc Try.prog W 0 (fun _ => true) true n 38) = some y) (hsz : ∀ m ∈ y.1.weights Try.prog 38, m ≤ reachBytes) :
    ∃ (g : OpD) (l : List (Int × Int)), (W.cell? (a.add 0) = some (.int .i64 g.on) ∧ W.cell? (a.add 1) = some (.int .i64 g.call) ∧ W.cell? (a.add 2) = some (.int .i64 g.vk) ∧ W.cell? (a.add 3) = some (.int .i64 g.vn) ∧ W.cell? (a.add 4) = some (.int .i64 g.xk) ∧ W.cell? (a.add 5) = some (.int .i64 g.xn) ∧ W.cell? (a.add 6) = some (.int .i64 g.i) ∧ W.cell? (a.add 7) = some (.int .i64 g.n) ∧ W.cell? (a.add 8) = some g.lv) ∧
      RtV W g.lv l ∧ l.length ≤ 8796093021952 := by
  rw [Option.bind_eq_some_iff] at h
  obtain ⟨cs, hcs, hy⟩ := h
  obtain ⟨_, hlen, hcell⟩ := World.cells?_some hcs
  obtain ⟨xs, m, _, rfl, _, hxl, hfs⟩ := DataW.trod_struct Try.underlying38 hy
  match xs, hxl, cs, hlen with
  | [y0, y1, y2, y3, y4, y5, y6], _, [c0, c1, c2, c3, c4, c5, c6, c7, c8], _ =>
    have g0 := hfs 0 _ rfl
    have g1 := hfs 1 _ rfl
    have g2 := hfs 2 _ rfl
    have g3 := hfs 3 _ rfl
    have g4 := hfs 4 _ rfl
    have g5 := hfs 5 _ rfl
    have g6 := hfs 6 _ rfl
    simp [cells3, cells2, cells33, cells36] at g0 g1 g2 g3 g4 g5 g6
    obtain ⟨on, e0, rfl, _⟩ := DataW.trod_int Try.underlying3 g0
    obtain ⟨call, e1, rfl, _⟩ := DataW.trod_int Try.underlying3 g1
    obtain ⟨vk, vn, e2⟩ := val_cells rfl g2
    obtain ⟨xk, xn, e3⟩ := val_cells rfl g3
    obtain ⟨i, e4, rfl, _⟩ := DataW.trod_int Try.underlying2 g4
    obtain ⟨nn, e5, rfl, _⟩ := DataW.trod_int Try.underlying3 g5
    simp at e0 e1 e2 e3 e4 e5
    obtain ⟨rfl, rfl⟩ := e2
    obtain ⟨rfl, rfl⟩ := e3
    subst e0 e1 e4 e5
    obtain ⟨l, r1, r2⟩ := list_cell g6 (fun q hq => hsz q (by
      simp only [List.map_cons, List.map_nil, DataW.weights, Try.underlying38]
      exact DataW.weights_mem_each (j := 6) (t := 36) rfl rfl q hq))
    have f0 := hcell 0 (by omega)
    have f1 := hcell 1 (by omega)
    have f2 := hcell 2 (by omega)
    have f3 := hcell 3 (by omega)
    have f4 := hcell 4 (by omega)
    have f5 := hcell 5 (by omega)
    have f6 := hcell 6 (by omega)
    have f7 := hcell 7 (by omega)
    have f8 := hcell 8 (by omega)
    simp at f0 f1 f2 f3 f4 f5 f6 f7 f8
    exact ⟨⟨on, call, vk, vn, xk, xn, i, nn, c8⟩, l, ⟨f0, f1, f2, f3, f4, f5, f6, f7, f8⟩, r1, r2⟩

set_option maxRecDepth 100000 in
/-- What the walk is told of the script that came in. -/
theorem inO {H : Type} {enc : TypeId × Value → H} {W : World} {base : Nat} {a : Option Addr} {len cap : Nat} {d : DataW H} {p : List MemPlace}
    (hv : Value.okWide Try.prog W .any base 22 (.slice a len cap)) (h : ∃ f, DataW.trod enc Try.prog W 0 (fun _ => true) true f 22 (Value.slice a len cap).cells.toList = some (d, p))
    (hsz : ∀ n ∈ d.weights Try.prog 22, n ≤ reachBytes) :
    ∃ (ps : List OpD) (ls : Nat → List (Int × Int)), RdO W (.slice a len cap) ps ∧ (∀ i, i < ps.length → RtV W (ps.getD i OpD.zero).lv (ls i) ∧ (ls i).length ≤ 8796093021952) ∧ ps.length ≤ 1599289640355 := by
  obtain ⟨fuel, hf⟩ := h
  rcases DataW.trod_slice Try.underlying22 hf with ⟨hcs, _⟩ | ⟨x, l, c, elems, rest, n, _, hcs, hd, _, hl, hm, hlen, hel, _, _⟩
  · simp [Value.cells] at hcs
    obtain ⟨rfl, rfl, rfl⟩ := hcs
    exact ⟨[], fun _ => [], ⟨none, 0, rfl, fun i hi => by simp at hi⟩, fun i hi => by simp at hi, by simp⟩
  · simp [Value.cells] at hcs
    obtain ⟨rfl, rfl, rfl⟩ := hcs
    obtain ⟨hs, hb⟩ := slice_at Try.underlying22 hv
    obtain ⟨b, off, spot⟩ := x
    simp at hs hb
    subst hs
    have hd1 := ((Prod.mk.injEq _ _ _ _).mp hd).1
    have hw := hsz (((elems.map (·.1)).length + (rest.map (·.1)).length) * Try.prog.bytesOf 38) (by rw [hd1]; simp [DataW.weights, Try.underlying22])
    rw [bytes38] at hw
    simp only [List.length_map] at hw
    unfold reachBytes at hw
    rw [cells38] at hel
    have hex : ∀ i, ∃ q : OpD × List (Int × Int), i < len → opAt W b off i q.1 ∧ RtV W q.1.lv q.2 ∧ q.2.length ≤ 8796093021952 := fun i => by
      by_cases hi : i < len
      · have hi' : i < elems.length := by omega
        have hy : elems[i]? = some (elems[i]'hi') := List.getElem?_eq_getElem hi'
        obtain ⟨g, l, hq, r1, r2⟩ := op_cells ((hel i hi).trans hy) (fun m hm => hsz m (by
          rw [hd1]
          simp only [DataW.weights, Try.underlying22, List.mem_cons, List.mem_append]
          exact .inr (.inl (weights_mem_all (List.mem_map.2 ⟨_, List.getElem_mem hi', rfl⟩) m hm))))
        simp only [addr_add] at hq
        exact ⟨⟨g, l⟩, fun _ => ⟨hq, r1, r2⟩⟩
      · exact ⟨⟨OpD.zero, []⟩, fun h => absurd h hi⟩
    obtain ⟨f, hf⟩ := Classical.axiomOfChoice hex
    have eg : ∀ i, i < len → ((List.range len).map (fun i => (f i).1)).getD i OpD.zero = (f i).1 := fun i hi => by simp [List.getD, hi]
    refine ⟨(List.range len).map (fun i => (f i).1), fun i => (f i).2, ⟨some ⟨b, off, none⟩, cap, by simp, fun i hi => ⟨b, off, rfl, hb, ?_⟩⟩, fun i hi => ?_, by simp; omega⟩
    · rw [eg i (by simpa using hi)]
      exact (hf i (by simpa using hi)).1
    · rw [eg i (by simpa using hi)]
      exact (hf i (by simpa using hi)).2
end Go.Proofs.Ytkpngfahnpidkaa
