/-
  What the walk of a script is told of what came in.
-/
import Derived.Test.YthmcalapofjmfaaIn
import Derived.Test.YthmcalapofjmfaaScript0
namespace Go.Proofs.Ythmcalapofjmfaa
open Go.ChangeShapes Go.WideShapes Go.ChangeAt Go.RowKit Go.Joins
set_option linter.unusedVariables false

theorem cells30 : Try.prog.cellsOf 30 = 5 := by kernel_rfl
theorem cells26 : Try.prog.cellsOf 26 = 1 := by kernel_rfl
theorem cells3 : Try.prog.cellsOf 3 = 1 := by kernel_rfl
theorem bytes30 : Try.prog.bytesOf 30 = 64 := by kernel_rfl
theorem spot_none {w : World} {a : Addr} {v : Value} (h : w.cell? a = some v) : a.spot = none := by
  unfold World.cell? at h
  cases e : a.spot with
  | none => rfl
  | some s => simp [e] at h <;> (split at h <;> simp at h)
theorem add_zero' (a : Addr) : a.add 0 = a := by unfold Addr.add; rw [if_pos rfl]
theorem weights_mem_all {H : Type} {P : Program} {e : TypeId} : ∀ {l : List (DataW H)} {d : DataW H}, d ∈ l → ∀ n ∈ d.weights P e, n ∈ DataW.weightsAll P e l
  | d0 :: l, d, h, n, hn => by
    simp only [DataW.weightsAll, List.mem_append]
    rcases List.mem_cons.1 h with rfl | h
    · exact .inl hn
    · exact .inr (weights_mem_all h n hn)

/-- A list of texts, out of its one cell. -/
theorem list_cell {H : Type} {enc : TypeId × Value → H} {W : World} {n : Nat} {c : Value} {y : DataW H × List MemPlace} (hy : DataW.trod enc Try.prog W 0 (fun _ => true) true n 26 [c] = some y) (hsz : ∀ m ∈ y.1.weights Try.prog 26, m ≤ reachBytes) :
    ∃ rs, Rt W c rs ∧ (∀ i, i < rs.length → (tx rs i).size ≤ maxLen) ∧ rs.length ≤ 8796093021952 := by
  rcases open_strings Try.underlying26 Try.underlying9 cells9 hy with ⟨hcs, _⟩ | ⟨x, l, c', ss, hcs, _, hl, hm, hz, hd, hcell, hwz⟩
  · simp at hcs
    subst hcs
    exact ⟨[], ⟨none, 0, rfl, Nat.le_refl _, Nat.zero_le _, fun i hi => by simp at hi⟩, fun i hi => by simp at hi, Nat.zero_le _⟩
  · simp at hcs
    subst hcs
    have hzl : ss.length = c' := by simpa using hz
    have htl : (ss.take l).length = l := by simp; omega
    have hw : ((strs (H := H) (ss.take l)).length + (strs (H := H) (ss.drop l)).length) * Try.prog.bytesOf 9 ≤ reachBytes := by
      refine hsz _ ?_
      rw [hd]
      simp [DataW.weights, Try.underlying26]
    rw [bytes9] at hw
    simp only [strs, List.length_map] at hw
    unfold reachBytes at hw
    refine ⟨ss.take l, ⟨_, c', by rw [htl], by omega, hm, fun i hi => ?_⟩, fun i hi => ?_, by omega⟩
    · have h1 := hcell i (by omega)
      have h0 := hcell 0 (by omega)
      rw [add_zero'] at h0
      have h2 := spot_none h0
      clear h0
      obtain ⟨b, off, spot⟩ := x
      simp at h2
      subst h2
      rw [Go.WideShapes.add_plain] at h1
      exact ⟨b, off, rfl, World.block_lt_of_cell? _ _ h1, by rw [tx_take (by omega)]; exact h1⟩
    · rw [tx_take (by omega)]
      exact hwz _ (tx_mem (by omega))
/-- One call, out of five cells. -/
theorem op_cells {H : Type} {enc : TypeId × Value → H} {W : World} {n : Nat} {a : Addr} {y : DataW H × List MemPlace}
    (h : (W.cells? 0 a 5).bind (DataW.trod enc Try.prog W 0 (fun _ => true) true n 30) = some y) (hsz : ∀ m ∈ y.1.weights Try.prog 30, m ≤ reachBytes) :
    ∃ (g : OpD) (rs : List ByteArray), W.cell? (a.add 0) = some (.int .i64 g.on) ∧ W.cell? (a.add 1) = some (.int .i64 g.kind) ∧ W.cell? (a.add 2) = some (.int .i64 g.n) ∧ W.cell? (a.add 3) = some (.string g.s) ∧ W.cell? (a.add 4) = some g.lv ∧
      Rt W g.lv rs ∧ g.s.size ≤ maxLen ∧ (∀ i, i < rs.length → (tx rs i).size ≤ maxLen) ∧ rs.length ≤ 8796093021952 := by
  rw [Option.bind_eq_some_iff] at h
  obtain ⟨cs, hcs, hy⟩ := h
  obtain ⟨_, hlen, hcell⟩ := World.cells?_some hcs
  obtain ⟨xs, m, _, rfl, _, hxl, hfs⟩ := DataW.trod_struct Try.underlying30 hy
  match xs, hxl, cs, hlen with
  | [y0, y1, y2, y3, y4], _, [c0, c1, c2, c3, c4], _ =>
    have g0 := hfs 0 _ rfl
    have g1 := hfs 1 _ rfl
    have g2 := hfs 2 _ rfl
    have g3 := hfs 3 _ rfl
    have g4 := hfs 4 _ rfl
    simp [cells3, cells9, cells26] at g0 g1 g2 g3 g4
    obtain ⟨on, e0, rfl, wa⟩ := DataW.trod_int Try.underlying3 g0
    obtain ⟨kind, e1, rfl, wb⟩ := DataW.trod_int Try.underlying3 g1
    obtain ⟨x, e2, rfl, wc⟩ := DataW.trod_int Try.underlying3 g2
    obtain ⟨s, e3, rfl, wd⟩ := DataW.trod_string Try.underlying9 g3
    simp at e0 e1 e2 e3
    subst e0 e1 e2 e3
    obtain ⟨rs, r1, r2, r3⟩ := list_cell g4 (fun q hq => hsz q (by
      simp only [List.map_cons, List.map_nil, DataW.weights, Try.underlying30]
      exact DataW.weights_mem_each (j := 4) (t := 26) rfl rfl q hq))
    have f0 := hcell 0 (by omega)
    have f1 := hcell 1 (by omega)
    have f2 := hcell 2 (by omega)
    have f3 := hcell 3 (by omega)
    have f4 := hcell 4 (by omega)
    simp at f0 f1 f2 f3 f4
    exact ⟨⟨on, kind, x, s, c4⟩, rs, f0, f1, f2, f3, f4, r1, wd, r2, r3⟩

/-- What the walk is told of the script that came in. -/
theorem inO {H : Type} {enc : TypeId × Value → H} {W : World} {base : Nat} {a : Option Addr} {len cap : Nat} {d : DataW H} {p : List MemPlace}
    (hv : Value.okWide Try.prog W .any base 22 (.slice a len cap)) (h : ∃ f, DataW.trod enc Try.prog W 0 (fun _ => true) true f 22 (Value.slice a len cap).cells.toList = some (d, p))
    (hsz : ∀ n ∈ d.weights Try.prog 22, n ≤ reachBytes) :
    ∃ ps ls, RdO W (.slice a len cap) ps ls ∧ ps.length ≤ 2199023255552 := by
  obtain ⟨fuel, hf⟩ := h
  rcases DataW.trod_slice Try.underlying22 hf with ⟨hcs, _⟩ | ⟨x, l, c, elems, rest, n, _, hcs, hd, _, hl, hm, hlen, hel, _, _⟩
  · simp [Value.cells] at hcs
    obtain ⟨rfl, rfl, rfl⟩ := hcs
    exact ⟨[], fun _ => [], ⟨none, 0, rfl, fun i hi => by simp at hi⟩, by simp⟩
  · simp [Value.cells] at hcs
    obtain ⟨rfl, rfl, rfl⟩ := hcs
    obtain ⟨hs, hb⟩ := slice_at Try.underlying22 hv
    obtain ⟨b, off, spot⟩ := x
    simp at hs hb
    subst hs
    have hd1 := ((Prod.mk.injEq _ _ _ _).mp hd).1
    have hw := hsz (((elems.map (·.1)).length + (rest.map (·.1)).length) * Try.prog.bytesOf 30) (by rw [hd1]; simp [DataW.weights, Try.underlying22])
    rw [bytes30] at hw
    simp only [List.length_map] at hw
    unfold reachBytes at hw
    rw [cells30] at hel
    have hex : ∀ i, ∃ q : OpD × List ByteArray, i < len → W.cell? (((⟨b, off, none⟩ : Addr).add (i * 5)).add 0) = some (.int .i64 q.1.on) ∧ W.cell? (((⟨b, off, none⟩ : Addr).add (i * 5)).add 1) = some (.int .i64 q.1.kind) ∧ W.cell? (((⟨b, off, none⟩ : Addr).add (i * 5)).add 2) = some (.int .i64 q.1.n) ∧ W.cell? (((⟨b, off, none⟩ : Addr).add (i * 5)).add 3) = some (.string q.1.s) ∧ W.cell? (((⟨b, off, none⟩ : Addr).add (i * 5)).add 4) = some q.1.lv ∧
        Rt W q.1.lv q.2 ∧ q.1.s.size ≤ maxLen ∧ (∀ i, i < q.2.length → (tx q.2 i).size ≤ maxLen) ∧ q.2.length ≤ 8796093021952 := fun i => by
      by_cases hi : i < len
      · have hi' : i < elems.length := by omega
        have hy : elems[i]? = some (elems[i]'hi') := List.getElem?_eq_getElem hi'
        obtain ⟨g, rs, hq⟩ := op_cells ((hel i hi).trans hy) (fun m hm => hsz m (by
          rw [hd1]
          simp only [DataW.weights, Try.underlying22, List.mem_cons, List.mem_append]
          exact .inr (.inl (weights_mem_all (List.mem_map.2 ⟨_, List.getElem_mem hi', rfl⟩) m hm))))
        exact ⟨⟨g, rs⟩, fun _ => hq⟩
      · exact ⟨⟨OpD.zero, []⟩, fun h => absurd h hi⟩
    obtain ⟨f, hf⟩ := Classical.axiomOfChoice hex
    refine ⟨(List.range len).map (fun i => (f i).1), fun i => (f i).2, ⟨some ⟨b, off, none⟩, cap, by simp, fun i hi => ?_⟩, by simp; omega⟩
    have hi' : i < len := by simpa using hi
    obtain ⟨g0, g1, g2, g3, g4, r1, r2, r3, r4⟩ := hf i hi'
    have eg : ((List.range len).map (fun i => (f i).1)).getD i OpD.zero = (f i).1 := by simp [List.getD, hi']
    rw [eg]
    rw [addr_add, addr_add] at g0 g1 g2 g3 g4
    exact ⟨⟨b, off, rfl, hb, g0, g1, g2, g3, g4⟩, r1, r2, r3, r4⟩
end Go.Proofs.Ythmcalapofjmfaa
