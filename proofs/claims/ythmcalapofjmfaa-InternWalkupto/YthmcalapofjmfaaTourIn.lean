/-
  What the walk of InternWalk is told of what came in.
-/
import Derived.Test.YthmcalapofjmfaaScriptIn
import Derived.Test.YthmcalapofjmfaaTourI
namespace Go.Proofs.Ythmcalapofjmfaa
open Go.ChangeShapes Go.WideShapes Go.ChangeAt Go.RowKit Go.Joins
set_option linter.unusedVariables false

theorem cellsE : Try.prog.cellsOf 54 = 3 := by kernel_rfl
theorem cells42 : Try.prog.cellsOf 42 = 1 := by kernel_rfl
theorem cells4 : Try.prog.cellsOf 4 = 1 := by kernel_rfl
theorem cells44 : Try.prog.cellsOf 44 = 5 := by kernel_rfl
theorem bulk_one {H : Type} (d : DataW H) : 1 ≤ Rows.uptoBulk d := by
  unfold Rows.uptoBulk
  split <;> omega
theorem bulk_len {H : Type} : ∀ l : List (DataW H), l.length ≤ Rows.uptoBulkAll l
  | [] => Nat.zero_le _
  | d :: r => by
    have h1 := bulk_one d
    have h2 := bulk_len r
    rw [Rows.uptoBulkAll, List.length_cons]
    omega
theorem bulk_part {H : Type} : ∀ {l : List (DataW H)} {d : DataW H}, d ∈ l → Rows.uptoBulk d ≤ Rows.uptoBulkAll l
  | d0 :: l, d, h => by
    rw [Rows.uptoBulkAll]
    rcases List.mem_cons.1 h with rfl | h
    · omega
    · have := bulk_part h; omega
/-- A list of texts, out of its one cell, by its bulk. -/
theorem texts_cell {H : Type} {enc : TypeId × Value → H} {W : World} {n : Nat} {c : Value} {y : DataW H × List MemPlace} (hy : DataW.trod enc Try.prog W 0 (fun _ => true) true n 26 [c] = some y) (hb : Rows.uptoBulk y.1 ≤ 1048576) :
    ∃ rs, Rt W c rs ∧ (∀ i, i < rs.length → (tx rs i).size ≤ maxLen) ∧ rs.length ≤ 1048576 := by
  rcases open_strings Try.underlying26 Try.underlying9 cells9 hy with ⟨hcs, _⟩ | ⟨x, l, c', ss, hcs, _, hl, hm, hz, hd, hcell, hwz⟩
  · simp at hcs
    subst hcs
    exact ⟨[], ⟨none, 0, rfl, Nat.le_refl _, Nat.zero_le _, fun i hi => by simp at hi⟩, fun i hi => by simp at hi, Nat.zero_le _⟩
  · simp at hcs
    subst hcs
    have hzl : ss.length = c' := by simpa using hz
    have htl : (ss.take l).length = l := by simp; omega
    have hw : l ≤ 1048576 := by
      rw [hd, Rows.uptoBulk] at hb
      have := bulk_len (strs (H := H) (ss.take l))
      simp only [strs, List.length_map, htl] at this hb
      omega
    refine ⟨ss.take l, ⟨_, c', by rw [htl], by omega, hm, fun i hi => ?_⟩, fun i hi => ?_, by omega⟩
    · have h1 := hcell i (by omega)
      have h0 := hcell 0 (by omega)
      rw [add_zero'] at h0
      have h2 := spot_none h0
      clear h0
      obtain ⟨b, off, spot⟩ := x
      simp at h2
      subst h2
      rw [Go.WideShapes.add_plain] at h1
      exact ⟨b, off, rfl, World.block_lt_of_cell? _ _ h1, by rw [tx_take (by omega)]; exact h1⟩
    · rw [tx_take (by omega)]
      exact hwz _ (tx_mem (by omega))
/-- One act, out of three cells. -/
theorem act_cells {H : Type} {enc : TypeId × Value → H} {W : World} {n : Nat} {a : Addr} {y : DataW H × List MemPlace}
    (h : (W.cells? 0 a 3).bind (DataW.trod enc Try.prog W 0 (fun _ => true) true n 54) = some y) :
    ∃ g : AcD, W.cell? (a.add 0) = some (.bool g.c) ∧ W.cell? (a.add 1) = some (.int .i64 g.n) ∧ W.cell? (a.add 2) = some (.string g.s) ∧ g.s.size ≤ maxLen := by
  rw [Option.bind_eq_some_iff] at h
  obtain ⟨cs, hcs, hy⟩ := h
  obtain ⟨_, hlen, hcell⟩ := World.cells?_some hcs
  obtain ⟨xs, m, _, rfl, _, hxl, hfs⟩ := DataW.trod_struct Try.underlying54 hy
  match xs, hxl, cs, hlen with
  | [y0, y1, y2], _, [c0, c1, c2], _ =>
    have g0 := hfs 0 _ rfl
    have g1 := hfs 1 _ rfl
    have g2 := hfs 2 _ rfl
    simp [cells4, cells3, cells9] at g0 g1 g2
    obtain ⟨c, e0, rfl⟩ := DataW.trod_bool Try.underlying4 g0
    obtain ⟨k, e1, rfl, wb⟩ := DataW.trod_int Try.underlying3 g1
    obtain ⟨s, e2, rfl, wd⟩ := DataW.trod_string Try.underlying9 g2
    simp at e0 e1 e2
    subst e0 e1 e2
    have f0 := hcell 0 (by omega)
    have f1 := hcell 1 (by omega)
    have f2 := hcell 2 (by omega)
    simp at f0 f1 f2
    exact ⟨⟨c, k, s⟩, f0, f1, f2, wd⟩
/-- A list of acts, out of its one cell. -/
theorem acts_cell {H : Type} {enc : TypeId × Value → H} {W : World} {n : Nat} {c : Value} {y : DataW H × List MemPlace} (hy : DataW.trod enc Try.prog W 0 (fun _ => true) true n 42 [c] = some y) (hb : Rows.uptoBulk y.1 ≤ 1048576) :
    ∃ ac, Ra W c ac ∧ ac.length ≤ 1048576 := by
  rcases DataW.trod_slice Try.underlying42 hy with ⟨hcs, _⟩ | ⟨x, len, cap, elems, rest, n, _, hcs, hd, _, hl, hm, hlen, hel, _, _⟩
  · simp at hcs
    subst hcs
    exact ⟨[], ⟨none, 0, rfl, Nat.zero_le _, fun i hi => by simp at hi⟩, by simp⟩
  · simp at hcs
    subst hcs
    have hd1 : y.1 = _ := congrArg Prod.fst hd
    have hw : len ≤ 1048576 := by
      rw [hd1, Rows.uptoBulk] at hb
      have := bulk_len (elems.map (·.1))
      rw [List.length_map] at this
      omega
    rw [cellsE] at hel
    have hex : ∀ i, ∃ g : AcD, i < len → W.cell? ((x.add (i * 3)).add 0) = some (.bool g.c) ∧ W.cell? ((x.add (i * 3)).add 1) = some (.int .i64 g.n) ∧ W.cell? ((x.add (i * 3)).add 2) = some (.string g.s) ∧ g.s.size ≤ maxLen := fun i => by
      by_cases hi : i < len
      · have hi' : i < elems.length := by omega
        obtain ⟨g, hq⟩ := act_cells ((hel i hi).trans (List.getElem?_eq_getElem hi'))
        exact ⟨g, fun _ => hq⟩
      · exact ⟨⟨false, 0, ByteArray.empty⟩, fun h => absurd h hi⟩
    obtain ⟨f, hf⟩ := Classical.axiomOfChoice hex
    refine ⟨(List.range len).map f, ⟨some x, cap, by simp, by simp; omega, fun i hi => ?_⟩, by simpa using hw⟩
    have hi' : i < len := by simpa using hi
    obtain ⟨g0, g1, g2, r2⟩ := hf i hi'
    obtain ⟨h0, _⟩ := hf 0 (by omega)
    rw [add_zero', show 0 * 3 = 0 from rfl, add_zero'] at h0
    have h2 := spot_none h0
    obtain ⟨b, off, spot⟩ := x
    simp at h2
    subst h2
    have eg : ax ((List.range len).map f) i = f i := by simp [ax, List.getD, hi']
    rw [eg]
    rw [addr_add, addr_add] at g0 g1 g2
    exact ⟨b, off, rfl, World.block_lt_of_cell? _ _ h0, g0, g1, g2, r2⟩
/-- What the walk is told of the tour that came in. -/
theorem inT {H : Type} {enc : TypeId × Value → H} {W : World} {base : Nat} {v : Value} {d : DataW H} {p : List MemPlace}
    (hv : Value.okWide Try.prog W .any base 44 v) (h : ∃ f, DataW.trod enc Try.prog W 0 (fun _ => true) true f 44 v.cells.toList = some (d, p)) (hb : Rows.uptoBulk d ≤ 1048576) :
    ∃ vF vA vI stop other F A I, v = .agg #[vF, vA, vI, .int .i64 stop, .int .i64 other] ∧ Rt W vF F ∧ (∀ i, i < F.length → (tx F i).size ≤ maxLen) ∧ Ra W vA A ∧ Ra W vI I ∧ F.length ≤ 1048576 ∧ A.length ≤ 1048576 ∧ I.length ≤ 1048576 := by
  obtain ⟨fuel, hf⟩ := h
  obtain ⟨cs, rfl, hcs⟩ := okWide_struct Try.underlying44 hv
  rw [cells44] at hcs
  obtain ⟨cl⟩ := cs
  simp only [Value.cells] at hf
  obtain ⟨xs, m, _, hd, _, hxl, hfs⟩ := DataW.trod_struct Try.underlying44 hf
  have hd1 := ((Prod.mk.injEq _ _ _ _).mp hd).1
  match xs, hxl, cl, hcs with
  | [y0, y1, y2, y3, y4], _, [c0, c1, c2, c3, c4], _ =>
    have g0 := hfs 0 _ rfl
    have g1 := hfs 1 _ rfl
    have g2 := hfs 2 _ rfl
    have g3 := hfs 3 _ rfl
    have g4 := hfs 4 _ rfl
    simp [cells3, cells26, cells42] at g0 g1 g2 g3 g4
    have bs : ∀ z ∈ [y0, y1, y2, y3, y4], Rows.uptoBulk z.1 ≤ 1048576 := fun z hz => by
      rw [hd1, Rows.uptoBulk] at hb
      have := bulk_part (List.mem_map.2 ⟨z, hz, rfl⟩ : z.1 ∈ [y0, y1, y2, y3, y4].map (·.1))
      omega
    obtain ⟨s, e3, _, _⟩ := DataW.trod_int Try.underlying3 g3
    obtain ⟨o, e4, _, _⟩ := DataW.trod_int Try.underlying3 g4
    simp at e3 e4
    subst e3 e4
    obtain ⟨F, f1, f2, f3⟩ := texts_cell g0 (bs y0 (by simp))
    obtain ⟨A, a1, a2⟩ := acts_cell g1 (bs y1 (by simp))
    obtain ⟨I, i1, i2⟩ := acts_cell g2 (bs y2 (by simp))
    exact ⟨c0, c1, c2, s, o, F, A, I, rfl, f1, f2, a1, i1, f3, a2, i2⟩
end Go.Proofs.Ythmcalapofjmfaa
