/-
  A graph that came in.
-/
import Derived.Test.YtfeombhileiamaaRows
import Derived.Test.YtfeombhileiamaaAsks
import Derived.ProofKit
import Derived.OpenShut
import Derived.ShutString
import Derived.ChangeOld
import Derived.SizedLaws
import Derived.SliceStrings
import Derived.Lib.SmallJoins
namespace Go.Proofs.Ytfeombhileiamaa.into
open Go.ChangeShapes Go.WideShapes Go.ChangeAt Go.RowKit Go.Joins
set_option linter.unusedVariables false

theorem own : ownKnob Try.prog.godebug = none := by kernel_rfl
theorem laidOut : laidOutB Try.prog = true := by kernel_rfl
theorem cells3 : Try.prog.cellsOf 3 = 1 := by kernel_rfl
theorem cells22 : Try.prog.cellsOf 22 = 1 := by kernel_rfl
theorem cells23 : Try.prog.cellsOf 23 = 1 := by kernel_rfl
theorem cellsG : Try.prog.cellsOf 25 = 5 := by kernel_rfl
theorem bytes3 : Try.prog.bytesOf 3 = 8 := by kernel_rfl
theorem spot_none {w : World} {a : Addr} {v : Value} (h : w.cell? a = some v) : a.spot = none := by
  unfold World.cell? at h
  cases e : a.spot with
  | none => rfl
  | some s => simp [e] at h <;> (split at h <;> simp at h)
theorem add_zero' (a : Addr) : a.add 0 = a := by unfold Addr.add; rw [if_pos rfl]
/-- A list of things, out of its one cell. -/
theorem rows_cell {H : Type} {enc : TypeId × Value → H} {W : World} {n : Nat} {c : Value} {y : DataW H × List MemPlace} {T : Type} {en : T → List Value} {sz : Nat} (hz : ∀ x, (en x).length = sz) (hpos : 0 < sz) (t0 : T) {t te : TypeId} (hu : Try.prog.underlying t = some (.slice te)) (hcl : Try.prog.cellsOf te = sz) (G : T → DataW H → Prop)
    (hel : ∀ n cs y, cs.length = sz → DataW.trod enc Try.prog W 0 (fun _ => true) true n te cs = some y → ∃ x : T, cs = en x ∧ G x y.1)
    (hy : DataW.trod enc Try.prog W 0 (fun _ => true) true n t [c] = some y) :
    ∃ (l : List T) (ds rs : List (DataW H)), Rx W sz c l.length (flt en l) ∧ l.length = ds.length ∧ (y.1 = .slice ds rs ∨ (ds = [] ∧ y.1 = .nil)) ∧ ∀ (i : Nat) (x : T), l[i]? = some x → ∃ d, ds[i]? = some d ∧ G x d := by
  rcases DataW.trod_slice hu hy with ⟨hcs, hd⟩ | ⟨a, len, cap, elems, rest, m, _, hcs, hd, _, hl, hm, hlen, hel2, _, _⟩
  · simp at hcs
    subst hcs
    exact ⟨[], [], [], by simpa [flt] using Rx.nil W sz, rfl, .inr ⟨rfl, by rw [hd]⟩, fun i x hx => by simp at hx⟩
  · simp at hcs
    subst hcs
    rw [hcl] at hel2
    have hd1 : y.1 = _ := congrArg Prod.fst hd
    have hex : ∀ i, ∃ x : T, i < len → (∃ d, (elems.map (·.1))[i]? = some d ∧ G x d) ∧ W.cells? 0 (a.add (i * sz)) sz = some (en x) := fun i => by
      by_cases hi : i < len
      · have hi' : i < elems.length := by omega
        have hb := (hel2 i hi).trans (List.getElem?_eq_getElem hi')
        rw [Option.bind_eq_some_iff] at hb
        obtain ⟨cs, hcs, hyy⟩ := hb
        obtain ⟨_, hl2, _⟩ := World.cells?_some hcs
        obtain ⟨x, ex, hg⟩ := hel m cs _ hl2 hyy
        exact ⟨x, fun _ => ⟨⟨_, by rw [List.getElem?_map, List.getElem?_eq_getElem hi']; rfl, hg⟩, by rw [← ex]; exact hcs⟩⟩
      · exact ⟨t0, fun h => absurd h hi⟩
    obtain ⟨f, hf⟩ := Classical.axiomOfChoice hex
    have hll : ((List.range len).map f).length = len := by simp
    refine ⟨(List.range len).map f, elems.map (·.1), rest.map (·.1), ⟨flt_length hz _, some a, cap, by rw [hll], by rw [hll]; exact hl, hm, fun h0 => ?_⟩, by simp [hlen], .inl hd1, fun i x hx => ?_⟩
    · rw [hll] at h0 ⊢
      obtain ⟨_, hc0⟩ := hf 0 h0
      obtain ⟨_, hl0, hcell0⟩ := World.cells?_some hc0
      have z0 := hcell0 0 hpos
      rw [Nat.zero_mul, add_zero', add_zero'] at z0
      obtain ⟨v0, hv0⟩ : ∃ v, (en (f 0))[0]? = some v := ⟨_, List.getElem?_eq_getElem (by rw [hz]; exact hpos)⟩
      have z1 : W.cell? a = some v0 := by rw [← hv0]; exact z0
      have hs := spot_none z1
      obtain ⟨b, off, spot⟩ := a
      simp at hs
      subst hs
      refine ⟨b, off, rfl, World.block_lt_of_cell? _ _ z1, fun j hj => ?_⟩
      have hq : j / sz < len := Nat.div_lt_of_lt_mul (by rw [Nat.mul_comm]; exact hj)
      have hr : j % sz < sz := Nat.mod_lt _ hpos
      have ej : j = j / sz * sz + j % sz := by rw [Nat.mul_comm]; exact (Nat.div_add_mod j sz).symm
      obtain ⟨_, hcj⟩ := hf (j / sz) hq
      obtain ⟨_, hlj, hcellj⟩ := World.cells?_some hcj
      have hc := hcellj (j % sz) hr
      rw [Go.WideShapes.add_plain, Go.WideShapes.add_plain] at hc
      rw [ej, flt_at hz (p := f (j / sz)) (by simp [hq]) (j % sz) hr, ← Nat.add_assoc]
      exact hc
    · have hi : i < len := by
        have := (List.getElem?_eq_some_iff.1 hx).1
        simpa using this
      have e : x = f i := by simp [hi] at hx; exact hx.symm
      rw [e]
      exact (hf i hi).1

section
variable {H : Type} {enc : TypeId × Value → H} {W : World}
theorem int_cells (n : Nat) (cs : List Value) (y : DataW H × List MemPlace) (hl : cs.length = 1) (h : DataW.trod enc Try.prog W 0 (fun _ => true) true n 3 cs = some y) : ∃ x : Int, cs = enN x ∧ True := by
  obtain ⟨k, e0, rfl, wk⟩ := DataW.trod_int Try.underlying3 h
  exact ⟨k, e0, trivial⟩
/-- A list of whatever, out of its one cell: a slice. -/
theorem any_slice {n : Nat} {c : Value} {y : DataW H × List MemPlace} {t te : TypeId} (hu : Try.prog.underlying t = some (.slice te)) (hy : DataW.trod enc Try.prog W 0 (fun _ => true) true n t [c] = some y) : ∃ a l cp, c = .slice a l cp := by
  rcases DataW.trod_slice hu hy with ⟨hcs, hd⟩ | ⟨a, len, cap, elems, rest, m, _, hcs, hd, _⟩
  · simp at hcs; exact ⟨_, _, _, hcs⟩
  · simp at hcs; exact ⟨_, _, _, hcs⟩
theorem fields_sized {ts : List TypeId} {ds : List (DataW H)} {j : Nat} {parts : List (DataW H)} (h : (DataW.weightsEach Try.prog ts ds).all (· ≤ reachBytes) = true) (ht : ts[j]? = some 25) (hd : ds[j]? = some (.agg parts)) :
    (DataW.weightsEach Try.prog [22, 23, 22, 22, 22] parts).all (· ≤ reachBytes) = true := by
  rw [List.all_eq_true] at h ⊢
  intro n hn
  refine h n (DataW.weights_mem_each ht hd n ?_)
  simp only [DataW.weights, Try.underlying25]
  exact hn
theorem len_of {parts : List (DataW H)} {j : Nat} {y : DataW H} {n : Nat} {ds rs : List (DataW H)} (h : (DataW.weightsEach Try.prog [22, 23, 22, 22, 22] parts).all (· ≤ reachBytes) = true) (hj : ([22, 23, 22, 22, 22] : List TypeId)[j]? = some 22) (hp : parts[j]? = some y) (hy : y = .slice ds rs ∨ (ds = [] ∧ y = .nil)) (hn : n = ds.length) : n ≤ 17592186043904 := by
  rcases hy with rfl | ⟨rfl, rfl⟩
  · have := sized_slice h hj hp Try.underlying22
    rw [bytes3] at this
    unfold reachBytes at this
    omega
  · simp at hn; omega
set_option maxRecDepth 100000 in
/-- A graph that came in. -/
theorem inG {base : Nat} {v : Value} {d : DataW H} {p : List MemPlace} {ts : List TypeId} {ds : List (DataW H)} {j : Nat} (hv : Value.okWide Try.prog W .any base 25 v) (h : DataW.Trod enc Try.prog W 0 (fun _ => true) true 25 v d p)
    (hsz : (DataW.weightsEach Try.prog ts ds).all (· ≤ reachBytes) = true) (ht : ts[j]? = some 25) (hd : ds[j]? = some d) :
    ∃ st up, GV W v st up ∧ st.length ≤ 17592186043904 ∧ up.length ≤ 17592186043904 := by
  obtain ⟨fuel, hf⟩ := h
  obtain ⟨cs, rfl, hcs⟩ := okWide_struct Try.underlying25 hv
  rw [cellsG] at hcs
  obtain ⟨cl⟩ := cs
  simp only [Value.cells] at hf
  obtain ⟨xs, m, _, hd2, _, hxl, hfs⟩ := DataW.trod_struct Try.underlying25 hf
  have hd1 := ((Prod.mk.injEq _ _ _ _).mp hd2).1
  match xs, hxl, cl, hcs with
  | [y0, y1, y2, y3, y4], _, [c0, c1, c2, c3, c4], _ =>
    have g0 := hfs 0 _ rfl
    have g1 := hfs 1 _ rfl
    have g2 := hfs 2 _ rfl
    have g3 := hfs 3 _ rfl
    have g4 := hfs 4 _ rfl
    simp [cells22, cells23] at g0 g1 g2 g3 g4
    rw [hd1] at hd
    have hz := fields_sized hsz ht hd
    obtain ⟨l0, d0, r0, x0, n0, s0, o0⟩ := rows_cell zN (by omega) (0 : Int) Try.underlying22 cells3 (fun _ _ => True) int_cells g0
    obtain ⟨l3, d3, r3, x3, n3, s3, o3⟩ := rows_cell zN (by omega) (0 : Int) Try.underlying22 cells3 (fun _ _ => True) int_cells g3
    obtain ⟨a1, n1, e1, rfl⟩ := any_slice Try.underlying23 g1
    obtain ⟨a2, n2, e2, rfl⟩ := any_slice Try.underlying22 g2
    obtain ⟨a4, n4, e4, rfl⟩ := any_slice Try.underlying22 g4
    have x0' : Rn W c0 l0 := x0
    have x3' : Rn W c3 l3 := x3
    obtain ⟨a0, e0, rfl, _, _⟩ := x0'.shape
    obtain ⟨a3, e3, rfl, _, _⟩ := x3'.shape
    exact ⟨l0, l3, ⟨a0, e0, a1, n1, e1, a2, n2, e2, a3, e3, a4, n4, e4, rfl, x0', x3'⟩, len_of hz (j := 0) rfl rfl s0 n0, len_of hz (j := 3) rfl rfl s3 n3⟩
end
end Go.Proofs.Ytfeombhileiamaa.into
