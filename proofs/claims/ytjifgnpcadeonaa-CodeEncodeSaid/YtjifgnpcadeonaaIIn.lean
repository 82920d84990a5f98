/-
  A list of instructions that came in.
-/
import Derived.Test.YtjifgnpcadeonaaRows
import Derived.Test.YtjifgnpcadeonaaIRow
import Derived.ProofKit
import Derived.OpenShut
import Derived.ShutString
import Derived.ChangeOld
import Derived.SizedLaws
import Derived.SliceStrings
import Derived.Lib.SmallJoins
namespace Go.Proofs.Ytjifgnpcadeonaa.into
open Go.ChangeShapes Go.WideShapes Go.ChangeAt Go.RowKit Go.Joins
set_option linter.unusedVariables false

theorem own : ownKnob Try.prog.godebug = none := by kernel_rfl
theorem laidOut : laidOutB Try.prog = true := by kernel_rfl
theorem cells34 : Try.prog.cellsOf 34 = 2 := by kernel_rfl
theorem cells3 : Try.prog.cellsOf 3 = 1 := by kernel_rfl
theorem cells2 : Try.prog.cellsOf 2 = 1 := by kernel_rfl
theorem bytes34 : Try.prog.bytesOf 34 = 16 := by kernel_rfl
theorem slice_at {P : Program} {w : World} {r : Reach} {base : Nat} {t e : TypeId} {a : Addr} {len cap : Nat} (ht : P.underlying t = some (.slice e)) (h : Value.okWide P w r base t (.slice (some a) len cap)) :
    a.spot = none ∧ a.block < w.heap.size := by
  simp only [Value.okWide, ht, Cell.okWide, Cell.ok] at h
  obtain ⟨_, _, _, hs, row, cells, hsh, _⟩ := h
  refine ⟨hs, ?_⟩
  by_cases hlt : a.block < w.heap.size
  · exact hlt
  · simp [World.shape?, Array.getElem?_eq_none (Nat.le_of_not_lt hlt)] at hsh
theorem spot_none {w : World} {a : Addr} {v : Value} (h : w.cell? a = some v) : a.spot = none := by
  unfold World.cell? at h
  cases e : a.spot with
  | none => rfl
  | some s => simp [e] at h <;> (split at h <;> simp at h)
theorem add_zero' (a : Addr) : a.add 0 = a := by unfold Addr.add; rw [if_pos rfl]
theorem addr_add (b off i j : Nat) : ((⟨b, off, none⟩ : Addr).add i).add j = ⟨b, off + i + j, none⟩ := by
  rw [Go.WideShapes.add_plain, Go.WideShapes.add_plain]
theorem weights_mem_all {H : Type} {P : Program} {e : TypeId} : ∀ {l : List (DataW H)} {d : DataW H}, d ∈ l → ∀ n ∈ d.weights P e, n ∈ DataW.weightsAll P e l
  | d0 :: l, d, h, n, hn => by
    simp only [DataW.weightsAll, List.mem_append]
    rcases List.mem_cons.1 h with rfl | h
    · exact .inl hn
    · exact .inr (weights_mem_all h n hn)
set_option maxRecDepth 100000 in
/-- A value, out of two cells. -/
theorem val_cells {H : Type} {enc : TypeId × Value → H} {W : World} {n : Nat} {cs : List Value} {y : DataW H × List MemPlace} (hl : cs.length = 2) (h : DataW.trod enc Try.prog W 0 (fun _ => true) true n 34 cs = some y) :
    ∃ k m : Int, cs = [.int .i64 k, .int .i64 m] ∧ I64 k ∧ I64 m := by
  obtain ⟨xs, q, _, rfl, _, hxl, hfs⟩ := DataW.trod_struct Try.underlying34 h
  match xs, hxl, cs, hl with
  | [y0, y1], _, [c0, c1], _ =>
    have g0 := hfs 0 _ rfl
    have g1 := hfs 1 _ rfl
    simp [cells3, cells2] at g0 g1
    obtain ⟨k, e0, rfl, wk⟩ := DataW.trod_int Try.underlying3 g0
    obtain ⟨m, e1, rfl, wm⟩ := DataW.trod_int Try.underlying2 g1
    simp at e0 e1
    subst e0 e1
    obtain ⟨l0, u0⟩ := bounds_i64 wk
    obtain ⟨l1, u1⟩ := bounds_i64 wm
    exact ⟨k, m, rfl, ⟨by omega, by omega⟩, ⟨by omega, by omega⟩⟩
set_option maxRecDepth 100000 in
/-- A list of values, out of its one cell. -/
theorem list_cell {H : Type} {enc : TypeId × Value → H} {W : World} {n : Nat} {c : Value} {y : DataW H × List MemPlace} (hy : DataW.trod enc Try.prog W 0 (fun _ => true) true n 22 [c] = some y) (hsz : ∀ m ∈ y.1.weights Try.prog 22, m ≤ reachBytes) :
    ∃ l, RtV W c l ∧ l.length ≤ 8796093021952 ∧ ∀ p ∈ l, I64 p.1 ∧ I64 p.2 := by
  rcases DataW.trod_slice Try.underlying22 hy with ⟨hcs, _⟩ | ⟨x, l, cap, elems, rest, q, _, hcs, hd, _, hl, hm, hlen, hel, _, _⟩
  · simp at hcs
    subst hcs
    exact ⟨[], ⟨none, 0, rfl, Nat.le_refl _, Nat.zero_le _, fun i p hi => by simp at hi⟩, Nat.zero_le _, fun p hp => by simp at hp⟩
  · simp at hcs
    subst hcs
    have hd1 := ((Prod.mk.injEq _ _ _ _).mp hd).1
    have hw := hsz (((elems.map (·.1)).length + (rest.map (·.1)).length) * Try.prog.bytesOf 34) (by rw [hd1]; simp [DataW.weights, Try.underlying22])
    rw [bytes34] at hw
    simp only [List.length_map] at hw
    unfold reachBytes at hw
    rw [cells34] at hel
    have hex : ∀ i, ∃ p : Int × Int, i < l → (I64 p.1 ∧ I64 p.2) ∧ ∃ b off, x = ⟨b, off, none⟩ ∧ b < W.heap.size ∧ W.cell? ⟨b, off + i * 2, none⟩ = some (.int .i64 p.1) ∧ W.cell? ⟨b, off + i * 2 + 1, none⟩ = some (.int .i64 p.2) := fun i => by
      by_cases hi : i < l
      · have hi' : i < elems.length := by omega
        have hy2 : elems[i]? = some (elems[i]'hi') := List.getElem?_eq_getElem hi'
        have hb := (hel i hi).trans hy2
        rw [Option.bind_eq_some_iff] at hb
        obtain ⟨cs, hcs, hyy⟩ := hb
        obtain ⟨_, hlen2, hcell⟩ := World.cells?_some hcs
        obtain ⟨k, m, rfl, hk, hm2⟩ := val_cells hlen2 hyy
        have f0 := hcell 0 (by omega)
        have f1 := hcell 1 (by omega)
        simp at f0 f1
        -- where it begins
        have hb0 := (hel 0 (by omega)).trans (List.getElem?_eq_getElem (show 0 < elems.length by omega))
        rw [Option.bind_eq_some_iff] at hb0
        obtain ⟨cs0, hcs0, _⟩ := hb0
        obtain ⟨_, hlen0, hcell0⟩ := World.cells?_some hcs0
        have z0 := hcell0 0 (by omega)
        rw [Nat.zero_mul, add_zero', add_zero'] at z0
        match cs0, hlen0 with
        | [d0, d1], _ =>
          simp at z0
          have hs := spot_none z0
          clear hel hcell hcell0 hcs hcs0
          obtain ⟨b, off, spot⟩ := x
          simp at hs
          subst hs
          simp only [Go.WideShapes.add_plain] at f0 f1
          exact ⟨(k, m), fun _ => ⟨⟨hk, hm2⟩, b, off, rfl, World.block_lt_of_cell? _ _ z0, by simpa using f0, by simpa [Nat.add_assoc] using f1⟩⟩
      · exact ⟨(0, 0), fun h => absurd h hi⟩
    obtain ⟨f, hf⟩ := Classical.axiomOfChoice hex
    refine ⟨(List.range l).map f, ⟨some x, cap, by simp, by simp; omega, hm, fun i p hp => ?_⟩, by simp; omega, fun p hp => ?_⟩
    rotate_left
    · obtain ⟨i, hi, rfl⟩ := List.mem_map.1 hp
      exact (hf i (List.mem_range.1 hi)).1
    have hi : i < l := by
      have := (List.getElem?_eq_some_iff.1 hp).1
      simpa using this
    have e : p = f i := by simp [hi] at hp; exact hp.symm
    obtain ⟨_, b, off, rfl, r1, r2, r3⟩ := hf i hi
    rw [e]
    exact ⟨b, off, rfl, r1, r2, r3⟩

/-- A list of instructions as it came in. -/
theorem inI {H : Type} {enc : TypeId × Value → H} {W : World} {a : Option Addr} {len cap : Nat} {d : DataW H} {p : List MemPlace} (h : DataW.Trod enc Try.prog W 0 (fun _ => true) true 22 (.slice a len cap) d p) (hsz : ∀ m ∈ d.weights Try.prog 22, m ≤ reachBytes) :
    ∃ l, RtV W (.slice a len cap) l ∧ l.length ≤ 8796093021952 ∧ ∀ p ∈ l, I64 p.1 ∧ I64 p.2 := by
  obtain ⟨n, hn⟩ := h
  exact list_cell (y := (d, p)) (by simpa [Value.cells] using hn) hsz
end Go.Proofs.Ytjifgnpcadeonaa.into
