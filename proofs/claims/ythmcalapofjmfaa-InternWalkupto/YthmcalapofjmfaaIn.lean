/-
  What a walk is told of the texts that came in.
-/
import Derived.Test.YthmcalapofjmfaaRows
import Derived.Test.YthmcalapofjmfaaText
import Derived.WalkKit
import Derived.ProofKit
import Derived.OpenShut
import Derived.ShutString
import Derived.ChangeOld
import Derived.Below
import Derived.SizedLaws
import Derived.SliceStrings
import Derived.Lib.SmallJoins
namespace Go.Proofs.Ythmcalapofjmfaa
open Go.ChangeShapes Go.WideShapes Go.ChangeAt Go.RowKit Go.Joins
set_option linter.unusedVariables false

theorem own : ownKnob Try.prog.godebug = none := by kernel_rfl
theorem laidOut : laidOutB Try.prog = true := by kernel_rfl
theorem cells9 : Try.prog.cellsOf 9 = 1 := by kernel_rfl
theorem bytes9 : Try.prog.bytesOf 9 = 16 := by kernel_rfl

theorem slice_at {P : Program} {w : World} {r : Reach} {base : Nat} {t e : TypeId} {a : Addr} {len cap : Nat} (ht : P.underlying t = some (.slice e)) (h : Value.okWide P w r base t (.slice (some a) len cap)) :
    a.spot = none ∧ a.block < w.heap.size := by
  simp only [Value.okWide, ht, Cell.okWide, Cell.ok] at h
  obtain ⟨_, _, _, hs, row, cells, hsh, _⟩ := h
  refine ⟨hs, ?_⟩
  by_cases hlt : a.block < w.heap.size
  · exact hlt
  · simp [World.shape?, Array.getElem?_eq_none (Nat.le_of_not_lt hlt)] at hsh

theorem inS {H : Type} {enc : TypeId × Value → H} {W : World} {base : Nat} {a : Option Addr} {len cap : Nat} {d : DataW H} {p : List MemPlace}
    (hv : Value.okWide Try.prog W .any base 26 (.slice a len cap)) (h : ∃ f, DataW.trod enc Try.prog W 0 (fun _ => true) true f 26 (Value.slice a len cap).cells.toList = some (d, p))
    (hsz : ∀ el sp, d = .slice el sp → (el.length + sp.length) * Try.prog.bytesOf 9 ≤ reachBytes) :
    ∃ rs, Rt W (.slice a len cap) rs ∧ (∀ i, i < rs.length → (tx rs i).size ≤ maxLen) ∧ rs.length ≤ 8796093021952 := by
  obtain ⟨fuel, hf⟩ := h
  rcases open_strings Try.underlying26 Try.underlying9 cells9 hf with ⟨hcs, _⟩ | ⟨x, l, c, ss, hcs, _, hl, hm, hz, hd, hcell, hwz⟩
  · simp [Value.cells] at hcs
    obtain ⟨rfl, rfl, rfl⟩ := hcs
    exact ⟨[], ⟨none, 0, rfl, Nat.le_refl _, Nat.zero_le _, fun i hi => by simp at hi⟩, fun i hi => by simp at hi, Nat.zero_le _⟩
  · simp [Value.cells] at hcs
    obtain ⟨rfl, rfl, rfl⟩ := hcs
    obtain ⟨hs, hb⟩ := slice_at Try.underlying26 hv
    obtain ⟨b, off, spot⟩ := x
    simp at hs hb
    subst hs
    have hzl : ss.length = cap := by simpa using hz
    have htl : (ss.take len).length = len := by simp; omega
    have hd1 := ((Prod.mk.injEq _ _ _ _).mp hd).1
    refine ⟨ss.take len, ⟨_, cap, by rw [htl], by omega, hm, fun i hi => ⟨b, off, rfl, hb, ?_⟩⟩, fun i hi => ?_, ?_⟩
    · rw [tx_take (by omega), ← Go.WideShapes.add_plain]
      exact hcell i (by omega)
    · rw [tx_take (by omega)]
      exact hwz _ (tx_mem (by omega))
    · have := hsz _ _ hd1
      rw [bytes9] at this
      simp only [strs, List.length_map] at this
      unfold reachBytes at this
      omega
end Go.Proofs.Ythmcalapofjmfaa
