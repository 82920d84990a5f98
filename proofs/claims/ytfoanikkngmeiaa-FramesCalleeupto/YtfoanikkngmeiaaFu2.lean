/-
  Which function a number names; what a frame takes.
-/
import Derived.Test.YtfoanikkngmeiaaGen
import Derived.Test.YtfoanikkngmeiaaFind0
import Derived.Laws.ResultCell
namespace Go.Proofs.Ytfoanikkngmeiaa
open Go.RowKit
set_option linter.unusedVariables false
set_option linter.unusedSimpArgs false
/-- The function of a number. -/
def fnAt (p : Pg) (k : Int) : Option Fc := if 0 ≤ k then p.funcs[k.toNat]? else none
def fc0 : Fc := ⟨ByteArray.empty, 0, 0, [], []⟩
theorem fnAt_some {p : Pg} {k : Int} {f : Fc} (h : fnAt p k = some f) : 0 ≤ k ∧ k < p.funcs.length ∧ p.funcs[k.toNat]? = some f := by
  unfold fnAt at h
  split at h
  · have := (List.getElem?_eq_some_iff.1 h).1
    exact ⟨by assumption, by omega, h⟩
  · cases h
theorem fnAt_none {p : Pg} {k : Int} (h : fnAt p k = none) : k < 0 ∨ (p.funcs.length : Int) ≤ k := by
  unfold fnAt at h
  split at h
  · have := List.getElem?_eq_none_iff.1 h
    omega
  · omega
/-- What is answered of a function. -/
def FuP (w : World) (o : Option Fc) (e : Ending) (w' : World) : Prop := ∃ x : Fv, e = .returned (.tuple #[.agg #[.string x.name, .int .i64 x.params, .int .i64 x.locals, x.cv, x.hv], .bool o.isSome]) ∧ FnV w (o.getD fc0) x ∧ Below w.heap.size w w'
set_option maxRecDepth 100000 in
set_option maxHeartbeats 3200000 in
theorem function_any {w : World} {v : Value} {p : Pg} (h : PgV w v p) (k : Int) (hN : p.funcs.length ≤ 1048576) :
    Calls Try.prog 28 #[v, .int .i64 k] w (FuP w (fnAt p k)) := by
  obtain ⟨cv, fv, rfl, hc, hf⟩ := h
  obtain ⟨ca, cc, rfl⟩ : ∃ a c, cv = .slice a p.consts.length c := by obtain ⟨_, a, c, e, _⟩ := hc; exact ⟨a, c, e⟩
  obtain ⟨a, cap, rfl, hlc, hcm, hat⟩ := hf.at
  obtain ⟨NF, hNF⟩ : ∃ n, Hid (p.funcs.length = n) := ⟨_, hide rfl⟩
  rw [unhide hNF] at hN hlc ⊢
  unfold maxLen at hcm
  have HBE : Hid (∀ o1 o2, Below w.heap.size w ((w.alloc o1).alloc o2)) := fun o1 o2 => ((Below.refl _ w).alloc (Nat.le_refl _) o1).alloc (by simp only [World.size_alloc]; omega) o2
  cases hq : fnAt p k with
  | none =>
    have hk := fnAt_none hq
    rw [unhide hNF] at hk
    clear hat hf hc hq
    by_cases kz : k < 0
    · have kz' : decide (k < 0) = true := decide_eq_true kz
      clear hk
      go_enter Try.func28, Try.ntmps28
      go_wp2_with fail
      refine bodyPost_ret (v := .tuple #[.agg #[.string ByteArray.empty, .int .i64 0, .int .i64 0, .slice none 0 0, .slice none 0 0], .bool false]) ?_ rfl ?_
      · rw [results_cell_tmp rfl]
        go_simp
        rfl
      · exact ⟨⟨ByteArray.empty, 0, 0, .slice none 0 0, .slice none 0 0⟩, rfl, ⟨rfl, rfl, rfl, by simpa [flt, fc0] using Rx.nil w 2, by simpa [flt, fc0] using Rx.nil w 4⟩, unhide HBE _ _⟩
    · have kz' : decide (k < 0) = false := decide_eq_false kz
      have kn : decide ((NF : Int) ≤ k) = true := decide_eq_true (by omega)
      clear hk kz
      go_enter Try.func28, Try.ntmps28
      go_wp2_with fail
      refine bodyPost_ret (v := .tuple #[.agg #[.string ByteArray.empty, .int .i64 0, .int .i64 0, .slice none 0 0, .slice none 0 0], .bool false]) ?_ rfl ?_
      · rw [results_cell_tmp rfl]
        go_simp
        rfl
      · exact ⟨⟨ByteArray.empty, 0, 0, .slice none 0 0, .slice none 0 0⟩, rfl, ⟨rfl, rfl, rfl, by simpa [flt, fc0] using Rx.nil w 2, by simpa [flt, fc0] using Rx.nil w 4⟩, unhide HBE _ _⟩
  | some f =>
    obtain ⟨k0, k1, hk⟩ := fnAt_some hq
    obtain ⟨b, off, x, rfl, hb, hx, hcs⟩ := hat _ f hk
    obtain ⟨K, hK⟩ : ∃ K : Nat, Hid (k.toNat = K) := ⟨_, hide rfl⟩
    rw [unhide hK] at hcs hk
    obtain rfl : k = (K : Int) := by have := unhide hK; omega
    obtain ⟨a1, c1, a2, c2, rfl⟩ := hx.parts
    have g0 := hcs 0 _ rfl
    have g1 := hcs 1 _ rfl
    have g2 := hcs 2 _ rfl
    have g3 := hcs 3 _ rfl
    have g4 := hcs 4 _ rfl
    rw [Nat.add_zero] at g0
    rw [unhide hNF] at k1
    have kz : decide ((K : Int) < 0) = false := decide_eq_false (by omega)
    have kn : decide ((NF : Int) ≤ (K : Int)) = false := decide_eq_false (by omega)
    have HX := hide hx
    clear hat hf hc hq hcs hk hx hK
    go_enter Try.func28, Try.ntmps28
    go_wp2_with fail
    refine bodyPost_ret (v := .tuple #[.agg #[.string f.name, .int .i64 f.params, .int .i64 f.locals, .slice a1 f.code.length c1, .slice a2 f.hs.length c2], .bool true]) ?_ rfl ?_
    · rw [results_cell_tmp rfl]
      go_simp
    · exact ⟨_, rfl, unhide HX, unhide HBE _ _⟩
end Go.Proofs.Ytfoanikkngmeiaa
