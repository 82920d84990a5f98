/-
  The map of spots; meet.
-/
import Derived.Test.YtlogmdldjmkkjaaGreatDoorVClo
import Derived.Test.YtlogmdldjmkkjaaGreatDoorMapC
import Derived.Maps.OwnSet
namespace Go.Proofs.YtlogmdldjmkkjaaGreatDoor
open Go.RowKit Go.Maps
noncomputable section
open Classical
set_option linter.unusedVariables false
set_option linter.unusedSimpArgs false
abbrev Spot := Int × Int
def OkS (s : Spot) : Prop := (Lit.int .i64 s.1).wf = true ∧ (Lit.int .i64 s.2).wf = true
theorem OkS.of {a b : Int} (h1 : -9223372036854775808 ≤ a) (h2 : a < 9223372036854775808) (h3 : -9223372036854775808 ≤ b) (h4 : b < 9223372036854775808) : OkS (a, b) := ⟨WalkArith.wf_i64 (by omega), WalkArith.wf_i64 (by omega)⟩
def kyS (c : Spot) : Lit := .string (keyBytes [.int .i64 c.1, .int .i64 c.2])
theorem keyTypeS : Tryz.prog.keyType 242 = true := by kernel_rfl
theorem cellS95 : Tryz.prog.cellsOf 242 = 2 := by kernel_rfl
theorem kyS_of {c : Spot} (h : OkS c) : keyOf Tryz.prog 242 (.agg #[.int .i64 c.1, .int .i64 c.2]) = some (kyS c) := by
  obtain ⟨h1, h2⟩ := h
  have e : Tryz.prog.keyLits (323 + 1 + 1) 242 [.int .i64 c.1, .int .i64 c.2] = some [.int .i64 c.1, .int .i64 c.2] := by
    unfold Program.keyLits
    split
    all_goals first | (rename_i e2; rw [Tryz.underlying242] at e2; cases e2; done) | skip
    all_goals first | (simp_all [Tryz.underlying242]; done) | skip
    rename_i fs heq
    rw [Tryz.underlying242] at heq
    cases heq
    rw [if_pos ⟨by rw [cellS95]; rfl, by first | kernel_rfl | simp⟩]
    have l3 := lits3 _ h1
    have l2 := lits3 _ h2
    simp [cellC3, l3, l2]
  unfold keyOf
  simp only [Tryz.underlying242]
  rw [keyTypeS]
  have ef : (Value.agg #[.int .i64 c.1, .int .i64 c.2]).formed Tryz.prog 242 = true := by simp [Value.formed, Tryz.underlying242, cellS95]
  rw [ef, typesC]
  simp only [Bool.and_self, if_true, Value.cells]
  rw [e]
  rfl
theorem lawS : Keyed Tryz.prog 242 := Keyed.of_law (deep_law_laid (m := 100) laidOutC (by omega) (of_decide_eq_true (by kernel_rfl)) (by kernel_rfl) (by kernel_rfl))
theorem kyS_inj {c d : Spot} (hc : OkS c) (hd : OkS d) (h : kyS c = kyS d) : c = d := by
  have := lawS.inj (kyS_of hc) (by rw [h]; exact kyS_of hd)
  cases c; cases d
  simp at this
  simp [this]
theorem kyS_key (c : Spot) : WideAt.IsKeyLit (kyS c) := trivial
theorem zeroES (w : World) : (zeroValue 243).run Tryz.prog w = .ok (.agg #[]) w := by kernel_rfl
/-- A value without cells. -/
def R0 (v : Value) : Option (DataW Unit × List MemPlace) := if v = .agg #[] then some (.agg [], []) else none
theorem R0_of : R0 (.agg #[]) = some (.agg [], []) := if_pos rfl
theorem R0_inv {v : Value} {z : DataW Unit × List MemPlace} (h : R0 v = some z) : v = .agg #[] := by
  unfold R0 at h
  split at h
  · assumption
  · cases h
/-- Block b is a map whose keys are these spots. -/
def MS (w : World) (b : Nat) (M : List Spot) : Prop :=
  ∃ D : DataW Unit, w.ownsMap Tryz.prog 242 R0 b M.length D ∧ ∀ s, OkS s → Maps.has D (kyS s) = decide (s ∈ M)
theorem MS.lt {w : World} {b : Nat} {M : List Spot} (h : MS w b M) : b < w.heap.size := by
  obtain ⟨D, h1, _⟩ := h
  exact h1.lt
theorem MS.keep {w w' : World} {b : Nat} {M : List Spot} (h : MS w b M) (hb : w'.heap[b]? = w.heap[b]?) : MS w' b M := by
  obtain ⟨D, ⟨es, clock, h1, h2⟩, h3⟩ := h
  exact ⟨D, ⟨es, clock, hb.trans h1, h2⟩, h3⟩
theorem MS.made (w : World) : MS (w.alloc (.map #[] 0)) w.heap.size [] :=
  ⟨.map [], World.ownsMap_made _ _ _ _, fun s _ => by simp [Maps.has]⟩
theorem MS.look {w : World} {b : Nat} {M : List Spot} (h : MS w b M) (s : Spot) (hs : OkS s) :
    (Instr.lookup 239 (.map (some b)) (.agg #[.int .i64 s.1, .int .i64 s.2]) true).run Tryz.prog w = .ok (.tuple #[.agg #[], .bool (decide (s ∈ M))]) w := by
  obtain ⟨D, h1, h3⟩ := h
  obtain ⟨v, ps, hrun, hv⟩ := h1.look_ok lawS Tryz.underlying239 (zeroES w) R0_of (kyS_of hs)
  rw [hrun, h3 s hs, R0_inv hv]
theorem MS.put {w : World} {b : Nat} {M : List Spot} (h : MS w b M) (s : Spot) (hs : OkS s) (hn : M.length < maxLen) :
    ∃ w', (Instr.mapUpdate 239 (.map (some b)) (.agg #[.int .i64 s.1, .int .i64 s.2]) (.agg #[])).run Tryz.prog w = .ok () w' ∧ MS w' b (s :: M) ∧ w.grownBy w' (some b) := by
  obtain ⟨D, h1, h3⟩ := h
  obtain ⟨w', hrun, r1, r2⟩ := h1.update lawS Tryz.underlying239 hn (kyS_of hs) R0_of
  refine ⟨w', hrun, ⟨_, r1, fun t ht => ?_⟩, r2⟩
  by_cases e : t = s
  · subst e
    rw [has_put_same h1.isMap (kyS_key t)]
    simp
  · rw [has_put_other (fun q => e (kyS_inj ht hs q)), h3 t ht]
    simp [e]
end
end Go.Proofs.YtlogmdldjmkkjaaGreatDoor
