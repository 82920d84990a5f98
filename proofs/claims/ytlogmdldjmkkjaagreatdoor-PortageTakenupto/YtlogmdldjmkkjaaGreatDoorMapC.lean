/-
  The map of constants.
-/
import Derived.Test.YtlogmdldjmkkjaaGreatDoorNames
import Derived.DeepKeys5
namespace Go.Proofs.YtlogmdldjmkkjaaGreatDoor
open Go.RowKit Go.Maps
noncomputable section
open Classical
set_option linter.unusedVariables false
set_option linter.unusedSimpArgs false
def OkC (c : Cn) : Prop := (Lit.int .i64 c.kind).wf = true ∧ (Lit.int .i64 c.n).wf = true ∧ c.text.size ≤ maxLen
def kyC (c : Cn) : Lit := .string (keyBytes [.int .i64 c.kind, .int .i64 c.n, .string c.text.data.toList])
theorem typesC : Tryz.prog.types.size + 1 = 323 + 1 + 1 := by kernel_rfl
theorem keyTypeC : Tryz.prog.keyType 69 = true := by kernel_rfl
theorem cellC39 : Tryz.prog.cellsOf 69 = 3 := by kernel_rfl
theorem cellC3 : Tryz.prog.cellsOf 3 = 1 := by kernel_rfl
theorem cellC2 : Tryz.prog.cellsOf 2 = 1 := by kernel_rfl
theorem cellC9 : Tryz.prog.cellsOf 9 = 1 := by kernel_rfl
theorem lits3 (k : Int) (h : (Lit.int .i64 k).wf = true) : Tryz.prog.keyLits 324 3 [.int .i64 k] = some [.int .i64 k] := by unfold Program.keyLits; simp [Tryz.underlying3, h]
theorem lits2 (k : Int) (h : (Lit.int .i64 k).wf = true) : Tryz.prog.keyLits 324 2 [.int .i64 k] = some [.int .i64 k] := by unfold Program.keyLits; simp [Tryz.underlying2, h]
theorem lits9 (t : ByteArray) (h : t.size ≤ maxLen) : Tryz.prog.keyLits 324 9 [.string t] = some [.string t.data.toList] := by unfold Program.keyLits; simp [Tryz.underlying9, h]
theorem kyC_of {c : Cn} (h : OkC c) : keyOf Tryz.prog 69 (.agg #[.int .i64 c.kind, .int .i64 c.n, .string c.text]) = some (kyC c) := by
  obtain ⟨h1, h2, h3⟩ := h
  have e : Tryz.prog.keyLits (323 + 1 + 1) 69 [.int .i64 c.kind, .int .i64 c.n, .string c.text] = some [.int .i64 c.kind, .int .i64 c.n, .string c.text.data.toList] := by
    unfold Program.keyLits
    split
    all_goals first | (rename_i e2; rw [Tryz.underlying69] at e2; cases e2; done) | skip
    all_goals first | (simp_all [Tryz.underlying69]; done) | skip
    rename_i fs heq
    rw [Tryz.underlying69] at heq
    cases heq
    rw [if_pos ⟨by rw [cellC39]; rfl, by first | kernel_rfl | simp⟩]
    have l3 := lits3 _ h1
    have l2 := lits2 _ h2
    have l9 := lits9 _ h3
    simp [cellC3, cellC2, cellC9, l3, l2, l9]
  unfold keyOf
  simp only [Tryz.underlying69]
  rw [keyTypeC]
  have ef : (Value.agg #[.int .i64 c.kind, .int .i64 c.n, .string c.text]).formed Tryz.prog 69 = true := by simp [Value.formed, Tryz.underlying69, cellC39]
  rw [ef, typesC]
  simp only [Bool.and_self, if_true, Value.cells]
  rw [e]
  rfl
theorem laidOutC : Go.laidOutB Tryz.prog = true := by kernel_rfl
theorem lawC : Keyed Tryz.prog 69 := Keyed.of_law (deep_law_laid (m := 100) laidOutC (by omega) (of_decide_eq_true (by kernel_rfl)) (by kernel_rfl) (by kernel_rfl))
theorem kyC_inj {c d : Cn} (hc : OkC c) (hd : OkC d) (h : kyC c = kyC d) : c = d := by
  have := lawC.inj (kyC_of hc) (by rw [h]; exact kyC_of hd)
  cases c; cases d
  simp at this
  simp [this]
theorem kyC_key (c : Cn) : WideAt.IsKeyLit (kyC c) := trivial
theorem zeroEC (w : World) : (zeroValue 3).run Tryz.prog w = .ok (.int .i64 0) w := by kernel_rfl
/-- Block b is a map of n entries, from constants to numbers. -/
def MfC (w : World) (b n : Nat) (f : Cn → Option Nat) : Prop :=
  ∃ D : DataW Unit, w.ownsMap Tryz.prog 69 (plainElem Tryz.prog 3) b n D ∧ Maps.size D = n ∧
    ∀ s, OkC s → Maps.has D (kyC s) = (f s).isSome ∧ D.atKey (kyC s) (.lit (.int .i64 0)) = .lit (.int .i64 (((f s).getD 0 : Nat) : Int))

theorem MfC.lt {w : World} {b n : Nat} {f : Cn → Option Nat} (h : MfC w b n f) : b < w.heap.size := by
  obtain ⟨D, h1, _⟩ := h
  exact h1.lt
theorem MfC.keep {w w' : World} {b n : Nat} {f : Cn → Option Nat} (h : MfC w b n f) (hb : w'.heap[b]? = w.heap[b]?) : MfC w' b n f := by
  obtain ⟨D, ⟨es, clock, h1, h2⟩, h3⟩ := h
  exact ⟨D, ⟨es, clock, hb.trans h1, h2⟩, h3⟩
theorem MfC.congr {w : World} {b n : Nat} {f g : Cn → Option Nat} (h : MfC w b n f) (e : ∀ s, f s = g s) : MfC w b n g := by
  obtain rfl : f = g := funext e
  exact h
theorem MfC.made (w : World) : MfC (w.alloc (.map #[] 0)) w.heap.size 0 (fun _ => none) :=
  ⟨.map [], World.ownsMap_made _ _ _ _, rfl, fun s _ => ⟨rfl, rfl⟩⟩
theorem MfC.look {w : World} {b n : Nat} {f : Cn → Option Nat} (h : MfC w b n f) (s : Cn) (hs : OkC s) :
    (Instr.lookup 212 (.map (some b)) (.agg #[.int .i64 s.kind, .int .i64 s.n, .string s.text]) true).run Tryz.prog w = .ok (.tuple #[.int .i64 (((f s).getD 0 : Nat) : Int), .bool (f s).isSome]) w := by
  obtain ⟨D, h1, h2, h3⟩ := h
  obtain ⟨v, ps, hrun, hv⟩ := h1.look_ok lawC Tryz.underlying212 (zeroEC w) (plainElem_int Tryz.underlying3 (by decide)) (kyC_of hs)
  obtain ⟨c, rfl, hc, _⟩ := plainElem_int_inv Tryz.underlying3 hv
  obtain ⟨e1, e2⟩ := h3 s hs
  simp only [Prod.mk.injEq] at hc
  rw [e2] at hc
  rw [hrun, e1]
  have := hc.1
  simp only [DataW.lit.injEq, Lit.int.injEq, true_and] at this
  rw [this]

theorem MfC.put {w : World} {b n : Nat} {f : Cn → Option Nat} (h : MfC w b n f) (s : Cn) (hs : OkC s) (hf : f s = none) (i : Nat) (hi : i < 9223372036854775808) (hn : n < maxLen) :
    ∃ w', (Instr.mapUpdate 212 (.map (some b)) (.agg #[.int .i64 s.kind, .int .i64 s.n, .string s.text]) (.int .i64 (i : Int))).run Tryz.prog w = .ok () w' ∧ MfC w' b (n + 1) (fun t => if t = s then some i else f t) ∧ w.grownBy w' (some b) := by
  obtain ⟨D, h1, h2, h3⟩ := h
  have hwf : (Lit.int .i64 (i : Int)).wf = true := WalkArith.wf_i64 (by omega)
  obtain ⟨w', hrun, r1, r2⟩ := h1.update lawC Tryz.underlying212 hn (kyC_of hs) (plainElem_int Tryz.underlying3 hwf)
  have hno : Maps.has D (kyC s) = false := by rw [(h3 s hs).1, hf]; rfl
  refine ⟨w', hrun, ⟨_, r1, ?_, fun t ht => ?_⟩, r2⟩
  · rw [size_put (h1.tidy lawC), hno]
    simp [h2]
  · show _ = (if t = s then some i else f t).isSome ∧ _ = DataW.lit (.int .i64 (((if t = s then some i else f t).getD 0 : Nat) : Int))
    by_cases e : t = s
    · subst e
      rw [if_pos rfl, has_put_same h1.isMap (kyC_key t), atKey_put_same h1.isMap (kyC_key t)]
      exact ⟨rfl, rfl⟩
    · rw [if_neg e, has_put_other (fun q => e (kyC_inj ht hs q)), atKey_put_other (fun q => e (kyC_inj ht hs q))]
      exact h3 t ht


end
end Go.Proofs.YtlogmdldjmkkjaaGreatDoor
