/-
  The book's map.
-/
import Derived.DeepKeys5
import Derived.Maps.RangeWalk
import Derived.Test.YtjjfpokmpcpicaaPB
namespace Go.Proofs.Ytjjfpokmpcpicaa
open Go.RowKit Go.Maps
noncomputable section
open Classical
set_option linter.unusedVariables false
set_option linter.unusedSimpArgs false
def OkV (c : Int × Int) : Prop := (Lit.int .i64 c.1).wf = true ∧ (Lit.int .i64 c.2).wf = true
def kyV (c : Int × Int) : Lit := .string (keyBytes [.int .i64 c.1, .int .i64 c.2])
def plV (c : Int × Int) : Value := .agg #[.int .i64 c.1, .int .i64 c.2]
theorem cellVp : Try.prog.cellsOf 78 = 2 := by kernel_rfl
theorem cellV3 : Try.prog.cellsOf 3 = 1 := by kernel_rfl
theorem keyTypeV : Try.prog.keyType 78 = true := by kernel_rfl
set_option maxRecDepth 100000 in
theorem litsV3 (n : Nat) (k : Int) (h : (Lit.int .i64 k).wf = true) : Try.prog.keyLits (n + 1) 3 [.int .i64 k] = some [.int .i64 k] := by unfold Program.keyLits; simp [Try.underlying3, h]
set_option maxRecDepth 100000 in
theorem litsV3_inv {n : Nat} {v : Value} {l : List Lit} (h : Try.prog.keyLits (n + 1) 3 [v] = some l) : ∃ k, v = .int .i64 k ∧ (Lit.int .i64 k).wf = true := by
  unfold Program.keyLits at h
  rw [Try.underlying3] at h
  cases v <;> simp at h
  obtain ⟨⟨rfl, h1⟩, _⟩ := h
  exact ⟨_, rfl, h1⟩
theorem typesV : ∃ n, Try.prog.types.size + 1 = n + 1 + 1 := ⟨Try.prog.types.size - 1, by
  have : 0 < Try.prog.types.size := of_decide_eq_true (by kernel_rfl)
  omega⟩
set_option maxRecDepth 100000 in
theorem kyV_of {c : Int × Int} (h : OkV c) : keyOf Try.prog 78 (plV c) = some (kyV c) := by
  obtain ⟨h1, h2⟩ := h
  obtain ⟨n, hn⟩ := typesV
  have e : Try.prog.keyLits (n + 1 + 1) 78 [.int .i64 c.1, .int .i64 c.2] = some [.int .i64 c.1, .int .i64 c.2] := by
    unfold Program.keyLits
    split
    all_goals first | (rename_i e2; rw [Try.underlying78] at e2; cases e2; done) | skip
    all_goals first | (simp_all [Try.underlying78]; done) | skip
    rename_i fs heq
    rw [Try.underlying78] at heq
    cases heq
    rw [if_pos ⟨by rw [cellVp]; rfl, by first | kernel_rfl | simp⟩]
    have l3 := litsV3 n _ h1
    have l2 := litsV3 n _ h2
    simp [cellV3, l3, l2]
  unfold keyOf plV
  simp only [Try.underlying78]
  rw [keyTypeV]
  have ef : (Value.agg #[.int .i64 c.1, .int .i64 c.2]).formed Try.prog 78 = true := by simp [Value.formed, Try.underlying78, cellVp]
  rw [ef, hn]
  simp only [Bool.and_self, if_true, Value.cells]
  rw [e]
  rfl
set_option maxRecDepth 100000 in
theorem kyV_inv {v : Value} {kl : Lit} (h : keyOf Try.prog 78 v = some kl) : ∃ c, v = plV c ∧ OkV c := by
  unfold keyOf at h
  simp only [Try.underlying78] at h
  split at h
  · rename_i hf
    rw [Bool.and_eq_true] at hf
    obtain ⟨_, hf⟩ := hf
    obtain ⟨n, hn⟩ := typesV
    rw [hn, Option.map_eq_some_iff] at h
    obtain ⟨ls, h, _⟩ := h
    cases v with
    | agg cs =>
      simp [Value.formed, Try.underlying78, cellVp] at hf
      obtain ⟨l⟩ := cs
      match l, hf with
      | [x, y], _ =>
        unfold Program.keyLits at h
        split at h
        all_goals first | (rename_i e2; rw [Try.underlying78] at e2; cases e2; done) | skip
        all_goals first | (simp_all [Try.underlying78]; done) | skip
        rename_i fs heq
        rw [Try.underlying78] at heq
        cases heq
        rw [if_pos ⟨by rw [cellVp]; rfl, by first | kernel_rfl | simp⟩] at h
        cases hx : Try.prog.keyLits (n + 1) 3 [x] with
        | none => simp [cellV3, Value.cells, hx] at h
        | some l1 =>
          cases hy : Try.prog.keyLits (n + 1) 3 [y] with
          | none => simp [cellV3, Value.cells, hx, hy] at h
          | some l2 =>
            obtain ⟨k1, rfl, w1⟩ := litsV3_inv hx
            obtain ⟨k2, rfl, w2⟩ := litsV3_inv hy
            exact ⟨(k1, k2), rfl, w1, w2⟩
    | _ => simp [Value.formed, Try.underlying78] at hf
  · cases h
theorem laidOutV : Go.laidOutB Try.prog = true := by kernel_rfl
theorem lawV : Keyed Try.prog 78 := Keyed.of_law (deep_law_laid (m := 100) laidOutV (by omega) (of_decide_eq_true (by kernel_rfl)) (by kernel_rfl) (by kernel_rfl))
theorem kyV_inj {c d : Int × Int} (hc : OkV c) (hd : OkV d) (h : kyV c = kyV d) : c = d := by
  have := lawV.inj (kyV_of hc) (by rw [h]; exact kyV_of hd)
  cases c; cases d
  simp [plV] at this
  simp [this]
theorem kyV_key (c : Int × Int) : WideAt.IsKeyLit (kyV c) := trivial
/-- How an element of the map reads: by the number of its block. -/
def ptR (v : Value) : Option (DataW Unit × List MemPlace) :=
  match v with
  | .pointer none => some (.nil, [])
  | .pointer (some ⟨b, 0, none⟩) => some (.lit (.int .u64 (b : Int)), [])
  | _ => none
def ptD (o : Option Nat) : DataW Unit := match o with | none => .nil | some b => .lit (.int .u64 (b : Int))
def ptV (o : Option Nat) : Value := match o with | none => .pointer none | some b => .pointer (some ⟨b, 0, none⟩)
theorem ptR_of (o : Option Nat) : ptR (ptV o) = some (ptD o, []) := by cases o <;> rfl
theorem ptR_inv {v : Value} {y : DataW Unit × List MemPlace} (h : ptR v = some y) : ∃ o, v = ptV o ∧ y = (ptD o, []) := by
  unfold ptR at h
  split at h
  · cases h; exact ⟨none, rfl, rfl⟩
  · cases h; exact ⟨some _, rfl, rfl⟩
  · cases h
theorem ptD_inj {a b : Option Nat} (h : ptD a = ptD b) : a = b := by
  cases a <;> cases b <;> simp [ptD] at h ⊢
  omega
theorem zeroEV (w : World) : (zeroValue 64).run Try.prog w = .ok (.pointer none) w := by kernel_rfl
/-- Block b is a map of n entries, from places to blocks. -/
def MfB (w : World) (b n : Nat) (f : Int × Int → Option Nat) : Prop :=
  ∃ D : DataW Unit, w.ownsMap Try.prog 78 ptR b n D ∧ Maps.size D = n ∧
    ∀ s, OkV s → Maps.has D (kyV s) = (f s).isSome ∧ D.atKey (kyV s) .nil = ptD (f s)
theorem MfB.lt {w : World} {b n : Nat} {f : Int × Int → Option Nat} (h : MfB w b n f) : b < w.heap.size := by
  obtain ⟨D, h1, _⟩ := h
  exact h1.lt
theorem MfB.keep {w w' : World} {b n : Nat} {f : Int × Int → Option Nat} (h : MfB w b n f) (hb : w'.heap[b]? = w.heap[b]?) : MfB w' b n f := by
  obtain ⟨D, ⟨es, clock, h1, h2⟩, h3⟩ := h
  exact ⟨D, ⟨es, clock, hb.trans h1, h2⟩, h3⟩
theorem MfB.fr {S : Nat → Prop} {w w' : World} {b n : Nat} {f : Int × Int → Option Nat} (h : MfB w b n f) (hf : Fr S w w') (hb : ¬ S b) : MfB w' b n f := h.keep (hf.block b h.lt hb)
theorem MfB.congr {w : World} {b n : Nat} {f g : Int × Int → Option Nat} (h : MfB w b n f) (e : ∀ s, f s = g s) : MfB w b n g := by
  obtain rfl : f = g := funext e
  exact h
theorem MfB.made (w : World) : MfB (w.alloc (.map #[] 0)) w.heap.size 0 (fun _ => none) :=
  ⟨.map [], World.ownsMap_made _ _ _ _, rfl, fun s _ => ⟨rfl, rfl⟩⟩
theorem MfB.look {w : World} {b n : Nat} {f : Int × Int → Option Nat} (h : MfB w b n f) (s : Int × Int) (hs : OkV s) :
    (Instr.lookup 57 (.map (some b)) (plV s) true).run Try.prog w = .ok (.tuple #[ptV (f s), .bool (f s).isSome]) w := by
  obtain ⟨D, h1, h2, h3⟩ := h
  obtain ⟨v, ps, hrun, hv⟩ := h1.look_ok lawV Try.underlying57 (zeroEV w) (ptR_of none) (kyV_of hs)
  obtain ⟨o, rfl, hc⟩ := ptR_inv hv
  obtain ⟨e1, e2⟩ := h3 s hs
  simp only [Prod.mk.injEq] at hc
  have e3 : ptD none = (.nil : DataW Unit) := rfl
  rw [e3, e2] at hc
  rw [hrun, e1, ptD_inj hc.1]
theorem MfB.look1 {w : World} {b n : Nat} {f : Int × Int → Option Nat} (h : MfB w b n f) (s : Int × Int) (hs : OkV s) :
    (Instr.lookup 57 (.map (some b)) (plV s) false).run Try.prog w = .ok (ptV (f s)) w := by
  obtain ⟨D, h1, h2, h3⟩ := h
  obtain ⟨v, ps, hrun, hv⟩ := h1.lookup lawV Try.underlying57 (zeroEV w) (ptR_of none) (kyV_of hs)
  obtain ⟨o, rfl, hc⟩ := ptR_inv hv
  obtain ⟨e1, e2⟩ := h3 s hs
  simp only [Prod.mk.injEq] at hc
  have e3 : ptD none = (.nil : DataW Unit) := rfl
  rw [e3, e2] at hc
  rw [hrun, ptD_inj hc.1]
theorem MfB.put {w : World} {b n : Nat} {f : Int × Int → Option Nat} (h : MfB w b n f) (s : Int × Int) (hs : OkV s) (hf : f s = none) (i : Nat) (hn : n < maxLen) :
    ∃ w', (Instr.mapUpdate 57 (.map (some b)) (plV s) (.pointer (some ⟨i, 0, none⟩))).run Try.prog w = .ok () w' ∧ MfB w' b (n + 1) (fun t => if t = s then some i else f t) ∧ w.grownBy w' (some b) := by
  obtain ⟨D, h1, h2, h3⟩ := h
  obtain ⟨w', hrun, r1, r2⟩ := h1.update lawV Try.underlying57 hn (kyV_of hs) (ptR_of (some i))
  have hno : Maps.has D (kyV s) = false := by rw [(h3 s hs).1, hf]; rfl
  refine ⟨w', hrun, ⟨_, r1, ?_, fun t ht => ?_⟩, r2⟩
  · rw [size_put (h1.tidy lawV), hno]
    simp [h2]
  · show _ = (if t = s then some i else f t).isSome ∧ _ = ptD (if t = s then some i else f t)
    by_cases e : t = s
    · subst e
      rw [if_pos rfl, has_put_same h1.isMap (kyV_key t), atKey_put_same h1.isMap (kyV_key t)]
      exact ⟨rfl, rfl⟩
    · rw [if_neg e, has_put_other (fun q => e (kyV_inj ht hs q)), atKey_put_other (fun q => e (kyV_inj ht hs q))]
      exact h3 t ht
end
end Go.Proofs.Ytjjfpokmpcpicaa
