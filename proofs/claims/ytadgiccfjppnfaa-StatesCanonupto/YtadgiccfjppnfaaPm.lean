/-
  The map of what was met.
-/
import Derived.Test.YtadgiccfjppnfaaPc0
import Derived.DeepKeys5
namespace Go.Proofs.Ytadgiccfjppnfaa
open Go.RowKit Go.Maps
noncomputable section
open Classical
set_option linter.unusedVariables false
set_option linter.unusedSimpArgs false
def OkV (c : Int × Int) : Prop := (Lit.int .i64 c.1).wf = true ∧ (Lit.int .i64 c.2).wf = true
def kyV (c : Int × Int) : Lit := .string (keyBytes [.int .i64 c.1, .int .i64 c.2])
theorem cellV40 : Try.prog.cellsOf 40 = 2 := by kernel_rfl
theorem cellV3 : Try.prog.cellsOf 3 = 1 := by kernel_rfl
theorem cellV2 : Try.prog.cellsOf 2 = 1 := by kernel_rfl
theorem keyTypeV : Try.prog.keyType 40 = true := by kernel_rfl
theorem litsV3 (n : Nat) (k : Int) (h : (Lit.int .i64 k).wf = true) : Try.prog.keyLits (n + 1) 3 [.int .i64 k] = some [.int .i64 k] := by unfold Program.keyLits; simp [Try.underlying3, h]
theorem litsV2 (n : Nat) (k : Int) (h : (Lit.int .i64 k).wf = true) : Try.prog.keyLits (n + 1) 2 [.int .i64 k] = some [.int .i64 k] := by unfold Program.keyLits; simp [Try.underlying2, h]
theorem typesV : ∃ n, Try.prog.types.size + 1 = n + 1 + 1 := ⟨Try.prog.types.size - 1, by
  have : 0 < Try.prog.types.size := of_decide_eq_true (by kernel_rfl)
  omega⟩
theorem kyV_of {c : Int × Int} (h : OkV c) : keyOf Try.prog 40 (.agg #[.int .i64 c.1, .int .i64 c.2]) = some (kyV c) := by
  obtain ⟨h1, h2⟩ := h
  obtain ⟨n, hn⟩ := typesV
  have e : Try.prog.keyLits (n + 1 + 1) 40 [.int .i64 c.1, .int .i64 c.2] = some [.int .i64 c.1, .int .i64 c.2] := by
    unfold Program.keyLits
    split
    all_goals first | (rename_i e2; rw [Try.underlying40] at e2; cases e2; done) | skip
    all_goals first | (simp_all [Try.underlying40]; done) | skip
    rename_i fs heq
    rw [Try.underlying40] at heq
    cases heq
    rw [if_pos ⟨by rw [cellV40]; rfl, by first | kernel_rfl | simp⟩]
    have l3 := litsV3 n _ h1
    have l2 := litsV2 n _ h2
    simp [cellV3, cellV2, l3, l2]
  unfold keyOf
  simp only [Try.underlying40]
  rw [keyTypeV]
  have ef : (Value.agg #[.int .i64 c.1, .int .i64 c.2]).formed Try.prog 40 = true := by simp [Value.formed, Try.underlying40, cellV40]
  rw [ef, hn]
  simp only [Bool.and_self, if_true, Value.cells]
  rw [e]
  rfl
theorem laidOutV : Go.laidOutB Try.prog = true := by kernel_rfl
theorem lawV : Keyed Try.prog 40 := Keyed.of_law (deep_law_laid (m := 100) laidOutV (by omega) (of_decide_eq_true (by kernel_rfl)) (by kernel_rfl) (by kernel_rfl))
theorem kyV_inj {c d : Int × Int} (hc : OkV c) (hd : OkV d) (h : kyV c = kyV d) : c = d := by
  have := lawV.inj (kyV_of hc) (by rw [h]; exact kyV_of hd)
  cases c; cases d
  simp at this
  simp [this]
theorem kyV_key (c : Int × Int) : WideAt.IsKeyLit (kyV c) := trivial
theorem zeroEV (w : World) : (zeroValue 2).run Try.prog w = .ok (.int .i64 0) w := by kernel_rfl
/-- Block b is a map of n entries, from values to numbers. -/
def MfV (w : World) (b n : Nat) (f : Int × Int → Option Nat) : Prop :=
  ∃ D : DataW Unit, w.ownsMap Try.prog 40 (plainElem Try.prog 2) b n D ∧ Maps.size D = n ∧
    ∀ s, OkV s → Maps.has D (kyV s) = (f s).isSome ∧ D.atKey (kyV s) (.lit (.int .i64 0)) = .lit (.int .i64 (((f s).getD 0 : Nat) : Int))
theorem MfV.lt {w : World} {b n : Nat} {f : Int × Int → Option Nat} (h : MfV w b n f) : b < w.heap.size := by
  obtain ⟨D, h1, _⟩ := h
  exact h1.lt
theorem MfV.keep {w w' : World} {b n : Nat} {f : Int × Int → Option Nat} (h : MfV w b n f) (hb : w'.heap[b]? = w.heap[b]?) : MfV w' b n f := by
  obtain ⟨D, ⟨es, clock, h1, h2⟩, h3⟩ := h
  exact ⟨D, ⟨es, clock, hb.trans h1, h2⟩, h3⟩
theorem MfV.fr {S : Nat → Prop} {w w' : World} {b n : Nat} {f : Int × Int → Option Nat} (h : MfV w b n f) (hf : Fr S w w') (hb : ¬ S b) : MfV w' b n f := h.keep (hf.block b h.lt hb)
theorem MfV.congr {w : World} {b n : Nat} {f g : Int × Int → Option Nat} (h : MfV w b n f) (e : ∀ s, f s = g s) : MfV w b n g := by
  obtain rfl : f = g := funext e
  exact h
theorem MfV.made (w : World) : MfV (w.alloc (.map #[] 0)) w.heap.size 0 (fun _ => none) :=
  ⟨.map [], World.ownsMap_made _ _ _ _, rfl, fun s _ => ⟨rfl, rfl⟩⟩
theorem MfV.look {w : World} {b n : Nat} {f : Int × Int → Option Nat} (h : MfV w b n f) (s : Int × Int) (hs : OkV s) :
    (Instr.lookup 71 (.map (some b)) (.agg #[.int .i64 s.1, .int .i64 s.2]) true).run Try.prog w = .ok (.tuple #[.int .i64 (((f s).getD 0 : Nat) : Int), .bool (f s).isSome]) w := by
  obtain ⟨D, h1, h2, h3⟩ := h
  obtain ⟨v, ps, hrun, hv⟩ := h1.look_ok lawV Try.underlying71 (zeroEV w) (plainElem_int Try.underlying2 (by decide)) (kyV_of hs)
  obtain ⟨c, rfl, hc, _⟩ := plainElem_int_inv Try.underlying2 hv
  obtain ⟨e1, e2⟩ := h3 s hs
  simp only [Prod.mk.injEq] at hc
  rw [e2] at hc
  rw [hrun, e1]
  have := hc.1
  simp only [DataW.lit.injEq, Lit.int.injEq, true_and] at this
  rw [this]
theorem MfV.put {w : World} {b n : Nat} {f : Int × Int → Option Nat} (h : MfV w b n f) (s : Int × Int) (hs : OkV s) (hf : f s = none) (i : Nat) (hi : i < 9223372036854775808) (hn : n < maxLen) :
    ∃ w', (Instr.mapUpdate 71 (.map (some b)) (.agg #[.int .i64 s.1, .int .i64 s.2]) (.int .i64 (i : Int))).run Try.prog w = .ok () w' ∧ MfV w' b (n + 1) (fun t => if t = s then some i else f t) ∧ w.grownBy w' (some b) := by
  obtain ⟨D, h1, h2, h3⟩ := h
  have hwf : (Lit.int .i64 (i : Int)).wf = true := WalkArith.wf_i64 (by omega)
  obtain ⟨w', hrun, r1, r2⟩ := h1.update lawV Try.underlying71 hn (kyV_of hs) (plainElem_int Try.underlying2 hwf)
  have hno : Maps.has D (kyV s) = false := by rw [(h3 s hs).1, hf]; rfl
  refine ⟨w', hrun, ⟨_, r1, ?_, fun t ht => ?_⟩, r2⟩
  · rw [size_put (h1.tidy lawV), hno]
    simp [h2]
  · show _ = (if t = s then some i else f t).isSome ∧ _ = DataW.lit (.int .i64 (((if t = s then some i else f t).getD 0 : Nat) : Int))
    by_cases e : t = s
    · subst e
      rw [if_pos rfl, has_put_same h1.isMap (kyV_key t), atKey_put_same h1.isMap (kyV_key t)]
      exact ⟨rfl, rfl⟩
    · rw [if_neg e, has_put_other (fun q => e (kyV_inj ht hs q)), atKey_put_other (fun q => e (kyV_inj ht hs q))]
      exact h3 t ht
/-- What the map holds, when this was met. -/
def mpF (O : List Ob) (m : List Nat × List Nat) (v : Int × Int) : Option Nat :=
  if v.1 = 4 then (if 0 ≤ v.2 ∧ v.2.toNat ∈ m.1 then some (m.1.idxOf v.2.toNat) else none)
  else if (nmO O v).isSome = true ∧ v.2.toNat ∈ m.2 then some (m.2.idxOf v.2.toNat) else none
theorem mpF_nil (O : List Ob) (v : Int × Int) : mpF O ([], []) v = none := by
  unfold mpF
  simp
/-- A new number, where one is there. -/
theorem mpF_num {nt : Nat} {O : List Ob} {m : List Nat × List Nat} (hm : MOk nt O.length m) {v : Int × Int} (h : Hv nt O m v) :
    numV nt O m v = (v.1, if (mpF O m v).isSome then (((mpF O m v).getD 0 : Nat) : Int) else v.2) := by
  obtain ⟨k, n⟩ := v
  by_cases h4 : k = 4
  · by_cases hn : 0 ≤ n ∧ n < (nt : Int)
    · have hin := h.1 h4 hn.1 hn.2
      have e : mpF O m (k, n) = some (m.1.idxOf n.toNat) := by
        unfold mpF
        rw [if_pos h4, if_pos ⟨hn.1, hin⟩]
      rw [e]
      unfold numV
      rw [if_pos h4]
      unfold numT
      rw [if_pos hn]
      unfold posN
      rw [if_pos hin]
      simp [h4]
    · have e : mpF O m (k, n) = none := by
        unfold mpF
        rw [if_pos h4, if_neg (fun q => hn ⟨q.1, by have := hm.b1 _ q.2; simp only at this; have := q.1; omega⟩)]
      rw [e]
      unfold numV
      rw [if_pos h4]
      unfold numT
      rw [if_neg hn]
      simp [h4]
  · by_cases hs : (nmO O (k, n)).isSome = true
    · have hin := h.2 h4 hs
      have e : mpF O m (k, n) = some (m.2.idxOf n.toNat) := by
        unfold mpF
        rw [if_neg h4, if_pos ⟨hs, hin⟩]
      rw [e]
      unfold numV
      rw [if_neg h4, if_pos hs]
      unfold posN
      rw [if_pos hin]
      simp
    · have e : mpF O m (k, n) = none := by
        unfold mpF
        rw [if_neg h4, if_neg (fun q => hs q.1)]
      rw [e]
      unfold numV
      rw [if_neg h4, if_neg hs]
      simp
theorem idxOf_push {l : List Nat} {a b : Nat} (h : b ≠ a) : (b ∈ l ++ [a] ↔ b ∈ l) ∧ (b ∈ l → (l ++ [a]).idxOf b = l.idxOf b) := by
  refine ⟨by simp [h], fun q => by rw [List.idxOf_append, if_pos q]⟩
/-- One text more. -/
theorem mpF_t {O : List Ob} {m : List Nat × List Nat} {n : Nat} (hn : n ∉ m.1) (v : Int × Int) : (if v = (4, (n : Int)) then some m.1.length else mpF O m v) = mpF O (m.1 ++ [n], m.2) v := by
  obtain ⟨k, x⟩ := v
  unfold mpF
  by_cases h4 : k = 4
  · subst h4
    simp only [if_true]
    by_cases hx : x = (n : Int)
    · subst hx
      rw [if_pos rfl, if_pos ⟨by omega, by simp⟩, Int.toNat_natCast, List.idxOf_append, if_neg hn]
      simp
    · rw [if_neg (by simpa using hx)]
      by_cases h0 : 0 ≤ x
      · have hne : x.toNat ≠ n := by omega
        have := idxOf_push (l := m.1) hne
        by_cases hm : x.toNat ∈ m.1
        · rw [if_pos ⟨h0, hm⟩, if_pos ⟨h0, this.1.2 hm⟩, this.2 hm]
        · rw [if_neg (fun q => hm q.2), if_neg (fun q => hm (this.1.1 q.2))]
      · rw [if_neg (fun q => h0 q.1), if_neg (fun q => h0 q.1)]
  · have : ¬ ((k, x) = ((4 : Int), (n : Int))) := fun e => h4 (by cases e; rfl)
    rw [if_neg this]
    simp only [h4, if_false]
/-- One object more. -/
theorem mpF_o {O : List Ob} {m : List Nat × List Nat} {k : Int} {n : Nat} (hn : n ∉ m.2) (h4 : k ≠ 4) (hs : (nmO O (k, (n : Int))).isSome = true) (v : Int × Int) : (if v = (k, (n : Int)) then some m.2.length else mpF O m v) = mpF O (m.1, m.2 ++ [n]) v := by
  obtain ⟨k2, x⟩ := v
  unfold mpF
  by_cases h42 : k2 = 4
  · have : ¬ ((k2, x) = (k, (n : Int))) := fun e => h4 (by cases e; exact h42)
    rw [if_neg this]
    simp only [h42, if_true]
  · simp only [h42, if_false]
    by_cases hx : x = (n : Int)
    · subst hx
      by_cases hk : k2 = k
      · subst hk
        rw [if_pos rfl, if_pos ⟨hs, by simp⟩, Int.toNat_natCast, List.idxOf_append, if_neg hn]
        simp
      · have : ¬ ((k2, (n : Int)) = (k, (n : Int))) := fun e => hk (by cases e; rfl)
        rw [if_neg this]
        have hno : (nmO O (k2, (n : Int))).isSome = false := by
          unfold nmO at hs ⊢
          simp only [Int.toNat_natCast] at hs ⊢
          cases ho : O[n]? with
          | none => simp [ho] at hs
          | some o =>
            rw [ho] at hs
            simp only [Option.bind_some] at hs ⊢
            by_cases hko : o.kind = k
            · have hne : ¬ o.kind = k2 := fun e => hk (e.symm.trans hko)
              simp [hne]
            · rw [if_neg hko] at hs
              simp at hs
        rw [if_neg (fun q => by rw [hno] at q; simp at q), if_neg (fun q => by rw [hno] at q; simp at q)]
    · have hne' : ¬ ((k2, x) = (k, (n : Int))) := fun e => hx (by cases e; rfl)
      rw [if_neg hne']
      by_cases hs2 : (nmO O (k2, x)).isSome = true
      · have h0 : 0 ≤ x := by
          unfold nmO at hs2
          split at hs2
          · rename_i q; exact q.2.2.1
          · simp at hs2
        have hne : x.toNat ≠ n := by omega
        have := idxOf_push (l := m.2) hne
        by_cases hm : x.toNat ∈ m.2
        · rw [if_pos ⟨hs2, hm⟩, if_pos ⟨hs2, this.1.2 hm⟩, this.2 hm]
        · rw [if_neg (fun q => hm q.2), if_neg (fun q => hm (this.1.1 q.2))]
      · rw [if_neg (fun q => hs2 q.1), if_neg (fun q => hs2 q.1)]
end
end Go.Proofs.Ytadgiccfjppnfaa
