/-
  An index in memory (kind P).
-/
import Derived.Test.YthmcalapofjmfabKBase
import Derived.DeepKeys5
namespace Go.Proofs.Ythmcalapofjmfab
open Go.RowKit Go.Maps
set_option linter.unusedVariables false

/-- The things. -/
def valP : Nat → Value
  | 0 => .agg #[.int .i64 0, .int .i64 0]
  | 1 => .agg #[.int .i64 0, .int .i64 1]
  | 2 => .agg #[.int .i64 1, .int .i64 0]
  | _ => .agg #[.int .i64 1, .int .i64 1]
/-- Their cells. -/
def clP (k : Nat) : List Value := (valP k).cells.toList
theorem clP_length (k : Nat) : (clP k).length = 2 := by
  unfold clP valP
  split <;> rfl
/-- Their keys. -/
noncomputable def kyP (k : Nat) : Lit := (keyOf Try.prog 28 (valP k)).getD .nil
theorem kyP_s0 : (keyOf Try.prog 28 (valP 0)).isSome = true := by kernel_rfl
theorem kyP_s1 : (keyOf Try.prog 28 (valP 1)).isSome = true := by kernel_rfl
theorem kyP_s2 : (keyOf Try.prog 28 (valP 2)).isSome = true := by kernel_rfl
theorem kyP_s3 : (keyOf Try.prog 28 (valP 3)).isSome = true := by kernel_rfl
theorem kyP_of {k : Nat} (h : k < 4) : keyOf Try.prog 28 (valP k) = some (kyP k) := by
  have e : (keyOf Try.prog 28 (valP k)).isSome = true := by
    match k, h with
    | 0, _ => exact kyP_s0
    | 1, _ => exact kyP_s1
    | 2, _ => exact kyP_s2
    | 3, _ => exact kyP_s3
  unfold kyP
  cases q : keyOf Try.prog 28 (valP k) with
  | none => rw [q] at e; cases e
  | some l => rfl
theorem laidOutP : Go.laidOutB Try.prog = true := by kernel_rfl
theorem lawP : Keyed Try.prog 28 := Keyed.of_law (deep_law_laid (m := 100) laidOutP (by omega) (of_decide_eq_true (by kernel_rfl)) (by kernel_rfl) (by kernel_rfl))
theorem valP_inj {i j : Nat} (hi : i < 4) (hj : j < 4) (h : valP i = valP j) : i = j := by
  match i, hi, j, hj, h with
  | 0, _, 0, _, h => rfl
  | 0, _, 1, _, h => simp [valP] at h
  | 0, _, 2, _, h => simp [valP] at h
  | 0, _, 3, _, h => simp [valP] at h
  | 1, _, 0, _, h => simp [valP] at h
  | 1, _, 1, _, h => rfl
  | 1, _, 2, _, h => simp [valP] at h
  | 1, _, 3, _, h => simp [valP] at h
  | 2, _, 0, _, h => simp [valP] at h
  | 2, _, 1, _, h => simp [valP] at h
  | 2, _, 2, _, h => rfl
  | 2, _, 3, _, h => simp [valP] at h
  | 3, _, 0, _, h => simp [valP] at h
  | 3, _, 1, _, h => simp [valP] at h
  | 3, _, 2, _, h => simp [valP] at h
  | 3, _, 3, _, h => rfl
theorem kyP_inj {i j : Nat} (hi : i < 4) (hj : j < 4) (h : kyP i = kyP j) : i = j :=
  valP_inj hi hj (lawP.inj (kyP_of hi) (by rw [h]; exact kyP_of hj))
theorem zeroEP (w : World) : (zeroValue 3).run Try.prog w = .ok (.int .i64 0) w := by kernel_rfl

/-- Block b is a map of n entries. -/
def MfP (w : World) (b n : Nat) (f : Nat → Option Nat) : Prop :=
  ∃ D : DataW Unit, w.ownsMap Try.prog 28 (plainElem Try.prog 3) b n D ∧ Maps.size D = n ∧
    ∀ k, k < 4 → Maps.has D (kyP k) = (f k).isSome ∧ D.atKey (kyP k) (.lit (.int .i64 0)) = .lit (.int .i64 (((f k).getD 0 : Nat) : Int))
theorem MfP.lt {w : World} {b n : Nat} {f : Nat → Option Nat} (h : MfP w b n f) : b < w.heap.size := by
  obtain ⟨D, h1, _⟩ := h
  exact h1.lt
theorem MfP.keep {w w' : World} {b n : Nat} {f : Nat → Option Nat} (h : MfP w b n f) (hb : w'.heap[b]? = w.heap[b]?) : MfP w' b n f := by
  obtain ⟨D, ⟨es, clock, h1, h2⟩, h3⟩ := h
  exact ⟨D, ⟨es, clock, hb.trans h1, h2⟩, h3⟩
theorem MfP.congr {w : World} {b n : Nat} {f g : Nat → Option Nat} (h : MfP w b n f) (e : ∀ s, f s = g s) : MfP w b n g := by
  obtain rfl : f = g := funext e
  exact h
theorem MfP.made (w : World) : MfP (w.alloc (.map #[] 0)) w.heap.size 0 (fun _ => none) :=
  ⟨.map [], World.ownsMap_made _ _ _ _, rfl, fun s _ => ⟨rfl, rfl⟩⟩
theorem ownsMap_sizeP {w : World} {b n : Nat} {D : DataW Unit} (h : w.ownsMap Try.prog 28 (plainElem Try.prog 3) b n D) : w.ownsMap Try.prog 28 (plainElem Try.prog 3) b (Maps.size D) D := by
  obtain ⟨es, clock, h1, h2, h3, rfl⟩ := h
  exact ⟨es, clock, h1, h2, by simp [Maps.size, length_sorted], rfl⟩
theorem MfP.look {w : World} {b n : Nat} {f : Nat → Option Nat} (h : MfP w b n f) (k : Nat) (hk : k < 4) :
    (Instr.lookup 56 (.map (some b)) (valP k) true).run Try.prog w = .ok (.tuple #[.int .i64 (((f k).getD 0 : Nat) : Int), .bool (f k).isSome]) w := by
  obtain ⟨D, h1, h2, h3⟩ := h
  obtain ⟨v, ps, hrun, hv⟩ := h1.look_ok lawP Try.underlying56 (zeroEP w) (plainElem_int Try.underlying3 (by decide)) (kyP_of hk)
  obtain ⟨c, rfl, hc, _⟩ := plainElem_int_inv Try.underlying3 hv
  obtain ⟨e1, e2⟩ := h3 k hk
  simp only [Prod.mk.injEq] at hc
  rw [e2] at hc
  rw [hrun, e1]
  have := hc.1
  simp only [DataW.lit.injEq, Lit.int.injEq, true_and] at this
  rw [this]
theorem MfP.put {w : World} {b n : Nat} {f : Nat → Option Nat} (h : MfP w b n f) (k : Nat) (hk : k < 4) (hf : f k = none) (i : Nat) (hi : i < 9223372036854775808) (hn : n < maxLen) :
    ∃ w', (Instr.mapUpdate 56 (.map (some b)) (valP k) (.int .i64 (i : Int))).run Try.prog w = .ok () w' ∧ MfP w' b (n + 1) (fun j => if j = k then some i else f j) ∧ w.grownBy w' (some b) := by
  obtain ⟨D, h1, h2, h3⟩ := h
  have hwf : (Lit.int .i64 (i : Int)).wf = true := WalkArith.wf_i64 (by omega)
  obtain ⟨w', hrun, r1, r2⟩ := h1.update lawP Try.underlying56 hn (kyP_of hk) (plainElem_int Try.underlying3 hwf)
  have hno : Maps.has D (kyP k) = false := by rw [(h3 k hk).1, hf]; rfl
  refine ⟨w', hrun, ⟨_, r1, ?_, fun j hj => ?_⟩, r2⟩
  · rw [size_put (h1.tidy lawP), hno]
    simp [h2]
  · show _ = (if j = k then some i else f j).isSome ∧ _ = DataW.lit (.int .i64 (((if j = k then some i else f j).getD 0 : Nat) : Int))
    by_cases e : j = k
    · subst e
      rw [if_pos rfl, has_put_same h1.isMap (lawP.key (kyP_of hj)), atKey_put_same h1.isMap (lawP.key (kyP_of hj))]
      exact ⟨rfl, rfl⟩
    · rw [if_neg e, has_put_other (fun q => e (kyP_inj hj hk q)), atKey_put_other (fun q => e (kyP_inj hj hk q))]
      exact h3 j hj
theorem MfP.del {w : World} {b n : Nat} {f : Nat → Option Nat} (h : MfP w b (n + 1) f) (k : Nat) (hk : k < 4) (hf : (f k).isSome = true) (ty : TypeId) :
    ∃ w', (Builtin.delete_ #[56, 28] ty #[.map (some b), valP k]).run Try.prog w = .ok (.tuple #[]) w' ∧ MfP w' b n (fun j => if j = k then none else f j) ∧ w.grownBy w' (some b) := by
  obtain ⟨D, h1, h2, h3⟩ := h
  obtain ⟨w', hrun, r1, r2⟩ := h1.drop lawP Try.underlying56 (kyP_of hk) ty
  have hz : Maps.size (D.del (kyP k)) = n := by
    have := size_del (k := kyP k) (h1.tidy lawP)
    rw [(h3 k hk).1, hf, if_pos rfl, h2] at this
    omega
  refine ⟨w', hrun, ⟨_, hz ▸ ownsMap_sizeP r1, hz, fun j hj => ?_⟩, r2.grown⟩
  show _ = (if j = k then none else f j).isSome ∧ _ = DataW.lit (.int .i64 (((if j = k then none else f j).getD 0 : Nat) : Int))
  by_cases e : j = k
  · subst e
    rw [if_pos rfl, has_del_same, atKey_del_same]
    exact ⟨rfl, rfl⟩
  · rw [if_neg e, has_del_other (fun q => e (kyP_inj hj hk q)), atKey_del_other (fun q => e (kyP_inj hj hk q))]
    exact h3 j hj

/-- At block p lies an index of the things ks. -/
structure IxP (w : World) (p b : Nat) (v : Value) (ks : List Nat) : Prop where
  c0 : w.cell? ⟨p, 0, none⟩ = some v
  c1 : w.cell? ⟨p, 1, none⟩ = some (.map (some b))
  f0 : w.frozen? ⟨p, 0, none⟩ = false
  own : w.ownsRow 0 28 2 v ks.length (ks.flatMap clP)
  mp : MfP w b ks.length (idx ks)
  pb : p ≠ b
  vp : v.ownBlock ≠ some p
  vb : v.ownBlock ≠ some b
  nd : ks.Nodup
  ok : ∀ k ∈ ks, k < 4
section
variable {w w' : World} {p b : Nat} {v : Value} {ks : List Nat}
theorem IxP.lt (h : IxP w p b v ks) : p < w.heap.size := World.block_lt_of_cell? _ _ h.c0
theorem IxP.blt (h : IxP w p b v ks) : b < w.heap.size := h.mp.lt
theorem IxP.vlt (h : IxP w p b v ks) : ∀ k, v.ownBlock = some k → k < w.heap.size := fun k hk => (h.own.lt k hk).2
theorem IxP.foot (h : IxP w p b v ks) : ∀ k, Foot p b v k → k < w.heap.size := by
  rintro k (e | e | e)
  · rw [e]; exact h.lt
  · rw [e]; exact h.blt
  · exact h.vlt k e
theorem IxP.small (h : IxP w p b v ks) : ks.length ≤ 4 := pigeon 4 ks h.nd h.ok
theorem IxP.keep {S : Nat → Prop} (h : IxP w p b v ks) (f : Fr S w w') (hn : ∀ k, Foot p b v k → ¬ S k) : IxP w' p b v ks :=
  ⟨(f.cell (a := ⟨p, 0, none⟩) h.lt (hn p (.inl rfl))).trans h.c0, (f.cell (a := ⟨p, 1, none⟩) h.lt (hn p (.inl rfl))).trans h.c1,
    (f.frozen (a := ⟨p, 0, none⟩) h.lt (hn p (.inl rfl))).trans h.f0, own_keep h.own (fun g hg => f.block g (h.vlt g hg) (hn g (.inr (.inr hg)))),
    h.mp.keep (f.block b h.blt (hn b (.inr (.inl rfl)))), h.pb, h.vp, h.vb, h.nd, h.ok⟩
theorem IxP.below (h : IxP w p b v ks) (f : Below w.heap.size w w') : IxP w' p b v ks := h.keep (Fr.of_below (S := fun _ => False) f) (fun _ _ e => e)
theorem IxP.shape (h : IxP w p b v ks) : ∃ a cap, v = .slice a ks.length cap ∧ ks.length ≤ cap ∧ cap ≤ maxLen := by
  rcases h.own.2 with ⟨e, h0⟩ | ⟨g, cap, cur, e, _, _, h1, h2, _⟩
  · exact ⟨none, 0, by rw [e, h0], by omega, Nat.zero_le _⟩
  · exact ⟨_, cap, e, h1, h2⟩
end
end Go.Proofs.Ythmcalapofjmfab
