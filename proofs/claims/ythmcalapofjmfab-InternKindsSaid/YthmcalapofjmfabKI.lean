/-
  An index in memory (kind I).
-/
import Derived.Test.YthmcalapofjmfabKBase
import Derived.DeepKeys5
namespace Go.Proofs.Ythmcalapofjmfab
open Go.RowKit Go.Maps
set_option linter.unusedVariables false

/-- The things. -/
def valI : Nat → Value
  | 0 => .int .i8 (-2)
  | 1 => .int .i8 (-1)
  | 2 => .int .i8 0
  | _ => .int .i8 1
/-- Their cells. -/
def clI (k : Nat) : List Value := (valI k).cells.toList
theorem clI_length (k : Nat) : (clI k).length = 1 := by
  unfold clI valI
  split <;> rfl
/-- Their keys. -/
noncomputable def kyI (k : Nat) : Lit := (keyOf Try.prog 31 (valI k)).getD .nil
theorem kyI_s0 : (keyOf Try.prog 31 (valI 0)).isSome = true := by kernel_rfl
theorem kyI_s1 : (keyOf Try.prog 31 (valI 1)).isSome = true := by kernel_rfl
theorem kyI_s2 : (keyOf Try.prog 31 (valI 2)).isSome = true := by kernel_rfl
theorem kyI_s3 : (keyOf Try.prog 31 (valI 3)).isSome = true := by kernel_rfl
theorem kyI_of {k : Nat} (h : k < 4) : keyOf Try.prog 31 (valI k) = some (kyI k) := by
  have e : (keyOf Try.prog 31 (valI k)).isSome = true := by
    match k, h with
    | 0, _ => exact kyI_s0
    | 1, _ => exact kyI_s1
    | 2, _ => exact kyI_s2
    | 3, _ => exact kyI_s3
  unfold kyI
  cases q : keyOf Try.prog 31 (valI k) with
  | none => rw [q] at e; cases e
  | some l => rfl
theorem lawI : Keyed Try.prog 31 := int_keyed Try.underlying31
theorem valI_inj {i j : Nat} (hi : i < 4) (hj : j < 4) (h : valI i = valI j) : i = j := by
  match i, hi, j, hj, h with
  | 0, _, 0, _, h => rfl
  | 0, _, 1, _, h => simp [valI] at h
  | 0, _, 2, _, h => simp [valI] at h
  | 0, _, 3, _, h => simp [valI] at h
  | 1, _, 0, _, h => simp [valI] at h
  | 1, _, 1, _, h => rfl
  | 1, _, 2, _, h => simp [valI] at h
  | 1, _, 3, _, h => simp [valI] at h
  | 2, _, 0, _, h => simp [valI] at h
  | 2, _, 1, _, h => simp [valI] at h
  | 2, _, 2, _, h => rfl
  | 2, _, 3, _, h => simp [valI] at h
  | 3, _, 0, _, h => simp [valI] at h
  | 3, _, 1, _, h => simp [valI] at h
  | 3, _, 2, _, h => simp [valI] at h
  | 3, _, 3, _, h => rfl
theorem kyI_inj {i j : Nat} (hi : i < 4) (hj : j < 4) (h : kyI i = kyI j) : i = j :=
  valI_inj hi hj (lawI.inj (kyI_of hi) (by rw [h]; exact kyI_of hj))
theorem zeroEI (w : World) : (zeroValue 3).run Try.prog w = .ok (.int .i64 0) w := by kernel_rfl

/-- Block b is a map of n entries. -/
def MfI (w : World) (b n : Nat) (f : Nat → Option Nat) : Prop :=
  ∃ D : DataW Unit, w.ownsMap Try.prog 31 (plainElem Try.prog 3) b n D ∧ Maps.size D = n ∧
    ∀ k, k < 4 → Maps.has D (kyI k) = (f k).isSome ∧ D.atKey (kyI k) (.lit (.int .i64 0)) = .lit (.int .i64 (((f k).getD 0 : Nat) : Int))
theorem MfI.lt {w : World} {b n : Nat} {f : Nat → Option Nat} (h : MfI w b n f) : b < w.heap.size := by
  obtain ⟨D, h1, _⟩ := h
  exact h1.lt
theorem MfI.keep {w w' : World} {b n : Nat} {f : Nat → Option Nat} (h : MfI w b n f) (hb : w'.heap[b]? = w.heap[b]?) : MfI w' b n f := by
  obtain ⟨D, ⟨es, clock, h1, h2⟩, h3⟩ := h
  exact ⟨D, ⟨es, clock, hb.trans h1, h2⟩, h3⟩
theorem MfI.congr {w : World} {b n : Nat} {f g : Nat → Option Nat} (h : MfI w b n f) (e : ∀ s, f s = g s) : MfI w b n g := by
  obtain rfl : f = g := funext e
  exact h
theorem MfI.made (w : World) : MfI (w.alloc (.map #[] 0)) w.heap.size 0 (fun _ => none) :=
  ⟨.map [], World.ownsMap_made _ _ _ _, rfl, fun s _ => ⟨rfl, rfl⟩⟩
theorem ownsMap_sizeI {w : World} {b n : Nat} {D : DataW Unit} (h : w.ownsMap Try.prog 31 (plainElem Try.prog 3) b n D) : w.ownsMap Try.prog 31 (plainElem Try.prog 3) b (Maps.size D) D := by
  obtain ⟨es, clock, h1, h2, h3, rfl⟩ := h
  exact ⟨es, clock, h1, h2, by simp [Maps.size, length_sorted], rfl⟩
theorem MfI.look {w : World} {b n : Nat} {f : Nat → Option Nat} (h : MfI w b n f) (k : Nat) (hk : k < 4) :
    (Instr.lookup 60 (.map (some b)) (valI k) true).run Try.prog w = .ok (.tuple #[.int .i64 (((f k).getD 0 : Nat) : Int), .bool (f k).isSome]) w := by
  obtain ⟨D, h1, h2, h3⟩ := h
  obtain ⟨v, ps, hrun, hv⟩ := h1.look_ok lawI Try.underlying60 (zeroEI w) (plainElem_int Try.underlying3 (by decide)) (kyI_of hk)
  obtain ⟨c, rfl, hc, _⟩ := plainElem_int_inv Try.underlying3 hv
  obtain ⟨e1, e2⟩ := h3 k hk
  simp only [Prod.mk.injEq] at hc
  rw [e2] at hc
  rw [hrun, e1]
  have := hc.1
  simp only [DataW.lit.injEq, Lit.int.injEq, true_and] at this
  rw [this]
theorem MfI.put {w : World} {b n : Nat} {f : Nat → Option Nat} (h : MfI w b n f) (k : Nat) (hk : k < 4) (hf : f k = none) (i : Nat) (hi : i < 9223372036854775808) (hn : n < maxLen) :
    ∃ w', (Instr.mapUpdate 60 (.map (some b)) (valI k) (.int .i64 (i : Int))).run Try.prog w = .ok () w' ∧ MfI w' b (n + 1) (fun j => if j = k then some i else f j) ∧ w.grownBy w' (some b) := by
  obtain ⟨D, h1, h2, h3⟩ := h
  have hwf : (Lit.int .i64 (i : Int)).wf = true := WalkArith.wf_i64 (by omega)
  obtain ⟨w', hrun, r1, r2⟩ := h1.update lawI Try.underlying60 hn (kyI_of hk) (plainElem_int Try.underlying3 hwf)
  have hno : Maps.has D (kyI k) = false := by rw [(h3 k hk).1, hf]; rfl
  refine ⟨w', hrun, ⟨_, r1, ?_, fun j hj => ?_⟩, r2⟩
  · rw [size_put (h1.tidy lawI), hno]
    simp [h2]
  · show _ = (if j = k then some i else f j).isSome ∧ _ = DataW.lit (.int .i64 (((if j = k then some i else f j).getD 0 : Nat) : Int))
    by_cases e : j = k
    · subst e
      rw [if_pos rfl, has_put_same h1.isMap (lawI.key (kyI_of hj)), atKey_put_same h1.isMap (lawI.key (kyI_of hj))]
      exact ⟨rfl, rfl⟩
    · rw [if_neg e, has_put_other (fun q => e (kyI_inj hj hk q)), atKey_put_other (fun q => e (kyI_inj hj hk q))]
      exact h3 j hj
theorem MfI.del {w : World} {b n : Nat} {f : Nat → Option Nat} (h : MfI w b (n + 1) f) (k : Nat) (hk : k < 4) (hf : (f k).isSome = true) (ty : TypeId) :
    ∃ w', (Builtin.delete_ #[60, 31] ty #[.map (some b), valI k]).run Try.prog w = .ok (.tuple #[]) w' ∧ MfI w' b n (fun j => if j = k then none else f j) ∧ w.grownBy w' (some b) := by
  obtain ⟨D, h1, h2, h3⟩ := h
  obtain ⟨w', hrun, r1, r2⟩ := h1.drop lawI Try.underlying60 (kyI_of hk) ty
  have hz : Maps.size (D.del (kyI k)) = n := by
    have := size_del (k := kyI k) (h1.tidy lawI)
    rw [(h3 k hk).1, hf, if_pos rfl, h2] at this
    omega
  refine ⟨w', hrun, ⟨_, hz ▸ ownsMap_sizeI r1, hz, fun j hj => ?_⟩, r2.grown⟩
  show _ = (if j = k then none else f j).isSome ∧ _ = DataW.lit (.int .i64 (((if j = k then none else f j).getD 0 : Nat) : Int))
  by_cases e : j = k
  · subst e
    rw [if_pos rfl, has_del_same, atKey_del_same]
    exact ⟨rfl, rfl⟩
  · rw [if_neg e, has_del_other (fun q => e (kyI_inj hj hk q)), atKey_del_other (fun q => e (kyI_inj hj hk q))]
    exact h3 j hj

/-- At block p lies an index of the things ks. -/
structure IxI (w : World) (p b : Nat) (v : Value) (ks : List Nat) : Prop where
  c0 : w.cell? ⟨p, 0, none⟩ = some v
  c1 : w.cell? ⟨p, 1, none⟩ = some (.map (some b))
  f0 : w.frozen? ⟨p, 0, none⟩ = false
  own : w.ownsRow 0 31 1 v ks.length (ks.flatMap clI)
  mp : MfI w b ks.length (idx ks)
  pb : p ≠ b
  vp : v.ownBlock ≠ some p
  vb : v.ownBlock ≠ some b
  nd : ks.Nodup
  ok : ∀ k ∈ ks, k < 4
section
variable {w w' : World} {p b : Nat} {v : Value} {ks : List Nat}
theorem IxI.lt (h : IxI w p b v ks) : p < w.heap.size := World.block_lt_of_cell? _ _ h.c0
theorem IxI.blt (h : IxI w p b v ks) : b < w.heap.size := h.mp.lt
theorem IxI.vlt (h : IxI w p b v ks) : ∀ k, v.ownBlock = some k → k < w.heap.size := fun k hk => (h.own.lt k hk).2
theorem IxI.foot (h : IxI w p b v ks) : ∀ k, Foot p b v k → k < w.heap.size := by
  rintro k (e | e | e)
  · rw [e]; exact h.lt
  · rw [e]; exact h.blt
  · exact h.vlt k e
theorem IxI.small (h : IxI w p b v ks) : ks.length ≤ 4 := pigeon 4 ks h.nd h.ok
theorem IxI.keep {S : Nat → Prop} (h : IxI w p b v ks) (f : Fr S w w') (hn : ∀ k, Foot p b v k → ¬ S k) : IxI w' p b v ks :=
  ⟨(f.cell (a := ⟨p, 0, none⟩) h.lt (hn p (.inl rfl))).trans h.c0, (f.cell (a := ⟨p, 1, none⟩) h.lt (hn p (.inl rfl))).trans h.c1,
    (f.frozen (a := ⟨p, 0, none⟩) h.lt (hn p (.inl rfl))).trans h.f0, own_keep h.own (fun g hg => f.block g (h.vlt g hg) (hn g (.inr (.inr hg)))),
    h.mp.keep (f.block b h.blt (hn b (.inr (.inl rfl)))), h.pb, h.vp, h.vb, h.nd, h.ok⟩
theorem IxI.below (h : IxI w p b v ks) (f : Below w.heap.size w w') : IxI w' p b v ks := h.keep (Fr.of_below (S := fun _ => False) f) (fun _ _ e => e)
theorem IxI.shape (h : IxI w p b v ks) : ∃ a cap, v = .slice a ks.length cap ∧ ks.length ≤ cap ∧ cap ≤ maxLen := by
  rcases h.own.2 with ⟨e, h0⟩ | ⟨g, cap, cur, e, _, _, h1, h2, _⟩
  · exact ⟨none, 0, by rw [e, h0], by omega, Nat.zero_le _⟩
  · exact ⟨_, cap, e, h1, h2⟩
end
end Go.Proofs.Ythmcalapofjmfab
