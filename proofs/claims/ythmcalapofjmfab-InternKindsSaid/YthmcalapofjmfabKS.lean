/-
  An index in memory (kind S).
-/
import Derived.Test.YthmcalapofjmfabKBase
import Derived.DeepKeys5
namespace Go.Proofs.Ythmcalapofjmfab
open Go.RowKit Go.Maps
set_option linter.unusedVariables false

/-- The things. -/
def valS : Nat → Value
  | 0 => .string ⟨#[42]⟩
  | 1 => .string ⟨#[42, 49]⟩
  | 2 => .string ⟨#[42, 50]⟩
  | 3 => .string ⟨#[42, 51]⟩
  | 4 => .string ⟨#[111, 110, 101]⟩
  | 5 => .string ⟨#[116, 119, 111]⟩
  | _ => .string ⟨#[116, 104, 114, 101, 101]⟩
/-- Their cells. -/
def clS (k : Nat) : List Value := (valS k).cells.toList
theorem clS_length (k : Nat) : (clS k).length = 1 := by
  unfold clS valS
  split <;> rfl
/-- Their keys. -/
noncomputable def kyS (k : Nat) : Lit := (keyOf Try.prog 9 (valS k)).getD .nil
theorem kyS_s0 : (keyOf Try.prog 9 (valS 0)).isSome = true := by kernel_rfl
theorem kyS_s1 : (keyOf Try.prog 9 (valS 1)).isSome = true := by kernel_rfl
theorem kyS_s2 : (keyOf Try.prog 9 (valS 2)).isSome = true := by kernel_rfl
theorem kyS_s3 : (keyOf Try.prog 9 (valS 3)).isSome = true := by kernel_rfl
theorem kyS_s4 : (keyOf Try.prog 9 (valS 4)).isSome = true := by kernel_rfl
theorem kyS_s5 : (keyOf Try.prog 9 (valS 5)).isSome = true := by kernel_rfl
theorem kyS_s6 : (keyOf Try.prog 9 (valS 6)).isSome = true := by kernel_rfl
theorem kyS_of {k : Nat} (h : k < 7) : keyOf Try.prog 9 (valS k) = some (kyS k) := by
  have e : (keyOf Try.prog 9 (valS k)).isSome = true := by
    match k, h with
    | 0, _ => exact kyS_s0
    | 1, _ => exact kyS_s1
    | 2, _ => exact kyS_s2
    | 3, _ => exact kyS_s3
    | 4, _ => exact kyS_s4
    | 5, _ => exact kyS_s5
    | 6, _ => exact kyS_s6
  unfold kyS
  cases q : keyOf Try.prog 9 (valS k) with
  | none => rw [q] at e; cases e
  | some l => rfl
theorem lawS : Keyed Try.prog 9 := string_keyed Try.underlying9
theorem valS_inj {i j : Nat} (hi : i < 7) (hj : j < 7) (h : valS i = valS j) : i = j := by
  match i, hi, j, hj, h with
  | 0, _, 0, _, h => rfl
  | 0, _, 1, _, h => simp [valS] at h
  | 0, _, 2, _, h => simp [valS] at h
  | 0, _, 3, _, h => simp [valS] at h
  | 0, _, 4, _, h => simp [valS] at h
  | 0, _, 5, _, h => simp [valS] at h
  | 0, _, 6, _, h => simp [valS] at h
  | 1, _, 0, _, h => simp [valS] at h
  | 1, _, 1, _, h => rfl
  | 1, _, 2, _, h => simp [valS] at h
  | 1, _, 3, _, h => simp [valS] at h
  | 1, _, 4, _, h => simp [valS] at h
  | 1, _, 5, _, h => simp [valS] at h
  | 1, _, 6, _, h => simp [valS] at h
  | 2, _, 0, _, h => simp [valS] at h
  | 2, _, 1, _, h => simp [valS] at h
  | 2, _, 2, _, h => rfl
  | 2, _, 3, _, h => simp [valS] at h
  | 2, _, 4, _, h => simp [valS] at h
  | 2, _, 5, _, h => simp [valS] at h
  | 2, _, 6, _, h => simp [valS] at h
  | 3, _, 0, _, h => simp [valS] at h
  | 3, _, 1, _, h => simp [valS] at h
  | 3, _, 2, _, h => simp [valS] at h
  | 3, _, 3, _, h => rfl
  | 3, _, 4, _, h => simp [valS] at h
  | 3, _, 5, _, h => simp [valS] at h
  | 3, _, 6, _, h => simp [valS] at h
  | 4, _, 0, _, h => simp [valS] at h
  | 4, _, 1, _, h => simp [valS] at h
  | 4, _, 2, _, h => simp [valS] at h
  | 4, _, 3, _, h => simp [valS] at h
  | 4, _, 4, _, h => rfl
  | 4, _, 5, _, h => simp [valS] at h
  | 4, _, 6, _, h => simp [valS] at h
  | 5, _, 0, _, h => simp [valS] at h
  | 5, _, 1, _, h => simp [valS] at h
  | 5, _, 2, _, h => simp [valS] at h
  | 5, _, 3, _, h => simp [valS] at h
  | 5, _, 4, _, h => simp [valS] at h
  | 5, _, 5, _, h => rfl
  | 5, _, 6, _, h => simp [valS] at h
  | 6, _, 0, _, h => simp [valS] at h
  | 6, _, 1, _, h => simp [valS] at h
  | 6, _, 2, _, h => simp [valS] at h
  | 6, _, 3, _, h => simp [valS] at h
  | 6, _, 4, _, h => simp [valS] at h
  | 6, _, 5, _, h => simp [valS] at h
  | 6, _, 6, _, h => rfl
theorem kyS_inj {i j : Nat} (hi : i < 7) (hj : j < 7) (h : kyS i = kyS j) : i = j :=
  valS_inj hi hj (lawS.inj (kyS_of hi) (by rw [h]; exact kyS_of hj))
theorem zeroES (w : World) : (zeroValue 3).run Try.prog w = .ok (.int .i64 0) w := by kernel_rfl

/-- Block b is a map of n entries. -/
def MfS (w : World) (b n : Nat) (f : Nat → Option Nat) : Prop :=
  ∃ D : DataW Unit, w.ownsMap Try.prog 9 (plainElem Try.prog 3) b n D ∧ Maps.size D = n ∧
    ∀ k, k < 7 → Maps.has D (kyS k) = (f k).isSome ∧ D.atKey (kyS k) (.lit (.int .i64 0)) = .lit (.int .i64 (((f k).getD 0 : Nat) : Int))
theorem MfS.lt {w : World} {b n : Nat} {f : Nat → Option Nat} (h : MfS w b n f) : b < w.heap.size := by
  obtain ⟨D, h1, _⟩ := h
  exact h1.lt
theorem MfS.keep {w w' : World} {b n : Nat} {f : Nat → Option Nat} (h : MfS w b n f) (hb : w'.heap[b]? = w.heap[b]?) : MfS w' b n f := by
  obtain ⟨D, ⟨es, clock, h1, h2⟩, h3⟩ := h
  exact ⟨D, ⟨es, clock, hb.trans h1, h2⟩, h3⟩
theorem MfS.congr {w : World} {b n : Nat} {f g : Nat → Option Nat} (h : MfS w b n f) (e : ∀ s, f s = g s) : MfS w b n g := by
  obtain rfl : f = g := funext e
  exact h
theorem MfS.made (w : World) : MfS (w.alloc (.map #[] 0)) w.heap.size 0 (fun _ => none) :=
  ⟨.map [], World.ownsMap_made _ _ _ _, rfl, fun s _ => ⟨rfl, rfl⟩⟩
theorem ownsMap_sizeS {w : World} {b n : Nat} {D : DataW Unit} (h : w.ownsMap Try.prog 9 (plainElem Try.prog 3) b n D) : w.ownsMap Try.prog 9 (plainElem Try.prog 3) b (Maps.size D) D := by
  obtain ⟨es, clock, h1, h2, h3, rfl⟩ := h
  exact ⟨es, clock, h1, h2, by simp [Maps.size, length_sorted], rfl⟩
theorem MfS.look {w : World} {b n : Nat} {f : Nat → Option Nat} (h : MfS w b n f) (k : Nat) (hk : k < 7) :
    (Instr.lookup 52 (.map (some b)) (valS k) true).run Try.prog w = .ok (.tuple #[.int .i64 (((f k).getD 0 : Nat) : Int), .bool (f k).isSome]) w := by
  obtain ⟨D, h1, h2, h3⟩ := h
  obtain ⟨v, ps, hrun, hv⟩ := h1.look_ok lawS Try.underlying52 (zeroES w) (plainElem_int Try.underlying3 (by decide)) (kyS_of hk)
  obtain ⟨c, rfl, hc, _⟩ := plainElem_int_inv Try.underlying3 hv
  obtain ⟨e1, e2⟩ := h3 k hk
  simp only [Prod.mk.injEq] at hc
  rw [e2] at hc
  rw [hrun, e1]
  have := hc.1
  simp only [DataW.lit.injEq, Lit.int.injEq, true_and] at this
  rw [this]
theorem MfS.put {w : World} {b n : Nat} {f : Nat → Option Nat} (h : MfS w b n f) (k : Nat) (hk : k < 7) (hf : f k = none) (i : Nat) (hi : i < 9223372036854775808) (hn : n < maxLen) :
    ∃ w', (Instr.mapUpdate 52 (.map (some b)) (valS k) (.int .i64 (i : Int))).run Try.prog w = .ok () w' ∧ MfS w' b (n + 1) (fun j => if j = k then some i else f j) ∧ w.grownBy w' (some b) := by
  obtain ⟨D, h1, h2, h3⟩ := h
  have hwf : (Lit.int .i64 (i : Int)).wf = true := WalkArith.wf_i64 (by omega)
  obtain ⟨w', hrun, r1, r2⟩ := h1.update lawS Try.underlying52 hn (kyS_of hk) (plainElem_int Try.underlying3 hwf)
  have hno : Maps.has D (kyS k) = false := by rw [(h3 k hk).1, hf]; rfl
  refine ⟨w', hrun, ⟨_, r1, ?_, fun j hj => ?_⟩, r2⟩
  · rw [size_put (h1.tidy lawS), hno]
    simp [h2]
  · show _ = (if j = k then some i else f j).isSome ∧ _ = DataW.lit (.int .i64 (((if j = k then some i else f j).getD 0 : Nat) : Int))
    by_cases e : j = k
    · subst e
      rw [if_pos rfl, has_put_same h1.isMap (lawS.key (kyS_of hj)), atKey_put_same h1.isMap (lawS.key (kyS_of hj))]
      exact ⟨rfl, rfl⟩
    · rw [if_neg e, has_put_other (fun q => e (kyS_inj hj hk q)), atKey_put_other (fun q => e (kyS_inj hj hk q))]
      exact h3 j hj
theorem MfS.del {w : World} {b n : Nat} {f : Nat → Option Nat} (h : MfS w b (n + 1) f) (k : Nat) (hk : k < 7) (hf : (f k).isSome = true) (ty : TypeId) :
    ∃ w', (Builtin.delete_ #[52, 9] ty #[.map (some b), valS k]).run Try.prog w = .ok (.tuple #[]) w' ∧ MfS w' b n (fun j => if j = k then none else f j) ∧ w.grownBy w' (some b) := by
  obtain ⟨D, h1, h2, h3⟩ := h
  obtain ⟨w', hrun, r1, r2⟩ := h1.drop lawS Try.underlying52 (kyS_of hk) ty
  have hz : Maps.size (D.del (kyS k)) = n := by
    have := size_del (k := kyS k) (h1.tidy lawS)
    rw [(h3 k hk).1, hf, if_pos rfl, h2] at this
    omega
  refine ⟨w', hrun, ⟨_, hz ▸ ownsMap_sizeS r1, hz, fun j hj => ?_⟩, r2.grown⟩
  show _ = (if j = k then none else f j).isSome ∧ _ = DataW.lit (.int .i64 (((if j = k then none else f j).getD 0 : Nat) : Int))
  by_cases e : j = k
  · subst e
    rw [if_pos rfl, has_del_same, atKey_del_same]
    exact ⟨rfl, rfl⟩
  · rw [if_neg e, has_del_other (fun q => e (kyS_inj hj hk q)), atKey_del_other (fun q => e (kyS_inj hj hk q))]
    exact h3 j hj

/-- At block p lies an index of the things ks. -/
structure IxS (w : World) (p b : Nat) (v : Value) (ks : List Nat) : Prop where
  c0 : w.cell? ⟨p, 0, none⟩ = some v
  c1 : w.cell? ⟨p, 1, none⟩ = some (.map (some b))
  f0 : w.frozen? ⟨p, 0, none⟩ = false
  own : w.ownsRow 0 9 1 v ks.length (ks.flatMap clS)
  mp : MfS w b ks.length (idx ks)
  pb : p ≠ b
  vp : v.ownBlock ≠ some p
  vb : v.ownBlock ≠ some b
  nd : ks.Nodup
  ok : ∀ k ∈ ks, k < 7
section
variable {w w' : World} {p b : Nat} {v : Value} {ks : List Nat}
theorem IxS.lt (h : IxS w p b v ks) : p < w.heap.size := World.block_lt_of_cell? _ _ h.c0
theorem IxS.blt (h : IxS w p b v ks) : b < w.heap.size := h.mp.lt
theorem IxS.vlt (h : IxS w p b v ks) : ∀ k, v.ownBlock = some k → k < w.heap.size := fun k hk => (h.own.lt k hk).2
theorem IxS.foot (h : IxS w p b v ks) : ∀ k, Foot p b v k → k < w.heap.size := by
  rintro k (e | e | e)
  · rw [e]; exact h.lt
  · rw [e]; exact h.blt
  · exact h.vlt k e
theorem IxS.small (h : IxS w p b v ks) : ks.length ≤ 7 := pigeon 7 ks h.nd h.ok
theorem IxS.keep {S : Nat → Prop} (h : IxS w p b v ks) (f : Fr S w w') (hn : ∀ k, Foot p b v k → ¬ S k) : IxS w' p b v ks :=
  ⟨(f.cell (a := ⟨p, 0, none⟩) h.lt (hn p (.inl rfl))).trans h.c0, (f.cell (a := ⟨p, 1, none⟩) h.lt (hn p (.inl rfl))).trans h.c1,
    (f.frozen (a := ⟨p, 0, none⟩) h.lt (hn p (.inl rfl))).trans h.f0, own_keep h.own (fun g hg => f.block g (h.vlt g hg) (hn g (.inr (.inr hg)))),
    h.mp.keep (f.block b h.blt (hn b (.inr (.inl rfl)))), h.pb, h.vp, h.vb, h.nd, h.ok⟩
theorem IxS.below (h : IxS w p b v ks) (f : Below w.heap.size w w') : IxS w' p b v ks := h.keep (Fr.of_below (S := fun _ => False) f) (fun _ _ e => e)
theorem IxS.shape (h : IxS w p b v ks) : ∃ a cap, v = .slice a ks.length cap ∧ ks.length ≤ cap ∧ cap ≤ maxLen := by
  rcases h.own.2 with ⟨e, h0⟩ | ⟨g, cap, cur, e, _, _, h1, h2, _⟩
  · exact ⟨none, 0, by rw [e, h0], by omega, Nat.zero_le _⟩
  · exact ⟨_, cap, e, h1, h2⟩
end
end Go.Proofs.Ythmcalapofjmfab
