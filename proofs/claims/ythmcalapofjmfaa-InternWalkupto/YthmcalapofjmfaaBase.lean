/-
  An index in memory: its row, its map, and what a call of it may turn.
-/
import Derived.Test.YthmcalapofjmfaaMath
import Derived.WalkKit
import Derived.Below
import Derived.Deep.AppendLies
import Derived.Maps.OwnSet
import Derived.Deep.Draws
import Derived.KernelRfl
namespace Go.Proofs.Ythmcalapofjmfaa
open Go.RowKit Go.Maps
set_option linter.unusedVariables false

/-- From w to w' nothing has turned but the blocks of which S holds, and new ones. -/
structure Fr (S : Nat → Prop) (w w' : World) : Prop where
  os : w'.os = w.os
  tape : w'.tape = w.tape
  output : w'.output = w.output
  size : w.heap.size ≤ w'.heap.size
  block : ∀ k, k < w.heap.size → ¬ S k → w'.heap[k]? = w.heap[k]?

theorem Fr.refl (S : Nat → Prop) (w : World) : Fr S w w := ⟨rfl, rfl, rfl, Nat.le_refl _, fun _ _ _ => rfl⟩
theorem Fr.mono {S T : Nat → Prop} {w w' : World} (h : Fr S w w') (hs : ∀ k, k < w.heap.size → S k → T k) : Fr T w w' :=
  ⟨h.os, h.tape, h.output, h.size, fun k hk hn => h.block k hk (fun hS => hn (hs k hk hS))⟩
theorem Fr.trans {S : Nat → Prop} {a b c : World} (h : Fr S a b) (k : Fr S b c) : Fr S a c :=
  ⟨k.os.trans h.os, k.tape.trans h.tape, k.output.trans h.output, Nat.le_trans h.size k.size,
    fun i hi hn => (k.block i (Nat.lt_of_lt_of_le hi h.size) hn).trans (h.block i hi hn)⟩
theorem Fr.alloc {S : Nat → Prop} {a w : World} (h : Fr S a w) (o : Obj) : Fr S a (w.alloc o) :=
  ⟨h.os, h.tape, h.output, Nat.le_trans h.size (by simp), fun k hk hn => (Below.heap_alloc _ _ _ (Nat.lt_of_lt_of_le hk h.size)).trans (h.block k hk hn)⟩
theorem Fr.drew {S : Nat → Prop} {a w : World} (h : Fr S a w) : Fr S a w.drew := ⟨h.os, h.tape, h.output, h.size, h.block⟩
theorem Fr.setCell {S : Nat → Prop} {a w : World} (h : Fr S a w) (p : Addr) (hp : a.heap.size ≤ p.block ∨ S p.block) (u : Value) : Fr S a (w.setCell p u) :=
  ⟨h.os, h.tape, h.output, Nat.le_trans h.size (by simp [World.setCell]), fun k hk hn => by
    rw [Below.heap_setCell _ _ _ _ ?_]
    · exact h.block k hk hn
    · intro e; subst e
      rcases hp with hp | hp
      · omega
      · exact hn hp⟩
theorem Fr.grown {S : Nat → Prop} {a w w' : World} {row : Option Nat} (h : Fr S a w) (hg : w.grownBy w' row) (hr : ∀ k, row = some k → a.heap.size ≤ k ∨ S k) : Fr S a w' :=
  ⟨hg.os.trans h.os, hg.tape.trans h.tape, hg.output.trans h.output, Nat.le_trans h.size hg.size, fun k hk hn => by
    rw [hg.block k (Nat.lt_of_lt_of_le hk h.size) ?_]
    · exact h.block k hk hn
    · intro e
      rcases hr k e.symm with hp | hp
      · omega
      · exact hn hp⟩
theorem Fr.below {S : Nat → Prop} {B : Nat} {w w' : World} (h : Fr S w w') (hB : B ≤ w.heap.size) (hs : ∀ k, k < B → ¬ S k) : Below B w w' :=
  ⟨h.os, h.tape, h.output, h.size, fun k hk => h.block k (by omega) (hs k hk)⟩
theorem Fr.of_below {S : Nat → Prop} {w w' : World} (h : Below w.heap.size w w') : Fr S w w' :=
  ⟨h.os, h.tape, h.output, h.size, fun k hk _ => h.block k hk⟩
theorem Fr.cell {S : Nat → Prop} {w w' : World} (h : Fr S w w') {a : Addr} (hb : a.block < w.heap.size) (hn : ¬ S a.block) : w'.cell? a = w.cell? a :=
  World.cell?_of_block (h.block a.block hb hn)
theorem Fr.frozen {S : Nat → Prop} {w w' : World} (h : Fr S w w') {a : Addr} (hb : a.block < w.heap.size) (hn : ¬ S a.block) : w'.frozen? a = w.frozen? a :=
  World.frozen?_of_block (h.block a.block hb hn)

theorem Fr.drewN {S : Nat → Prop} {w : World} (n : Nat) : Fr S w (w.drewN n) := ⟨rfl, rfl, rfl, Nat.le_refl _, fun _ _ _ => rfl⟩

theorem own_keep {w w' : World} {base : Nat} {e : TypeId} {v : Value} {n : Nat} {xs : List Value} (h : w.ownsRow base e 1 v n xs) (hb : ∀ g, v.ownBlock = some g → w'.heap[g]? = w.heap[g]?) : w'.ownsRow base e 1 v n xs := by
  obtain ⟨h1, h2⟩ := h
  refine ⟨h1, ?_⟩
  rcases h2 with h2 | ⟨g, cap, cur, hv, hg, hh, r⟩
  · exact Or.inl h2
  · exact Or.inr ⟨g, cap, cur, hv, hg, by rw [hb g (by rw [hv]; rfl)]; exact hh, r⟩

/-- A key. -/
def ky (s : ByteArray) : Lit := .string s.data.toList
theorem ky_inj {s t : ByteArray} (h : ky s = ky t) : s = t := by
  unfold ky at h
  cases s; cases t
  simp at h
  simp [h]
theorem ky_key (s : ByteArray) : WideAt.IsKeyLit (ky s) := trivial
theorem law : Keyed Try.prog 9 := string_keyed Try.underlying9
theorem zeroE (w : World) : (zeroValue 3).run Try.prog w = .ok (.int .i64 0) w := by kernel_rfl
theorem ky_of {s : ByteArray} (h : s.size ≤ maxLen) : keyOf Try.prog 9 (.string s) = some (ky s) := WideMaps.keyOf_string_mk Try.underlying9 h

/-- Block b is a map of n entries, from texts to numbers. -/
def Mf (w : World) (b n : Nat) (f : ByteArray → Option Nat) : Prop :=
  ∃ D : DataW Unit, w.ownsMap Try.prog 9 (plainElem Try.prog 3) b n D ∧ Maps.size D = n ∧
    ∀ s, s.size ≤ maxLen → Maps.has D (ky s) = (f s).isSome ∧ D.atKey (ky s) (.lit (.int .i64 0)) = .lit (.int .i64 (((f s).getD 0 : Nat) : Int))

theorem Mf.lt {w : World} {b n : Nat} {f : ByteArray → Option Nat} (h : Mf w b n f) : b < w.heap.size := by
  obtain ⟨D, h1, _⟩ := h
  exact h1.lt
theorem Mf.keep {w w' : World} {b n : Nat} {f : ByteArray → Option Nat} (h : Mf w b n f) (hb : w'.heap[b]? = w.heap[b]?) : Mf w' b n f := by
  obtain ⟨D, ⟨es, clock, h1, h2⟩, h3⟩ := h
  exact ⟨D, ⟨es, clock, hb.trans h1, h2⟩, h3⟩
theorem Mf.congr {w : World} {b n : Nat} {f g : ByteArray → Option Nat} (h : Mf w b n f) (e : ∀ s, f s = g s) : Mf w b n g := by
  obtain rfl : f = g := funext e
  exact h
theorem Mf.made (w : World) : Mf (w.alloc (.map #[] 0)) w.heap.size 0 (fun _ => none) :=
  ⟨.map [], World.ownsMap_made _ _ _ _, rfl, fun s _ => ⟨rfl, rfl⟩⟩
theorem ownsMap_size {w : World} {b n : Nat} {D : DataW Unit} (h : w.ownsMap Try.prog 9 (plainElem Try.prog 3) b n D) : w.ownsMap Try.prog 9 (plainElem Try.prog 3) b (Maps.size D) D := by
  obtain ⟨es, clock, h1, h2, h3, rfl⟩ := h
  exact ⟨es, clock, h1, h2, by simp [Maps.size, length_sorted], rfl⟩

theorem Mf.look {w : World} {b n : Nat} {f : ByteArray → Option Nat} (h : Mf w b n f) (s : ByteArray) (hs : s.size ≤ maxLen) :
    (Instr.lookup 73 (.map (some b)) (.string s) true).run Try.prog w = .ok (.tuple #[.int .i64 (((f s).getD 0 : Nat) : Int), .bool (f s).isSome]) w := by
  obtain ⟨D, h1, h2, h3⟩ := h
  obtain ⟨v, ps, hrun, hv⟩ := h1.look_ok law Try.underlying73 (zeroE w) (plainElem_int Try.underlying3 (by decide)) (ky_of hs)
  obtain ⟨c, rfl, hc, _⟩ := plainElem_int_inv Try.underlying3 hv
  obtain ⟨e1, e2⟩ := h3 s hs
  simp only [Prod.mk.injEq] at hc
  rw [e2] at hc
  rw [hrun, e1]
  have := hc.1
  simp only [DataW.lit.injEq, Lit.int.injEq, true_and] at this
  rw [this]

theorem Mf.put {w : World} {b n : Nat} {f : ByteArray → Option Nat} (h : Mf w b n f) (s : ByteArray) (hs : s.size ≤ maxLen) (hf : f s = none) (i : Nat) (hi : i < 9223372036854775808) (hn : n < maxLen) :
    ∃ w', (Instr.mapUpdate 73 (.map (some b)) (.string s) (.int .i64 (i : Int))).run Try.prog w = .ok () w' ∧ Mf w' b (n + 1) (fun t => if t = s then some i else f t) ∧ w.grownBy w' (some b) := by
  obtain ⟨D, h1, h2, h3⟩ := h
  have hwf : (Lit.int .i64 (i : Int)).wf = true := WalkArith.wf_i64 (by omega)
  obtain ⟨w', hrun, r1, r2⟩ := h1.update law Try.underlying73 hn (ky_of hs) (plainElem_int Try.underlying3 hwf)
  have hno : Maps.has D (ky s) = false := by rw [(h3 s hs).1, hf]; rfl
  refine ⟨w', hrun, ⟨_, r1, ?_, fun t ht => ?_⟩, r2⟩
  · rw [size_put (h1.tidy law), hno]
    simp [h2]
  · show _ = (if t = s then some i else f t).isSome ∧ _ = DataW.lit (.int .i64 (((if t = s then some i else f t).getD 0 : Nat) : Int))
    by_cases e : t = s
    · subst e
      rw [if_pos rfl, has_put_same h1.isMap (ky_key t), atKey_put_same h1.isMap (ky_key t)]
      exact ⟨rfl, rfl⟩
    · rw [if_neg e, has_put_other (fun q => e (ky_inj q)), atKey_put_other (fun q => e (ky_inj q))]
      exact h3 t ht

theorem Mf.del {w : World} {b n : Nat} {f : ByteArray → Option Nat} (h : Mf w b (n + 1) f) (s : ByteArray) (hs : s.size ≤ maxLen) (hf : (f s).isSome = true) (ty : TypeId) :
    ∃ w', (Builtin.delete_ #[73, 9] ty #[.map (some b), .string s]).run Try.prog w = .ok (.tuple #[]) w' ∧ Mf w' b n (fun t => if t = s then none else f t) ∧ w.grownBy w' (some b) := by
  obtain ⟨D, h1, h2, h3⟩ := h
  obtain ⟨w', hrun, r1, r2⟩ := h1.drop law Try.underlying73 (ky_of hs) ty
  have hz : Maps.size (D.del (ky s)) = n := by
    have := size_del (k := ky s) (h1.tidy law)
    rw [(h3 s hs).1, hf, if_pos rfl, h2] at this
    omega
  refine ⟨w', hrun, ⟨_, hz ▸ ownsMap_size r1, hz, fun t ht => ?_⟩, r2.grown⟩
  show _ = (if t = s then none else f t).isSome ∧ _ = DataW.lit (.int .i64 (((if t = s then none else f t).getD 0 : Nat) : Int))
  by_cases e : t = s
  · subst e
    rw [if_pos rfl, has_del_same, atKey_del_same]
    exact ⟨rfl, rfl⟩
  · rw [if_neg e, has_del_other (fun q => e (ky_inj q)), atKey_del_other (fun q => e (ky_inj q))]
    exact h3 t ht

/-- At block p lies an index of the texts rs: its row v, its map in block b. -/
structure Ix (w : World) (p b : Nat) (v : Value) (rs : List ByteArray) : Prop where
  c0 : w.cell? ⟨p, 0, none⟩ = some v
  c1 : w.cell? ⟨p, 1, none⟩ = some (.map (some b))
  f0 : w.frozen? ⟨p, 0, none⟩ = false
  own : w.ownsRow 0 9 1 v rs.length (rs.map Value.string)
  mp : Mf w b rs.length (idx rs)
  pb : p ≠ b
  vp : v.ownBlock ≠ some p
  vb : v.ownBlock ≠ some b
  nd : rs.Nodup
  ok : ∀ s ∈ rs, s.size ≤ maxLen

/-- What is an index's own. -/
def Foot (p b : Nat) (v : Value) : Nat → Prop := fun k => k = p ∨ k = b ∨ v.ownBlock = some k

/-- A call of the index: it turns its own alone, and its row stays or is a new one. -/
structure IStep (p b : Nat) (w : World) (v : Value) (w' : World) (v' : Value) : Prop where
  fr : Fr (Foot p b v) w w'
  row : v'.ownBlock = v.ownBlock ∨ ∀ k, v'.ownBlock = some k → w.heap.size ≤ k

theorem IStep.refl (p b : Nat) (w : World) (v : Value) : IStep p b w v w v := ⟨Fr.refl _ _, .inl rfl⟩
theorem IStep.trans {p b : Nat} {w w1 w2 : World} {v v1 v2 : Value} (h : IStep p b w v w1 v1) (k : IStep p b w1 v1 w2 v2) : IStep p b w v w2 v2 := by
  have hs := h.fr.size
  refine ⟨⟨k.fr.os.trans h.fr.os, k.fr.tape.trans h.fr.tape, k.fr.output.trans h.fr.output, Nat.le_trans hs k.fr.size, fun i hi hn => ?_⟩, ?_⟩
  · rw [k.fr.block i (by omega) ?_]
    · exact h.fr.block i hi hn
    · rintro (e | e | e)
      · exact hn (.inl e)
      · exact hn (.inr (.inl e))
      · rcases h.row with r | r
        · exact hn (.inr (.inr (r ▸ e)))
        · have := r i e; omega
  · rcases k.row with r | r
    · rcases h.row with q | q
      · exact .inl (r.trans q)
      · exact .inr fun k hk => q k (r ▸ hk)
    · exact .inr fun k hk => by have := r k hk; omega
theorem IStep.below {p b : Nat} {w w' : World} {v v' : Value} {B : Nat} (h : IStep p b w v w' v') (hB : B ≤ w.heap.size) (hp : B ≤ p) (hb : B ≤ b) (hv : ∀ k, v.ownBlock = some k → B ≤ k) : Below B w w' :=
  h.fr.below hB (fun k hk => by
    rintro (e | e | e)
    · omega
    · omega
    · have := hv k e; omega)

section
variable {w w' : World} {p b : Nat} {v : Value} {rs : List ByteArray}
theorem Ix.lt (h : Ix w p b v rs) : p < w.heap.size := World.block_lt_of_cell? _ _ h.c0
theorem Ix.blt (h : Ix w p b v rs) : b < w.heap.size := h.mp.lt
theorem Ix.vlt (h : Ix w p b v rs) : ∀ k, v.ownBlock = some k → k < w.heap.size := fun k hk => (h.own.lt k hk).2
theorem Ix.foot (h : Ix w p b v rs) : ∀ k, Foot p b v k → k < w.heap.size := by
  rintro k (e | e | e)
  · rw [e]; exact h.lt
  · rw [e]; exact h.blt
  · exact h.vlt k e

/-- An index is as it was where its own blocks are. -/
theorem Ix.keep {S : Nat → Prop} (h : Ix w p b v rs) (f : Fr S w w') (hn : ∀ k, Foot p b v k → ¬ S k) : Ix w' p b v rs :=
  ⟨(f.cell (a := ⟨p, 0, none⟩) h.lt (hn p (.inl rfl))).trans h.c0, (f.cell (a := ⟨p, 1, none⟩) h.lt (hn p (.inl rfl))).trans h.c1,
    (f.frozen (a := ⟨p, 0, none⟩) h.lt (hn p (.inl rfl))).trans h.f0, own_keep h.own (fun g hg => f.block g (h.vlt g hg) (hn g (.inr (.inr hg)))),
    h.mp.keep (f.block b h.blt (hn b (.inr (.inl rfl)))), h.pb, h.vp, h.vb, h.nd, h.ok⟩
theorem Ix.below (h : Ix w p b v rs) (f : Below w.heap.size w w') : Ix w' p b v rs := h.keep (Fr.of_below (S := fun _ => False) f) (fun _ _ e => e)

/-- Its row, as a slice. -/
theorem Ix.shape (h : Ix w p b v rs) : ∃ a cap, v = .slice a rs.length cap := by
  rcases h.own.2 with ⟨e, h0⟩ | ⟨g, cap, cur, e, _⟩
  · exact ⟨none, 0, by rw [e, h0]⟩
  · exact ⟨_, cap, e⟩
theorem Ix.at (h : Ix w p b v rs) {i : Nat} (hi : i < rs.length) : ∃ g cap, v = .slice (some ⟨g, 0, none⟩) rs.length cap ∧ w.cell? ⟨g, i, none⟩ = some (.string (tx rs i)) := by
  rcases h.own.2 with ⟨e, h0⟩ | ⟨g, cap, cur, e, hb, hg, hn, hc, hs, ht⟩
  · omega
  · refine ⟨g, cap, e, ?_⟩
    have hlen : i < cur.size := by rw [hs]; omega
    have h2 : (cur.toList.take (rs.length * 1))[i]? = some (cur.toList[i]'(by simpa using hlen)) := by
      rw [List.getElem?_take, if_pos (by omega)]
      exact List.getElem?_eq_getElem _
    rw [ht, List.getElem?_map, List.getElem?_eq_getElem hi] at h2
    simp only [Option.map_some, Option.some.injEq] at h2
    have e3 : tx rs i = rs[i] := by simp [tx, List.getD, List.getElem?_eq_getElem hi]
    rw [e3, h2]
    simp [World.cell?, hg, hlen]
end
end Go.Proofs.Ythmcalapofjmfaa
