/-
  The document's book: an object with new numbers: what stands while it is made.
-/
import Derived.Test.YtadgiccfjppnfaaBvs
namespace Go.Proofs.Ytadgiccfjppnfaa
open Go.RowKit
set_option linter.unusedVariables false
set_option linter.unusedSimpArgs false
/-- While a record is made: the book (c1), its keys and its values so far, the three boxes. -/
structure RcM (B bb nt no : Nat) (c c1 : Nat → Value) (w : World) (inp : Array Value) (o : Ob) (m : List Nat × List Nat) (wr : World) (kv iv : Value) (ks : List Int) (its : List (Int × Int)) : Prop where
  b : BkM B bb nt no c1 wr m.1 m.2
  f : Fr (bkb c bb) w wr
  nb : ∀ k, bkb c1 bb k → bkb c bb k ∨ w.heap.size + 1 + 1 + 1 ≤ k
  lt : ∀ k, bkb c bb k → k < w.heap.size
  c6 : ∀ i, i ≤ 6 → c1 i = c i
  k : Ro wr 1 kv ks.length (flt enL ks)
  i : Ro wr 2 iv its.length (flt enI its)
  kb : ∀ k, kv.ownBlock = some k → w.heap.size + 1 + 1 + 1 ≤ k ∧ ¬ bkb c1 bb k
  ib : ∀ k, iv.ownBlock = some k → w.heap.size + 1 + 1 + 1 ≤ k ∧ ¬ bkb c1 bb k ∧ kv.ownBlock ≠ some k
  p : wr.heap[w.heap.size]? = some (.cells inp 43)
  q : wr.heap[w.heap.size + 1]? = some (.cells #[.int .i64 0, .slice none 0 0, .slice none 0 0, .int .i64 0, .int .i64 0, .bool false] 43)
  x : wr.heap[w.heap.size + 1 + 1]? = some (.cells #[.int .i64 o.kind, iv, kv, .int .i64 o.fn, .int .i64 o.cap, .bool o.shut] 43)
def RcI (B bb nt no : Nat) (c : Nat → Value) (w : World) (inp : Array Value) (o : Ob) (m : List Nat × List Nat) (wr : World) (kv iv : Value) (ks : List Int) (its : List (Int × Int)) : Prop := ∃ c1, RcM B bb nt no c c1 w inp o m wr kv iv ks its
theorem RcI.key {B bb nt no : Nat} {c : Nat → Value} {w wr w1 Wa w2 : World} {inp : Array Value} {o : Ob} {m m' : List Nat × List Nat} {kv iv v' : Value} {ks : List Int} {its : List (Int × Int)} {c1 : Nat → Value} {p : Int} {q : Nat} (h : RcM B bb nt no c c1 w inp o m wr kv iv ks its)
    (hb : BkP B bb nt no c1 wr m'.1 m'.2 w1) (ha : Below w1.heap.size w1 Wa) (hr : Ro w2 1 v' q (flt enL ks ++ enL p)) (hq : q = ks.length + 1) (hg : Wa.grownBy w2 kv.ownBlock) (hat : v'.ownBlock = kv.ownBlock ∨ v'.ownBlock = some Wa.heap.size) :
    RcI B bb nt no c w inp o m' (w2.setCell ⟨w.heap.size + 1 + 1, 2, none⟩ v') v' iv (ks ++ [p]) its ∧ w2.heap[w.heap.size + 1 + 1]? = some (.cells #[.int .i64 o.kind, iv, kv, .int .i64 o.fn, .int .i64 o.cap, .bool o.shut] 43) := by
  subst hq
  obtain ⟨c2, b1, b2, b3, b4⟩ := hb
  have hN : w.heap.size + 1 + 1 < wr.heap.size := (Array.getElem?_eq_some_iff.1 h.x).1
  have hlt : ∀ k, bkb c2 bb k → k < w1.heap.size := fun k hk => (b1.in hk).2
  have hsa := ha.size
  have hs1 := b2.size
  have nm : ∀ k, kv.ownBlock = some k → ¬ bkb c2 bb k := fun k hk q => by
    rcases b3 k q with r | r
    · exact (h.kb k hk).2 r
    · have := h.k.lt k hk; omega
  have no' : ∀ k, iv.ownBlock = some k → ¬ bkb c2 bb k := fun k hk q => by
    rcases b3 k q with r | r
    · exact (h.ib k hk).2.1 r
    · have := h.i.lt k hk; omega
  have hap : ∀ k, iv.ownBlock = some k → kv.ownBlock ≠ some k := fun k hk q => (h.ib k hk).2.2 q
  have n3 : ∀ k, bkb c1 bb k → k < w.heap.size ∨ w.heap.size + 1 + 1 + 1 ≤ k := fun k hk => by
    rcases h.nb k hk with r | r
    · exact .inl (h.lt k r)
    · exact .inr r
  have f1 : Fr (bkb c1 bb) wr w1 := b2
  have f2 : Fr (fun k => kv.ownBlock = some k) w1 w2 := (Fr.of_below (S := fun k => kv.ownBlock = some k) ha).trans ((Fr.refl _ Wa).grown hg (fun k e => .inr e))
  have fx : Fr (fun k => k = w.heap.size + 1 + 1) w2 (w2.setCell ⟨w.heap.size + 1 + 1, 2, none⟩ v') := (Fr.refl (fun k => k = w.heap.size + 1 + 1) w2).setCell ⟨w.heap.size + 1 + 1, 2, none⟩ (.inr rfl) v'
  have hs2 := f2.size
  have hme3 : ∀ k, kv.ownBlock = some k → w.heap.size + 1 + 1 + 1 ≤ k := fun k hk => (h.kb k hk).1
  have hot3 : ∀ k, iv.ownBlock = some k → w.heap.size + 1 + 1 + 1 ≤ k := fun k hk => (h.ib k hk).1
  have box : ∀ k, w.heap.size ≤ k → k < w.heap.size + 1 + 1 + 1 → w2.heap[k]? = wr.heap[k]? := fun k h1 h2 => (f2.block k (by omega) (fun e => by have := hme3 k e; omega)).trans (f1.block k (by omega) (fun e => by have := n3 k e; omega))
  have hx2 : w2.heap[w.heap.size + 1 + 1]? = some (.cells #[.int .i64 o.kind, iv, kv, .int .i64 o.fn, .int .i64 o.cap, .bool o.shut] 43) := (box _ (by omega) (by omega)).trans h.x
  have hv' : ∀ k, v'.ownBlock = some k → kv.ownBlock = some k ∨ w1.heap.size ≤ k := fun k hk => by
    rcases hat with q | q
    · exact .inl (q ▸ hk)
    · rw [q] at hk; cases hk; exact .inr hsa
  refine ⟨⟨c2, ⟨(b1.fr f2 (fun k hk e => nm k e hk)).fr fx (fun k hk e => ?_), ?_, fun k hk => ?_, fun k hk => h.lt k hk, fun i hi => (b4 i hi).trans (h.c6 i hi), ?_, ?_, fun k hk => ?_, fun k hk => ?_, ?_, ?_, ?_⟩⟩, hx2⟩
  · rcases b3 k hk with r | r
    · have := n3 k r; omega
    · omega
  · have f3 : Fr (fun k => bkb c bb k ∨ w.heap.size ≤ k) w w1 := (h.f.mono (fun k _ e => .inl e)).trans (f1.mono (fun k _ e => by
      rcases h.nb k e with r | r
      · exact .inl r
      · exact .inr (by omega)))
    have f4 := (f3.trans (f2.mono (fun k _ e => .inr (by have := hme3 k e; omega)))).trans (fx.mono (fun k _ e => .inr (by omega)))
    exact f4.mono (fun k hk e => by
      rcases e with e | e
      · exact e
      · omega)
  · rcases b3 k hk with r | r
    · exact h.nb k r
    · exact .inr (by omega)
  · show Ro _ 1 v' _ _
    rw [List.length_append, flt_append, flt_one]
    exact hr.fr fx (fun k hk e => by
      rcases hv' k hk with q | q
      · have := hme3 k q; omega
      · omega)
  · exact ((h.i.fr f1 (fun k hk e => (h.ib k hk).2.1 e)).fr f2 (fun k hk e => hap k hk e)).fr fx (fun k hk e => by have := hot3 k hk; omega)
  · rcases hv' k hk with q | q
    · exact ⟨hme3 k q, nm k q⟩
    · exact ⟨by omega, fun e => by have := hlt k e; omega⟩
  · refine ⟨hot3 k hk, no' k hk, fun e => ?_⟩
    rcases hv' k e with q | q
    · exact hap k hk q
    · have := h.i.lt k hk; omega
  · exact (fx.block _ (by omega) (by omega)).trans ((box _ (by omega) (by omega)).trans h.p)
  · exact (fx.block _ (by omega) (by omega)).trans ((box _ (by omega) (by omega)).trans h.q)
  · rw [setCell_block hx2 v']
    rfl
theorem RcI.item {B bb nt no : Nat} {c : Nat → Value} {w wr w1 Wa w2 : World} {inp : Array Value} {o : Ob} {m m' : List Nat × List Nat} {kv iv v' : Value} {ks : List Int} {its : List (Int × Int)} {c1 : Nat → Value} {p : Int × Int} {q : Nat} (h : RcM B bb nt no c c1 w inp o m wr kv iv ks its)
    (hb : BkP B bb nt no c1 wr m'.1 m'.2 w1) (ha : Below w1.heap.size w1 Wa) (hr : Ro w2 2 v' q (flt enI its ++ enI p)) (hq : q = its.length + 1) (hg : Wa.grownBy w2 iv.ownBlock) (hat : v'.ownBlock = iv.ownBlock ∨ v'.ownBlock = some Wa.heap.size) :
    RcI B bb nt no c w inp o m' (w2.setCell ⟨w.heap.size + 1 + 1, 1, none⟩ v') kv v' ks (its ++ [p]) ∧ w2.heap[w.heap.size + 1 + 1]? = some (.cells #[.int .i64 o.kind, iv, kv, .int .i64 o.fn, .int .i64 o.cap, .bool o.shut] 43) := by
  subst hq
  obtain ⟨c2, b1, b2, b3, b4⟩ := hb
  have hN : w.heap.size + 1 + 1 < wr.heap.size := (Array.getElem?_eq_some_iff.1 h.x).1
  have hlt : ∀ k, bkb c2 bb k → k < w1.heap.size := fun k hk => (b1.in hk).2
  have hsa := ha.size
  have hs1 := b2.size
  have nm : ∀ k, iv.ownBlock = some k → ¬ bkb c2 bb k := fun k hk q => by
    rcases b3 k q with r | r
    · exact (h.ib k hk).2.1 r
    · have := h.i.lt k hk; omega
  have no' : ∀ k, kv.ownBlock = some k → ¬ bkb c2 bb k := fun k hk q => by
    rcases b3 k q with r | r
    · exact (h.kb k hk).2 r
    · have := h.k.lt k hk; omega
  have hap : ∀ k, kv.ownBlock = some k → iv.ownBlock ≠ some k := fun k hk q => (h.ib k q).2.2 hk
  have n3 : ∀ k, bkb c1 bb k → k < w.heap.size ∨ w.heap.size + 1 + 1 + 1 ≤ k := fun k hk => by
    rcases h.nb k hk with r | r
    · exact .inl (h.lt k r)
    · exact .inr r
  have f1 : Fr (bkb c1 bb) wr w1 := b2
  have f2 : Fr (fun k => iv.ownBlock = some k) w1 w2 := (Fr.of_below (S := fun k => iv.ownBlock = some k) ha).trans ((Fr.refl _ Wa).grown hg (fun k e => .inr e))
  have fx : Fr (fun k => k = w.heap.size + 1 + 1) w2 (w2.setCell ⟨w.heap.size + 1 + 1, 1, none⟩ v') := (Fr.refl (fun k => k = w.heap.size + 1 + 1) w2).setCell ⟨w.heap.size + 1 + 1, 1, none⟩ (.inr rfl) v'
  have hs2 := f2.size
  have hme3 : ∀ k, iv.ownBlock = some k → w.heap.size + 1 + 1 + 1 ≤ k := fun k hk => (h.ib k hk).1
  have hot3 : ∀ k, kv.ownBlock = some k → w.heap.size + 1 + 1 + 1 ≤ k := fun k hk => (h.kb k hk).1
  have box : ∀ k, w.heap.size ≤ k → k < w.heap.size + 1 + 1 + 1 → w2.heap[k]? = wr.heap[k]? := fun k h1 h2 => (f2.block k (by omega) (fun e => by have := hme3 k e; omega)).trans (f1.block k (by omega) (fun e => by have := n3 k e; omega))
  have hx2 : w2.heap[w.heap.size + 1 + 1]? = some (.cells #[.int .i64 o.kind, iv, kv, .int .i64 o.fn, .int .i64 o.cap, .bool o.shut] 43) := (box _ (by omega) (by omega)).trans h.x
  have hv' : ∀ k, v'.ownBlock = some k → iv.ownBlock = some k ∨ w1.heap.size ≤ k := fun k hk => by
    rcases hat with q | q
    · exact .inl (q ▸ hk)
    · rw [q] at hk; cases hk; exact .inr hsa
  refine ⟨⟨c2, ⟨(b1.fr f2 (fun k hk e => nm k e hk)).fr fx (fun k hk e => ?_), ?_, fun k hk => ?_, fun k hk => h.lt k hk, fun i hi => (b4 i hi).trans (h.c6 i hi), ?_, ?_, fun k hk => ?_, fun k hk => ?_, ?_, ?_, ?_⟩⟩, hx2⟩
  · rcases b3 k hk with r | r
    · have := n3 k r; omega
    · omega
  · have f3 : Fr (fun k => bkb c bb k ∨ w.heap.size ≤ k) w w1 := (h.f.mono (fun k _ e => .inl e)).trans (f1.mono (fun k _ e => by
      rcases h.nb k e with r | r
      · exact .inl r
      · exact .inr (by omega)))
    have f4 := (f3.trans (f2.mono (fun k _ e => .inr (by have := hme3 k e; omega)))).trans (fx.mono (fun k _ e => .inr (by omega)))
    exact f4.mono (fun k hk e => by
      rcases e with e | e
      · exact e
      · omega)
  · rcases b3 k hk with r | r
    · exact h.nb k r
    · exact .inr (by omega)
  · exact ((h.k.fr f1 (fun k hk e => (h.kb k hk).2 e)).fr f2 (fun k hk e => hap k hk e)).fr fx (fun k hk e => by have := hot3 k hk; omega)
  · show Ro _ 2 v' _ _
    rw [List.length_append, flt_append, flt_one]
    exact hr.fr fx (fun k hk e => by
      rcases hv' k hk with q | q
      · have := hme3 k q; omega
      · omega)
  · exact ⟨hot3 k hk, no' k hk⟩
  · rcases hv' k hk with q | q
    · exact ⟨hme3 k q, nm k q, fun e => hap k e q⟩
    · exact ⟨by omega, fun e => by have := hlt k e; omega, fun e => by have := h.k.lt k e; omega⟩
  · exact (fx.block _ (by omega) (by omega)).trans ((box _ (by omega) (by omega)).trans h.p)
  · exact (fx.block _ (by omega) (by omega)).trans ((box _ (by omega) (by omega)).trans h.q)
  · rw [setCell_block hx2 v']
    rfl

end Go.Proofs.Ytadgiccfjppnfaa
