/-
  A row of pieces, and what is laid one behind the other.
-/
import Derived.Test.YtlkcjimkgebeiaaDoorPMath
import Derived.Laws.AppendOwnNone
namespace Go.Proofs.YtlkcjimkgebeiaaDoor
open Go.RowKit

/-- A piece: the slice, and its bytes. -/
structure Pc where
  v : Value
  bs : List Int
def Pc.zero : Pc := ⟨.slice none 0 0, []⟩
/-- A piece reads as bs; one of no bytes may lie anywhere. -/
def PR (w : World) (v : Value) (bs : List Int) : Prop := Rd w v bs ∨ ∃ x, v = .slice (some x) 0 0 ∧ bs = []
theorem PR.shapeR {w : World} {v : Value} {bs : List Int} (h : PR w v bs) : ∃ a cap, v = .slice a bs.length cap := by
  rcases h with h | ⟨x, rfl, rfl⟩
  · exact h.shapeR
  · exact ⟨_, 0, rfl⟩
theorem PR.below {w w' : World} {v : Value} {bs : List Int} (h : PR w v bs) (f : Below w.heap.size w w') : PR w' v bs := by
  rcases h with h | h
  · exact .inl (h.below f)
  · exact .inr h
/-- A slice of pieces reads so. -/
def RdV (w : World) (v : Value) (ps : List Pc) : Prop :=
  ∃ a cap, v = .slice a ps.length cap ∧ ∀ i, i < ps.length → (PR w (ps.getD i Pc.zero).v (ps.getD i Pc.zero).bs ∧ BOk (ps.getD i Pc.zero).bs ∧ (ps.getD i Pc.zero).bs.length ≤ 140737488355328) ∧
    ∃ b off, a = some ⟨b, off, none⟩ ∧ b < w.heap.size ∧ w.cell? ⟨b, off + i, none⟩ = some (ps.getD i Pc.zero).v
/-- The first j pieces, one behind the other. -/
def cat (ps : List Pc) : Nat → List Int
  | 0 => []
  | j + 1 => cat ps j ++ (ps.getD j Pc.zero).bs
theorem cat_mono (ps : List Pc) (i : Nat) : ∀ d, (cat ps i).length ≤ (cat ps (i + d)).length
  | 0 => Nat.le_refl _
  | d + 1 => by
    have := cat_mono ps i d
    rw [← Nat.add_assoc, cat, List.length_append]
    omega
theorem own_keepB {w w' : World} {base : Nat} {v : Value} {n : Nat} {xs : List Value} (h : w.ownsRow base 5 1 v n xs) (hb : ∀ g, v.ownBlock = some g → w'.heap[g]? = w.heap[g]?) : w'.ownsRow base 5 1 v n xs := by
  obtain ⟨h1, h2⟩ := h
  refine ⟨h1, ?_⟩
  rcases h2 with h2 | ⟨g, cap, cur, hv, hg, hh, r⟩
  · exact Or.inl h2
  · exact Or.inr ⟨g, cap, cur, hv, hg, by rw [hb g (by rw [hv]; rfl)]; exact hh, r⟩
theorem Rd.blk {w : World} {v : Value} {bs : List Int} (h : Rd w v bs) : ∀ b off n c, v = .slice (some ⟨b, off, none⟩) n c → b < w.heap.size := by
  intro b off n c e
  rcases h with ⟨e2, _⟩ | ⟨b2, off2, c2, e2, _, _, hb2, _⟩
  · rw [e2] at e; cases e
  · rw [e2] at e
    simp only [Value.slice.injEq, Option.some.injEq, Addr.mk.injEq] at e
    omega

/-- append of a piece onto a row of one's own. -/
theorem wpList_append_pc {w : World} {ops : Array Oper} {rest : List Oper} {o : Oper} {a : Act} {Q : Exit → Act → World → Prop} (hgd : o.guard = none) (s x : Operand)
    (ho : o.op = .call { callee := .builtin .append, args := #[s, x], argTypes := #[22, 22] })
    (base : Nat) (v vb : Value) (all bs : List Int) (hs : a.eval s = v) (hx : a.eval x = vb) (hown : w.ownsRow base 5 1 v all.length (all.map By)) (hR : PR w vb bs)
    (hl : all.length + bs.length ≤ 140737488355328) (hbase : base ≤ w.heap.size)
    (h : ∀ v' w', w'.ownsRow base 5 1 v' (all ++ bs).length ((all ++ bs).map By) → w.grownBy w' v.ownBlock → wpList Tryd.prog ops Q rest (a.put o.dst v') w') :
    wpList Tryd.prog ops Q (o :: rest) a w := by
  obtain ⟨i0, hi0, hz0, hz1, hz2⟩ := info_parts Tryd.info5
  rcases hR with (⟨rfl, rfl⟩ | ⟨b, off, cap, rfl, h1, h2, h3, h4⟩) | ⟨ax, rfl, rfl⟩
  · refine wpList_append_own_none hgd s x 22 ho base 5 i0 1 Tryd.underlying22 hi0 v all.length (all.map By) hs hown hx ?_
    refine h v w (by rw [List.append_nil]; exact hown) ⟨rfl, rfl, rfl, Nat.le_refl _, fun _ _ _ => rfl⟩
  · refine wpList_append_own_at _ hgd s x 22 ho base 5 i0 (.int .u8 0) 1 1 Tryd.underlying22 hi0 hz0 hz1 hz2 rfl (by decide) v all.length (all.map By) hs hown ⟨b, off, none⟩ bs.length cap (bs.map By) hx (by simp) ?_ ?_ (by unfold maxLen; omega) (by omega) hbase ?_
    · intro j u hj
      rw [List.getElem?_map, Option.map_eq_some_iff] at hj
      obtain ⟨y, hy, rfl⟩ := hj
      obtain ⟨hjl, rfl⟩ := List.getElem?_eq_some_iff.1 hy
      rw [addr_add, h4 j hjl]
      simp [By, List.getD, hjl]
    · intro u hu
      obtain ⟨y, _, rfl⟩ := List.mem_map.1 hu
      rfl
    · intro v' w' hown' hg _ _
      refine h v' w' ?_ hg
      rw [List.length_append, List.map_append]
      exact hown'
  · refine wpList_append_own_at _ hgd s x 22 ho base 5 i0 (.int .u8 0) 1 1 Tryd.underlying22 hi0 hz0 hz1 hz2 rfl (by decide) v all.length (all.map By) hs hown ax 0 0 [] hx rfl (fun j u hj => by simp at hj) (fun u hu => by simp at hu) (by unfold maxLen; simp at hl; omega) (by simp at hl; omega) hbase ?_
    intro v' w' hown' hg _ _
    refine h v' w' ?_ hg
    rw [List.append_nil] at hown' ⊢
    exact hown'

/-- The hash at p holds all. -/
def HP (p : Nat) (all : List Int) (w : World) : Prop := ∃ v op n tl dg, Hs w p v op n tl dg ∧ FD all v op n ∧ TD all tl dg
theorem HP.keepB {p : Nat} {all : List Int} {w w' : World} (h : HP p all w) (hb : w'.heap[p]? = w.heap[p]?) : HP p all w' := by
  obtain ⟨v, op, n, tl, dg, h1, h2, h3⟩ := h
  exact ⟨v, op, n, tl, dg, h1.keepB hb, h2, h3⟩
theorem HP.lt {p : Nat} {all : List Int} {w : World} (h : HP p all w) : p < w.heap.size := by
  obtain ⟨v, op, n, tl, dg, h1, h2, h3⟩ := h
  exact h1.lt'
theorem write_hp (p : Nat) (all : List Int) (vb : Value) (bs : List Int) (w : World) (h : HP p all w) (hR : Rd w vb bs) (ha : ∀ b off n c, vb = .slice (some ⟨b, off, none⟩) n c → b ≠ p) (hK : KT w) (hB : BOk bs) (hp0 : 0 < p) (hN : all.length + bs.length < 1152921504606846976) (hM : bs.length ≤ 140737488355328) :
    Calls Tryd.prog 15 #[.pointer (some ⟨p, 0, none⟩), vb] w fun e w' => e = .returned (.tuple #[]) ∧ HP p (all ++ bs) w' ∧ Fr (fun k => k = p) w w' := by
  have hlt := h.lt
  obtain ⟨v, op, n, tl, dg, h1, h2, h3⟩ := h
  refine (write_any p all tl dg vb bs w ⟨⟨v, op, n, h1, h2⟩, hR, ha, hK, Fr.refl _ _, hlt⟩ hB hp0 hN hM).mono ?_
  rintro e w' ⟨he, v', op', n', a1, a2, a3⟩
  exact ⟨he, ⟨v', op', n', tl, dg, a1, a2, h3.grow bs⟩, a3⟩
set_option maxRecDepth 100000 in
theorem write_wild (p : Nat) (x : Addr) (w : World) : Calls Tryd.prog 15 #[.pointer (some ⟨p, 0, none⟩), .slice (some x) 0 0] w fun e w' => e = .returned (.tuple #[]) ∧ w' = w := by
  go_enter Tryd.func15, Tryd.ntmps15
  go_wp2
  go_loopg [1] 0 (fun k s wr => k = 0 ∧ s = .slice (some x) 0 0 ∧ wr = w)
  case atStart => exact ⟨rfl, rfl, rfl⟩
  case round =>
    obtain ⟨_, rfl, rfl⟩ := hrel
    go_wp2
    go_end0
    exact ⟨rfl, rfl⟩
theorem write_pr (p : Nat) (all : List Int) (vb : Value) (bs : List Int) (w0 w : World) (h : HP p all w) (hR : PR w0 vb bs) (hb : Below w0.heap.size w0 w) (hp : w0.heap.size ≤ p) (hK : KT w) (hB : BOk bs) (hp0 : 0 < p) (hN : all.length + bs.length < 1152921504606846976) (hM : bs.length ≤ 140737488355328) :
    Calls Tryd.prog 15 #[.pointer (some ⟨p, 0, none⟩), vb] w fun e w' => e = .returned (.tuple #[]) ∧ HP p (all ++ bs) w' ∧ Fr (fun k => k = p) w w' := by
  rcases hR with hR | ⟨x, rfl, rfl⟩
  · exact write_hp p all vb bs w h (hR.below hb) (fun b off n c e h => by have := hR.blk b off n c e; omega) hK hB hp0 hN hM
  · refine (write_wild p x w).mono ?_
    rintro e w' ⟨he, hw⟩
    subst hw
    exact ⟨he, by rw [List.append_nil]; exact h, Fr.refl _ _⟩
theorem hsum_hp (p : Nat) (all : List Int) (w : World) (h : HP p all w) (hK : KT w) (hp0 : 0 < p) (hN : all.length < 1152921504606846976) :
    Calls Tryd.prog 14 #[.pointer (some ⟨p, 0, none⟩)] w fun e w' => e = .returned (.agg (Ar .u8 (digF all))) ∧ HP p all w' ∧ Fr (fun k => k = p) w w' := by
  obtain ⟨v, op, n, tl, dg, h1, h2, h3⟩ := h
  have hbr := h2.rest
  have hn : n < 1152921504606846976 := Nat.lt_of_le_of_lt (Nat.le_of_eq h2.nl) hN
  have hT := h3.told h2 hn
  have hBr : BOk (op.take (n % 64)) := fun b hb => h1.bo b (List.mem_of_mem_take hb)
  have hS := hsum_any p v op (op.take (n % 64)) n tl dg w h1 hbr.2 hbr.1 hn hK hp0 hBr hT
  unfold SumPost at hS
  refine hS.mono ?_
  rintro e w' ⟨he, hf, tl', dg', a1, a2⟩
  rw [h2.dig] at he
  have hU := TD.summed h2
  have hX : TD all tl' dg' := by
    rcases a2 with ⟨e1, e2⟩ | ⟨e1, e2⟩
    · rw [e1, e2]; exact h3
    · rw [e1, e2]; exact hU
  exact ⟨he, ⟨v, op, n, tl', dg', a1, h2, hX⟩, hf⟩
theorem KT.frp {w w' : World} {p : Nat} (h : KT w) (f : Fr (fun k => k = p) w w') (hp0 : 0 < p) : KT w' :=
  ⟨fun j v hv => (World.cell?_of_block (w := w) (f.block 0 h.2 (by omega))).trans (h.1 j v hv), Nat.lt_of_lt_of_le h.2 f.size⟩

/-- What holds ahead of a round: the hash at p holds all, the row v6 is all. -/
structure PS (w W : World) (p : Nat) (all : List Int) (v6 : Value) (wr : World) : Prop where
  hp : HP p all wr
  own : wr.ownsRow W.heap.size 5 1 v6 all.length (all.map By)
  bel : Below w.heap.size w wr
  fr : W.heap.size ≤ wr.heap.size
theorem PS.below {w W : World} {p : Nat} {all : List Int} {v6 : Value} {wr w' : World} (h : PS w W p all v6 wr) (f : Below wr.heap.size wr w') : PS w W p all v6 w' :=
  ⟨h.hp.keepB (f.block p h.hp.lt), own_keepB h.own (fun g hg => f.block g (h.own.lt g hg).2), h.bel.trans (f.mono h.bel.size), Nat.le_trans h.fr f.size⟩
theorem PS.summed {w W : World} {p : Nat} {all : List Int} {v6 : Value} {wr w' : World} (h : PS w W p all v6 wr) (hp : w.heap.size ≤ p) (hpW : p < W.heap.size) (h2 : HP p all w') (f : Fr (fun k => k = p) wr w') : PS w W p all v6 w' :=
  ⟨h2, own_keepB h.own (fun g hg => f.block g (h.own.lt g hg).2 (by have := (h.own.lt g hg).1; omega)), h.bel.trans (f.below h.bel.size (fun k hk e => by omega)), Nat.le_trans h.fr f.size⟩
theorem PS.written {w W : World} {p : Nat} {all bs : List Int} {v6 v' : Value} {wr w2 w3 : World} (h : PS w W p all v6 wr) (hp : w.heap.size ≤ p) (hpW : p < W.heap.size) (h2 : HP p (all ++ bs) w2) (f : Fr (fun k => k = p) wr w2)
    (own : w3.ownsRow W.heap.size 5 1 v' (all ++ bs).length ((all ++ bs).map By)) (g : w2.grownBy w3 v6.ownBlock) : PS w W p (all ++ bs) v' w3 := by
  have hb2 : Below w.heap.size w w2 := h.bel.trans (f.below h.bel.size (fun k hk e => by omega))
  refine ⟨h2.keepB (g.block p h2.lt (fun e => ?_)), own, ?_, Nat.le_trans h.fr (Nat.le_trans f.size g.size)⟩
  · have := (h.own.lt p e.symm).1; omega
  · have F := (Fr.of_below (S := fun _ => False) hb2).grown g (fun k hk => .inl (by have := (h.own.lt k hk).1; omega))
    exact F.below (Nat.le_refl _) (by simp)
theorem cat_bok (ps : List Pc) (h : ∀ i, i < ps.length → BOk (ps.getD i Pc.zero).bs) : ∀ j, j ≤ ps.length → BOk (cat ps j)
  | 0 => fun _ b hb => by simp [cat] at hb
  | j + 1 => fun hj b hb => by
    rcases List.mem_append.1 hb with hb | hb
    · exact cat_bok ps h j (by omega) b hb
    · exact h j (by omega) b hb
end Go.Proofs.YtlkcjimkgebeiaaDoor
