/-
  Code handed in: the state on the way.
-/
import Derived.Test.YtihnlkifmjgfjaaRg10
namespace Go.Proofs.Ytihnlkifmjgfjaa
open Go.RowKit
set_option linter.unusedVariables false
set_option linter.unusedSimpArgs false
theorem BksV.at {D : Nat → Prop} {w : World} {l : List Bk} {v : Value} (h : BksV D w l v) {i : Nat} {x : Bk} (hx : l[i]? = some x) :
    ∃ b off cap ia ic na nc, v = .slice (some ⟨b, off, none⟩) l.length cap ∧ b < w.heap.size ∧ D b ∧ BkP D w x ⟨x.pc, .slice ia x.ins.length ic, .slice na x.nx.length nc⟩ ∧ x.ins.length ≤ ic ∧ ic ≤ maxLen ∧ x.nx.length ≤ nc ∧ nc ≤ maxLen ∧
      ∀ W : World, W.heap[b]? = w.heap[b]? → W.cell? ⟨b, off + i * 3, none⟩ = some (.int .i64 x.pc) ∧ W.cell? ⟨b, off + i * 3 + 1, none⟩ = some (.slice ia x.ins.length ic) ∧ W.cell? ⟨b, off + i * 3 + 2, none⟩ = some (.slice na x.nx.length nc) := by
  obtain ⟨b, off, cap, r, e, hb, hD, ⟨h1, h2, h3⟩, hc⟩ := NV.at zBk h hx
  obtain ⟨ia, ic, es, hs1, hs2⟩ := NV.shape h2
  obtain ⟨na, nc, es2, hs3, hs4⟩ := h3.1.shape
  obtain ⟨r1, r2, r3⟩ := r
  dsimp only at h1 h2 h3 es es2
  subst h1 es es2
  refine ⟨b, off, cap, ia, ic, na, nc, e, hb, hD, ⟨rfl, h2, h3⟩, hs1, hs2, hs3, hs4, fun W hW => ?_⟩
  exact ⟨(World.cell?_of_block (a := ⟨b, off + i * 3, none⟩) hW).trans (hc 0 _ rfl), (World.cell?_of_block (a := ⟨b, off + i * 3 + 1, none⟩) hW).trans (hc 1 _ rfl), (World.cell?_of_block (a := ⟨b, off + i * 3 + 2, none⟩) hW).trans (hc 2 _ rfl)⟩
def bkW (l : List Bk) : Nat := (l.map (fun b => inW b.ins)).sum
def bkI (l : List Bk) : Nat := (l.map (fun b => b.ins.length)).sum
theorem bkW_push {l : List Bk} {i : Nat} {x : Bk} (h : l[i]? = some x) : bkW (l.take (i + 1)) = bkW (l.take i) + inW x.ins := by
  rw [take_push h]; simp [bkW]
theorem bkI_push {l : List Bk} {i : Nat} {x : Bk} (h : l[i]? = some x) : bkI (l.take (i + 1)) = bkI (l.take i) + x.ins.length := by
  rw [take_push h]; simp [bkI]
theorem bkW_le (l : List Bk) (i : Nat) : bkW (l.take i) ≤ bkW l := by
  have h : ∀ a c : List Bk, bkW (a ++ c) = bkW a + bkW c := fun a c => by simp [bkW]
  have := h (l.take i) (l.drop i)
  rw [List.take_append_drop] at this
  omega
theorem bkI_le (l : List Bk) (i : Nat) : bkI (l.take i) ≤ bkI l := by
  have h : ∀ a c : List Bk, bkI (a ++ c) = bkI a + bkI c := fun a c => by simp [bkI]
  have := h (l.take i) (l.drop i)
  rw [List.take_append_drop] at this
  omega
structure HC (w : World) (fn regs : Int) (blv : Value) (cf cr : Int) (cb : Value) (bl : List Bk) (i : Nat) (rs : List BkR) (T : Nat → Nat) (rv : Nat → Value) (vs : Nat → List Value) (wr : World) : Prop where
  hs : HS T wr (w.heap.size + 1) cf cr cb rv vs rs
  tk : ∀ k, k < w.heap.size → T k = 0
  bw : Below w.heap.size w wr
  cb : wr.heap[w.heap.size]? = some (.cells #[.int .i64 fn, .int .i64 regs, blv] 28)
  t9 : T w.heap.size = 9
  el : ∀ (j : Nat) (b : Bk) (r : BkR), bl[j]? = some b → rs[j]? = some r → BkP (fun k => T k = 0) wr b r
  c2 : (vs 2).length = bkW (bl.take i)
  c3 : (vs 3).length = bkI (bl.take i)
  c4 : (vs 4).length = i
  c5 : (vs 5).length = i
section
variable {T : Nat → Nat} {w wr w' : World} {fn regs cf cr : Int} {cb blv : Value} {rv : Nat → Value} {vs : Nat → List Value} {bl : List Bk} {i : Nat} {rs : List BkR}
def tag0 (w : World) : Nat → Nat := fun k => if k < w.heap.size then 0 else if k = w.heap.size then 9 else 1
theorem HC.start (w : World) (fn regs : Int) (blv : Value) (bl : List Bk) : HC w fn regs blv 0 0 (.slice none 0 0) bl 0 [] (tag0 w) (fun _ => .slice none 0 0) (fun _ => []) ((w.alloc (.cells #[.int .i64 fn, .int .i64 regs, blv] 28)).alloc (.cells #[.int .i64 0, .int .i64 0, .slice none 0 0, .slice none 0 0, .slice none 0 0, .slice none 0 0, .slice none 0 0, .slice none 0 0] 37)) := by
  refine ⟨⟨?_, ?_, fun t _ _ => by simpa [flt] using Ro.nil _ 1, by simpa [flt] using Ro.nil _ 3, (fun t _ _ k e => by cases e), (fun t _ _ v h => by simp at h)⟩, ?_, bl_two w _ _, ?_, ?_, (fun j b r _ h => by simp at h), by simp [bkW], by simp [bkI], rfl, rfl⟩
  · have := heap_alloc_new (w.alloc (.cells #[.int .i64 fn, .int .i64 regs, blv] 28)) (.cells #[.int .i64 0, .int .i64 0, .slice none 0 0, .slice none 0 0, .slice none 0 0, .slice none 0 0, .slice none 0 0, .slice none 0 0] 37)
    simpa only [World.size_alloc] using this
  · simp [tag0]
  · intro k hk; simp [tag0, hk]
  · rw [Below.heap_alloc _ _ _ (by simp)]; exact heap_alloc_new w _
  · simp [tag0]
theorem HC.sz (h : HC w fn regs blv cf cr cb bl i rs T rv vs wr) : w.heap.size + 1 < wr.heap.size := h.hs.lt
theorem HC.below (h : HC w fn regs blv cf cr cb bl i rs T rv vs wr) (f : Below wr.heap.size wr w') (t : Nat) : HC w fn regs blv cf cr cb bl i rs (tl T wr.heap.size t) rv vs w' := by
  have hsz := h.sz
  exact ⟨h.hs.below f t, fun k hk => by rw [tl_lt T t (by omega)]; exact h.tk k hk, bl_past h.bw f, (f.block _ (by omega)).trans h.cb, by rw [tl_lt T t (by omega)]; exact h.t9, fun j b r hb hr => BkP.mv _ _ _ _ _ _ _ (h.el j b r hb hr) (Fr.of_below (S := fun _ => False) f) (fun k hk e => ⟨fun q => q, by rw [tl_lt T t hk]; exact e⟩), h.c2, h.c3, h.c4, h.c5⟩
theorem Fr.bel {S : Nat → Prop} {a b c : World} (h : Below a.heap.size a b) (f : Fr S b c) (hS : ∀ k, k < a.heap.size → ¬ S k) : Below a.heap.size a c := h.trans (f.below h.size hS)
theorem HC.block (h : HC w fn regs blv cf cr cb bl i rs T rv vs wr) {b : Bk} {r : BkR} (hb : bl[i]? = some b) (hh : HBk T wr (w.heap.size + 1) cf cr cb rv vs rs b r w') :
    ∃ T' rv' vs', HC w fn regs blv cf cr cb bl (i + 1) rs T' rv' vs' w' ∧ BkP (fun k => T' k = 0) w' b r ∧ rv' 6 = rv 6 := by
  obtain ⟨T', rv', vs', g1, g2, g3, g4, g5, g6, g7, g8, g9⟩ := hh
  have hsz := h.sz
  have h9 := h.t9
  refine ⟨T', rv', vs', ⟨g1, fun k hk => by rw [g2 k (by omega)]; exact h.tk k hk, Fr.bel h.bw g3 (fun k hk e => by have := h.tk k hk; omega), (g3.block _ (by omega) (by omega)).trans h.cb, by rw [g2 _ (by omega)]; exact h9, fun j b r hb hr => BkP.mv _ _ _ _ _ _ _ (h.el j b r hb hr) g3 (fun k hk e => ⟨by omega, by rw [g2 k hk]; exact e⟩), ?_, ?_, ?_, ?_⟩, BkP.mv _ _ _ _ _ _ _ g4 (Fr.refl (fun _ => False) w') (fun k hk e => ⟨fun q => q, e.1⟩), g9⟩
  · rw [g5, h.c2, bkW_push hb]
  · rw [g6, h.c3, bkI_push hb]
  · rw [g7, h.c4]
  · rw [g8, h.c5]
theorem HC.pushB (h : HC w fn regs blv cf cr cb bl i rs T rv vs wr) {w1 w2 : World} {v' : Value} {u : BkR} (hb : Below wr.heap.size wr w1) (hu : ∀ b, bl[rs.length]? = some b → BkP (fun k => T k = 0) wr b u) {m : Nat}
    (hr : Ro w2 3 v' m (flt enBk rs ++ enBk u)) (hm : m = rs.length + 1) (hg : w1.grownBy w2 (rv 6).ownBlock) (hat : v'.ownBlock = (rv 6).ownBlock ∨ v'.ownBlock = some w1.heap.size) :
    HC w fn regs blv cf cr cb bl i (rs ++ [u]) (tl T wr.heap.size 6) (upd rv 6 v') vs (w2.setCell ⟨w.heap.size + 1, 7, none⟩ v') ∧ Fr (fun k => T k = 6 ∨ T k = 1) wr (w2.setCell ⟨w.heap.size + 1, 7, none⟩ v') := by
  obtain ⟨q1, q2⟩ := h.hs.pushB (u := u) hb hr hm hg hat
  have hsz := h.sz
  have h9 := h.t9
  have key : ∀ b r, BkP (fun k => T k = 0) wr b r → BkP (fun k => tl T wr.heap.size 6 k = 0) (w2.setCell ⟨w.heap.size + 1, 7, none⟩ v') b r := fun b r hp => BkP.mv _ _ _ _ _ _ _ hp q2 (fun k hk e => ⟨by omega, by rw [tl_lt T 6 hk]; exact e⟩)
  refine ⟨⟨q1, fun k hk => by rw [tl_lt T 6 (by omega)]; exact h.tk k hk, Fr.bel h.bw q2 (fun k hk e => by have := h.tk k hk; omega), (q2.block _ (by omega) (by omega)).trans h.cb, by rw [tl_lt T 6 (by omega)]; exact h9, fun j b r hb hr' => ?_, h.c2, h.c3, h.c4, h.c5⟩, q2⟩
  by_cases q : j < rs.length
  · rw [List.getElem?_append_left q] at hr'
    exact key b r (h.el j b r hb hr')
  · have hj : j = rs.length := by have := (List.getElem?_eq_some_iff.1 hr').1; simp at this; omega
    subst hj
    rw [List.getElem?_append_right (Nat.le_refl _), Nat.sub_self] at hr'
    cases hr'
    exact key b u (hu b hb)
/-- The code itself is laid into the box. -/
theorem HC.code (h : HC w fn regs blv cf cr cb bl i rs T rv vs wr) (x y : Int) (z : Value) :
    HC w fn regs blv x y z bl i rs T rv vs (((wr.setCell ⟨w.heap.size + 1, 0, none⟩ (.int .i64 x)).setCell ⟨w.heap.size + 1, 1, none⟩ (.int .i64 y)).setCell ⟨w.heap.size + 1, 2, none⟩ z) ∧ Fr (fun k => k = w.heap.size + 1) wr (((wr.setCell ⟨w.heap.size + 1, 0, none⟩ (.int .i64 x)).setCell ⟨w.heap.size + 1, 1, none⟩ (.int .i64 y)).setCell ⟨w.heap.size + 1, 2, none⟩ z) := by
  have f : Fr (fun k => k = w.heap.size + 1) wr (((wr.setCell ⟨w.heap.size + 1, 0, none⟩ (.int .i64 x)).setCell ⟨w.heap.size + 1, 1, none⟩ (.int .i64 y)).setCell ⟨w.heap.size + 1, 2, none⟩ z) := (((Fr.refl (fun k => k = w.heap.size + 1) wr).setCell ⟨w.heap.size + 1, 0, none⟩ (.inr rfl) _).setCell ⟨w.heap.size + 1, 1, none⟩ (.inr rfl) _).setCell ⟨w.heap.size + 1, 2, none⟩ (.inr rfl) _
  have hsz := h.sz
  have htp := h.hs.tp
  have h9 := h.t9
  have nr : ∀ t, 2 ≤ t → t ≤ 6 → ∀ k, (rv t).ownBlock = some k → ¬ k = w.heap.size + 1 := fun t h2 h6 k hk e => by have := h.hs.tag t h2 h6 k hk; subst e; omega
  refine ⟨⟨⟨?_, htp, fun t h2 h5 => (h.hs.row t h2 h5).fr f (nr t h2 (by omega)), h.hs.brow.fr f (nr 6 (by omega) (by omega)), h.hs.tag, fun t h2 h5 v hv => (h.hs.el t h2 h5 v hv).mv f (fun k hk e => ⟨fun q => by have q' : k = w.heap.size + 1 := q; subst q'; omega, e⟩)⟩, h.tk, Fr.bel h.bw f (fun k hk e => by have e' : k = w.heap.size + 1 := e; omega), (f.block _ (by omega) (by omega)).trans h.cb, h9, fun j b r hb hr => BkP.mv _ _ _ _ _ _ _ (h.el j b r hb hr) f (fun k hk e => ⟨fun q => by have q' : k = w.heap.size + 1 := q; subst q'; omega, e⟩), h.c2, h.c3, h.c4, h.c5⟩, f⟩
  rw [setCell_block (setCell_block (setCell_block h.hs.box (.int .i64 x)) (.int .i64 y)) z]
  rfl
end
end Go.Proofs.Ytihnlkifmjgfjaa
