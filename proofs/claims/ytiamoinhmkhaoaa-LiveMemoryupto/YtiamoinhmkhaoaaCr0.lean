/-
  While a code is copied.
-/
import Derived.Test.YtiamoinhmkhaoaaCi2
import Derived.Test.YtiamoinhmkhaoaaKp
import Derived.Test.YtiamoinhmkhaoaaTb
import Derived.Test.YtiamoinhmkhaoaaAk
namespace Go.Proofs.Ytiamoinhmkhaoaa
open Go.RowKit
set_option linter.unusedVariables false
set_option linter.unusedSimpArgs false

theorem Fr.trx {S S' : Nat → Prop} {a b c : World} (h : Fr S a b) (k : Fr S' b c) (hs : ∀ i, i < a.heap.size → S' i → S i) : Fr S a c :=
  ⟨k.os.trans h.os, k.tape.trans h.tape, k.output.trans h.output, Nat.le_trans h.size k.size, fun i hi hn => (k.block i (Nat.lt_of_lt_of_le hi h.size) (fun e => hn (hs i hi e))).trans (h.block i hi hn)⟩
theorem InT.lt {w : World} {u : RIn} {t : TI} (h : InT w u t) {k : Nat} (hk : blT t k) : k < w.heap.size := by
  rcases hk with q | q | ⟨r, hr, q⟩
  · exact h.a.lt k q
  · exact h.e.lt k q
  · obtain ⟨j, hj, rfl⟩ := List.getElem_of_mem hr
    have hl := h.len
    have hs := h.s j _ _ (List.getElem?_eq_getElem (by omega)) (List.getElem?_eq_getElem hj)
    exact hs.2.2.lt k q
theorem fltB1 (ts : List TB) : flt enBk (ts.map Prod.fst) = flt enTB ts := by simp only [flt, List.flatMap_map]; rfl
structure CR (w : World) (fn regs : Int) (v : Value) (bl : List Bk) (cv : Value) (Ts : List TB) (wr : World) : Prop where
  bw : Below w.heap.size w wr
  sz : w.heap.size + 3 ≤ wr.heap.size
  bc : wr.heap[w.heap.size]? = some (.cells #[.int .i64 fn, .int .i64 regs, v] 24)
  br : wr.heap[w.heap.size + 1]? = some (.cells #[.int .i64 0, .int .i64 0, .slice none 0 0] 24)
  bd : wr.heap[w.heap.size + 2]? = some (.cells #[.int .i64 fn, .int .i64 regs, cv] 24)
  ow : OW enTB 3 (PB (w.heap.size + 2)) blB (fun k => w.heap.size + 2 < k) wr cv bl Ts
section
variable {w wr V W w1 Wa W2 : World} {fn regs pc : Int} {v cv nv iv v' : Value} {bl : List Bk} {Ts : List TB} {g m : Nat} {nx : List Int} {l : List RIn} {ts : List TI}
theorem CR.on (h : CR w fn regs v bl cv Ts wr) (b : Below wr.heap.size wr W) : CR w fn regs v bl cv Ts W := by
  have hs := h.sz
  have hb := b.size
  exact ⟨bl_past h.bw b, by omega, (b.block _ (by omega)).trans h.bc, (b.block _ (by omega)).trans h.br, (b.block _ (by omega)).trans h.bd, h.ow.below (stayB _) b⟩
structure CQ (w : World) (fn regs : Int) (v : Value) (bl : List Bk) (cv : Value) (Ts : List TB) (wr : World) (g : Nat) (pc : Int) (nv : Value) (nx : List Int) (V : World) (l : List RIn) (iv : Value) (ts : List TI) (W : World) : Prop where
  cr : CR w fn regs v bl cv Ts wr
  bV : Below wr.heap.size wr V
  gw : wr.heap.size ≤ g ∧ g < V.heap.size
  nx : Ro V 1 nv nx.length (flt enI nx)
  nb : ∀ k, nv.ownBlock = some k → wr.heap.size ≤ k ∧ k < V.heap.size ∧ k ≠ g
  fr : Fr (fun k => k = g) V W
  bg : W.heap[g]? = some (.cells #[.int .i64 pc, iv, nv] 39)
  ow : OW enT 8 InT blT (fun k => V.heap.size ≤ k) W iv l ts
theorem CQ.bel (h : CQ w fn regs v bl cv Ts wr g pc nv nx V l iv ts W) : Below wr.heap.size wr W :=
  h.bV.trans (h.fr.below h.bV.size (fun k hk e => by have := h.gw; omega))
theorem CQ.on (h : CQ w fn regs v bl cv Ts wr g pc nv nx V l iv ts W) (b : Below W.heap.size W W2) : CQ w fn regs v bl cv Ts wr g pc nv nx V l iv ts W2 := by
  have hs := h.fr.size
  have hg := h.gw
  exact ⟨h.cr, h.bV, h.gw, h.nx, h.nb, h.fr.trx (Fr.of_below (S := fun _ => False) b) (fun _ _ e => e.elim), (b.block g (by omega)).trans h.bg, h.ow.below stayT b⟩
theorem CQ.step (h : CQ w fn regs v bl cv Ts wr g pc nv nx V l iv ts W) {x : RIn} {r : InR} (hc : CiT W x r w1) (ha : Below w1.heap.size w1 Wa) (hr : Ro W2 8 v' m (flt enIn (ts.map Prod.fst) ++ enIn r)) (hm : m = ts.length + 1) (hg : Wa.grownBy W2 iv.ownBlock) (hat : v'.ownBlock = iv.ownBlock ∨ v'.ownBlock = some Wa.heap.size) :
    ∃ ts', CQ w fn regs v bl cv Ts wr g pc nv nx V (l ++ [x]) v' ts' (W2.setCell ⟨g, 1, none⟩ v') := by
  obtain ⟨t, rfl, hb, hI, hbl⟩ := hc
  have s1 := h.fr.size
  have s2 := hb.size
  have s3 := ha.size
  have hgw := h.gw
  have hiv : ∀ k, iv.ownBlock = some k → V.heap.size ≤ k := h.ow.rb
  have hivl : ∀ k, iv.ownBlock = some k → k < W.heap.size := fun k hk => h.ow.row.lt k hk
  rw [fltT] at hr
  obtain ⟨o1, o2⟩ := OW.push' stayT (h.ow.below stayT hb) hI (fun k hk => ⟨by have q := hbl k hk; show V.heap.size ≤ k; omega, hI.lt hk, fun e => by have q := hbl k hk; have := hivl k e; omega⟩) (fun k hk y hy e => by have q := hbl k hk; have := (h.ow.in (.inr ⟨y, hy, e⟩)).2; omega) ha (by show V.heap.size ≤ Wa.heap.size; omega) hr (by rw [hm, h.ow.len]) hg hat
  have s4 := o2.size
  refine ⟨ts ++ [t], h.cr, h.bV, h.gw, h.nx, h.nb, ?_, ?_, ?_⟩
  · exact (((h.fr.trx (Fr.of_below (S := fun _ => False) hb) (fun _ _ e => e.elim)).trx o2 (fun i hi e => by have e' : iv.ownBlock = some i := e; have := hiv i e'; omega))).setCell ⟨g, 1, none⟩ (.inr rfl) _
  · have q : W2.heap[g]? = some (.cells #[.int .i64 pc, iv, nv] 39) := (o2.block g (by omega) (fun e => by have e' : iv.ownBlock = some g := e; have := hiv g e'; omega)).trans ((hb.block g (by omega)).trans h.bg)
    have q2 := setCell_block (o := 1) q v'
    simpa using q2
  · exact o1.fr stayT (Fr.setCell (S := fun k => k = g) (Fr.refl _ W2) ⟨g, 1, none⟩ (.inr rfl) _) (fun k hk hi e => by have := (o1.in hi).1; have e' : k = g := e; omega)
theorem CQ.done {u : Bk} (h : CQ w fn regs v bl cv Ts wr g u.pc nv u.nx V u.ins iv ts W) (ha : Below W.heap.size W Wa) (hr : Ro W2 3 v' m (flt enBk (Ts.map Prod.fst) ++ enBk ⟨u.pc, iv, nv⟩)) (hm : m = Ts.length + 1) (hg : Wa.grownBy W2 cv.ownBlock) (hat : v'.ownBlock = cv.ownBlock ∨ v'.ownBlock = some Wa.heap.size) :
    ∃ Ts', CR w fn regs v (bl ++ [u]) v' Ts' (W2.setCell ⟨w.heap.size + 2, 2, none⟩ v') := by
  have hW := h.bel
  have c := h.cr.on hW
  have s0 := h.cr.sz
  have s1 := h.fr.size
  have s2 := h.bV.size
  have s3 := ha.size
  have hgw := h.gw
  have hcv : ∀ k, cv.ownBlock = some k → w.heap.size + 2 < k ∧ k < wr.heap.size := fun k hk => ⟨h.cr.ow.rb k hk, h.cr.ow.row.lt k hk⟩
  have hP : PB (w.heap.size + 2) W u (⟨u.pc, iv, nv⟩, ts) := ⟨rfl, h.ow.mono (fun k _ hk => by have hk' : V.heap.size ≤ k := hk; show w.heap.size + 2 < k; omega), h.nx.fr h.fr (fun k hk e => (h.nb k hk).2.2 e), fun k hk => ⟨by have := (h.nb k hk).1; omega, fun e => by have e' : iv.ownBlock = some k := e; have := h.ow.rb k e'; have q := (h.nb k hk).2.1; omega, fun y hy e => by have := (h.ow.in (.inr ⟨y, hy, e⟩)).1; have q := (h.nb k hk).2.1; omega⟩⟩
  have hbl : ∀ k, blB (⟨u.pc, iv, nv⟩, ts) k → wr.heap.size ≤ k := fun k hk => by
    rcases hk with q | ⟨y, hy, q⟩ | q
    · have q' : iv.ownBlock = some k := q
      have := h.ow.rb k q'
      omega
    · have := (h.ow.in (.inr ⟨y, hy, q⟩)).1; omega
    · exact (h.nb k q).1
  rw [fltB1] at hr
  obtain ⟨o1, o2⟩ := OW.push' (Wa := Wa) (x := (⟨u.pc, iv, nv⟩, ts)) (stayB _) c.ow hP (fun k hk => ⟨(hP.gt hk).1, (hP.gt hk).2, fun e => by have := hbl k hk; have := (hcv k e).2; omega⟩) (fun k hk y hy e => by have := hbl k hk; have := (h.cr.ow.in (.inr ⟨y, hy, e⟩)).2; omega) ha (by show w.heap.size + 2 < Wa.heap.size; omega) hr (by rw [hm, h.cr.ow.len]) hg hat
  have s4 := o2.size
  have hlt := c.sz
  have kb : ∀ k, k ≤ w.heap.size + 2 → W2.heap[k]? = W.heap[k]? := fun k hk => o2.block k (by omega) (fun e => by have e' : cv.ownBlock = some k := e; have := (hcv k e').1; omega)
  have fS := Fr.setCell (S := fun k => k = w.heap.size + 2) (Fr.refl _ W2) ⟨w.heap.size + 2, 2, none⟩ (.inr rfl) v'
  refine ⟨Ts ++ [(⟨u.pc, iv, nv⟩, ts)], ?_, Nat.le_trans (by omega) fS.size, (fS.block _ (by omega) (by omega)).trans ((kb _ (by omega)).trans c.bc), (fS.block _ (by omega) (by omega)).trans ((kb _ (by omega)).trans c.br), ?_, o1.frZ (stayB _) fS (fun k hk hz e => by have hz' : w.heap.size + 2 < k := hz; have e' : k = w.heap.size + 2 := e; omega)⟩
  · exact (c.bw.trans (o2.below (by omega) (fun k hk e => by have e' : cv.ownBlock = some k := e; have := (hcv k e').1; omega))).trans (fS.below (by omega) (fun k hk e => by have e' : k = w.heap.size + 2 := e; omega))
  · have q2 := setCell_block (o := 2) ((kb _ (by omega)).trans c.bd) v'
    simpa using q2
theorem CR.start (w : World) (fn regs : Int) (v : Value) : CR w fn regs v [] (.slice none 0 0) [] (((w.alloc (.cells #[.int .i64 fn, .int .i64 regs, v] 24)).alloc (.cells #[.int .i64 0, .int .i64 0, .slice none 0 0] 24)).alloc (.cells #[.int .i64 fn, .int .i64 regs, .slice none 0 0] 24)) := by
  have B := BX.three w #[.int .i64 fn, .int .i64 regs, v] #[.int .i64 0, .int .i64 0, .slice none 0 0] #[.int .i64 fn, .int .i64 regs, .slice none 0 0] 24 24 24
  exact ⟨B.b, by simp, B.h 0 _ rfl, B.h 1 _ rfl, B.h 2 _ rfl, OW.nil _⟩
end
end Go.Proofs.Ytiamoinhmkhaoaa
