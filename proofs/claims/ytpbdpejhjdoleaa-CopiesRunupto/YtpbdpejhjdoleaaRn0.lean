/-
  Blocks in memory of one's own; while a code is turned.
-/
import Derived.Test.YtpbdpejhjdoleaaTn
namespace Go.Proofs.Ytpbdpejhjdoleaa
open Go.RowKit
set_option linter.unusedVariables false
set_option linter.unusedSimpArgs false
theorem RI.frx {T U : Type} {en : T → List Value} {sz : Nat} {P : World → U → T → Prop} {bl : T → Nat → Prop} {B : Nat} {w w' : World} {us : List U} {X0 : List T} {v : Value} {i : Nat} {S : Nat → Prop} (hP : Stays P bl) (h : RI en sz P bl B us X0 i w v) (f : Fr S w w') (hv : ∀ k, v.ownBlock = some k → ¬ S k) (he : ∀ (j : Nat) (x : T) (k : Nat), j < i → X0[j]? = some x → bl x k → ¬ S k) : RI en sz P bl B us X0 i w' v :=
  ⟨h.len, h.row.fr f hv, h.rb, fun j u x hj hu hx => hP S w w' u x (h.el j u x hj hu hx) f (fun k hk => he j x k hj hx hk), fun j x k hj hx hk => ⟨(h.eb j x k hj hx hk).1, Nat.lt_of_lt_of_le (h.eb j x k hj hx hk).2.1 f.size, (h.eb j x k hj hx hk).2.2⟩, h.ap⟩
/-- While a code is turned: the box of the code, the box of the answer, the map, the blocks. -/
structure RS (w : World) (b : Nat) (fn regs : Int) (bl : List Bk) (rs0 : List BkR) (v : Value) (k : Nat) (X0 : List TB) (wr : World) : Prop where
  bw : Below w.heap.size w wr
  lt : w.heap.size + 1 < b
  box : wr.heap[w.heap.size]? = some (.cells #[.int .i64 fn, .int .i64 regs, v] 24)
  res : wr.heap[w.heap.size + 1]? = some (.cells #[.int .i64 0, .int .i64 0, .slice none 0 0] 24)
  mp : ∃ n f, MfW wr b n f
  ri : RI enTB 3 (PB b) blB (w.heap.size + 2) (bl.map bkT) X0 k wr v
  old : ∀ j, k ≤ j → (X0[j]?).map Prod.fst = rs0[j]?
  nb : v.ownBlock ≠ some b
section
variable {w wr w1 : World} {b k : Nat} {fn regs : Int} {bl : List Bk} {rs0 : List BkR} {v : Value} {X0 : List TB}
theorem RS.fr (h : RS w b fn regs bl rs0 v k X0 wr) (f : Fr (fun q => q = b) wr w1) (hm : ∃ n f, MfW w1 b n f) : RS w b fn regs bl rs0 v k X0 w1 := by
  have hl := h.lt
  have hs := h.bw.size
  exact ⟨h.bw.trans (f.below hs (fun q hq e => by omega)), hl, (f.block _ (Array.getElem?_eq_some_iff.1 h.box).1 (by omega)).trans h.box, (f.block _ (Array.getElem?_eq_some_iff.1 h.res).1 (by omega)).trans h.res, hm,
    h.ri.frx (stayB b) f (fun q hq e => h.nb (by rw [hq, e])) (fun j x q hj hx hq e => by
      obtain ⟨u, hu⟩ : ∃ u, (bl.map bkT)[j]? = some u := ⟨_, List.getElem?_eq_getElem (by have := (List.getElem?_eq_some_iff.1 hx).1; have := h.ri.len; omega)⟩
      have := ((h.ri.el j u x hj hu hx).gt hq).1
      omega), h.old, h.nb⟩
theorem RS.on (h : RS w b fn regs bl rs0 v k X0 wr) (hb : Below wr.heap.size wr w1) : RS w b fn regs bl rs0 v k X0 w1 := by
  obtain ⟨n, f, hm⟩ := h.mp
  exact h.fr (Fr.of_below hb) ⟨n, f, hm.fr (Fr.of_below (S := fun _ => False) hb) (fun q => q)⟩
/-- One block more: at wc the map was emptied; w1 is behind turned, w2 behind the copy of what comes next. -/
theorem RS.step {wc w2 : World} (h : RS w b fn regs bl rs0 v k X0 wc) {u : Bk} (hu : bl[k]? = some u) {r : BkR} (hr : rs0[k]? = some r) (hpc : r.pc = u.pc) {lv nv : Value} {ts : List TI} (ht : TS wc b u.ins u.ins.length lv ts w1) (hn : Gx w1 1 enI u.nx nv w2)
    {g off cap : Nat} (e : v = .slice (some ⟨g, off, none⟩) bl.length cap) :
    ∃ X1, RS w b fn regs bl rs0 v (k + 1) X1 ((w2.setCell ⟨g, off + k * 3 + 1, none⟩ lv).setCell ⟨g, off + k * 3 + 2, none⟩ nv) := by
  have hl := h.lt
  have hsw := h.bw.size
  have f1 := ht.fr
  have s1 := f1.size
  have s2 := hn.2.1.size
  have hbc : b < wc.heap.size := by obtain ⟨n, f, hm⟩ := h.mp; exact hm.lt
  have F2 : Fr (fun q => q = b) wc w2 := f1.trans (Fr.of_below hn.2.1)
  have hm2 : ∃ n f, MfW w2 b n f := ⟨_, _, ht.mp.fr (Fr.of_below (S := fun _ => False) hn.2.1) (fun q => q)⟩
  have h2 := h.fr F2 hm2
  have hbl : (bl.map bkT).length = bl.length := List.length_map ..
  have hkl := (List.getElem?_eq_some_iff.1 hu).1
  have e' : v = .slice (some ⟨g, off, none⟩) (bl.map bkT).length cap := by rw [hbl]; exact e
  obtain ⟨x, hx⟩ : ∃ x, X0[k]? = some x := ⟨_, List.getElem?_eq_getElem (by rw [h.ri.len, hbl]; exact hkl)⟩
  have hxr : x.1 = r := by
    have := h.old k (Nat.le_refl _)
    rw [hx, hr] at this
    simpa using this
  obtain ⟨⟨xpc, xiv, xnv⟩, xt⟩ := x
  simp only at hxr
  subst hxr
  simp only at hpc
  subst hpc
  obtain ⟨r1, t1⟩ := h2.ri.put (stayB b) zTB e' (c := 1) (x' := (⟨u.pc, lv, xnv⟩, ts)) (y := lv) hx (by omega) rfl
  have hk1 : (X0.set k (⟨u.pc, lv, xnv⟩, ts))[k]? = some (⟨u.pc, lv, xnv⟩, ts) := List.getElem?_set_self (List.getElem?_eq_some_iff.1 hx).1
  obtain ⟨r2, t2⟩ := r1.put (stayB b) zTB e' (c := 2) (x' := (⟨u.pc, lv, nv⟩, ts)) (y := nv) hk1 (by omega) rfl
  have hk2 : ((X0.set k (⟨u.pc, lv, xnv⟩, ts)).set k (⟨u.pc, lv, nv⟩, ts))[k]? = some (⟨u.pc, lv, nv⟩, ts) := List.getElem?_set_self (by rw [List.length_set]; exact (List.getElem?_eq_some_iff.1 hx).1)
  have hg : w.heap.size + 2 ≤ g := h.ri.rb g (by rw [e]; rfl)
  have hgb : g ≠ b := fun q => h.nb (by rw [e, q]; rfl)
  have hgc : g < wc.heap.size := h.ri.row.lt g (by rw [e]; rfl)
  have T : Fr (fun q => q = g) w2 ((w2.setCell ⟨g, off + k * 3 + 1, none⟩ lv).setCell ⟨g, off + k * 3 + 2, none⟩ nv) := t1.trans t2
  have ow2 := ht.ow.below stayT hn.2.1
  have how : ∀ q, (lv.ownBlock = some q ∨ ∃ y ∈ ts, blT y q) → wc.heap.size ≤ q ∧ q < w1.heap.size := fun q hq => ht.ow.in hq
  have hnw : ∀ q, nv.ownBlock = some q → w1.heap.size ≤ q ∧ q < w2.heap.size := fun q hq => ⟨hn.2.2 q hq, hn.1.lt q hq⟩
  have hfull : List.take u.ins.length u.ins = u.ins := List.take_length ..
  have hp : PB b ((w2.setCell ⟨g, off + k * 3 + 1, none⟩ lv).setCell ⟨g, off + k * 3 + 2, none⟩ nv) (bkT u) (⟨u.pc, lv, nv⟩, ts) := by
    refine ⟨rfl, ?_, ?_, fun q hq => ⟨by have := (hnw q hq).1; omega, fun e2 => ?_, fun y hy e2 => ?_⟩⟩
    · rw [hfull] at ow2
      exact (ow2.fr stayT T (fun q hq hi e2 => by have := (how q hi).1; omega)).mono (fun q hq hz => by have hz' : wc.heap.size ≤ q := hz; show b < q; omega)
    · exact hn.1.fr T (fun q hq e2 => by have := (hnw q hq).1; omega)
    · have := (how q (.inl e2)).2; have := (hnw q hq).1; omega
    · have := (how q (.inr ⟨y, hy, e2⟩)).2; have := (hnw q hq).1; omega
  have hsz2 := T.size
  refine ⟨(X0.set k (⟨u.pc, lv, xnv⟩, ts)).set k (⟨u.pc, lv, nv⟩, ts), h2.bw.trans (T.below h2.bw.size (fun q hq e2 => by omega)), hl, (T.block _ (Array.getElem?_eq_some_iff.1 h2.box).1 (by omega)).trans h2.box, (T.block _ (Array.getElem?_eq_some_iff.1 h2.res).1 (by omega)).trans h2.res, ?_, ?_, fun j hj => ?_, h.nb⟩
  · obtain ⟨n, f, hm⟩ := hm2
    exact ⟨n, f, hm.fr T (fun q => hgb q.symm)⟩
  · refine r2.done (Q := wc.heap.size) (u := bkT u) (by rw [List.getElem?_map, hu]; rfl) hk2 hp (fun q hq => ?_) (by omega) (fun q hq => h.ri.row.lt q hq) (fun j y q hj hy hq => ?_)
    · rcases hq with q1 | ⟨y, hy, q1⟩ | q1
      · have := how q (.inl q1); omega
      · have := how q (.inr ⟨y, hy, q1⟩); omega
      · have := hnw q q1; omega
    · rw [List.getElem?_set_ne (by omega), List.getElem?_set_ne (by omega)] at hy
      exact (h.ri.eb j y q hj hy hq).2.1
  · rw [List.getElem?_set_ne (by omega), List.getElem?_set_ne (by omega)]
    exact h.old j (by omega)
end
end Go.Proofs.Ytpbdpejhjdoleaa
