/-
  Register code in memory.
-/
import Derived.Test.YtpbdmbmafjkinaaDoorPB
namespace Go.Proofs.YtpbdmbmafjkinaaDoor
open Go.RowKit
set_option linter.unusedVariables false
set_option linter.unusedSimpArgs false
/-- An operand; a shape; an instruction; a block; a code. -/
structure Op where
  k : Int
  n : Int
structure Sh where
  fn : Int
  pc : Int
  sl : List Op
structure RIn where
  op : Int
  code : Int
  dst : Int
  args : List Op
  n : Int
  pc : Int
  need : Int
  ex : List Sh
structure Bk where
  pc : Int
  ins : List RIn
  nx : List Int
/-- The same as they lie in a row. -/
structure ShR where
  fn : Int
  pc : Int
  v : Value
structure InR where
  op : Int
  code : Int
  dst : Int
  av : Value
  n : Int
  pc : Int
  need : Int
  ev : Value
structure BkR where
  pc : Int
  iv : Value
  nv : Value
def enO (o : Op) : List Value := [.int .i64 o.k, .int .i64 o.n]
def enI (i : Int) : List Value := [.int .i64 i]
def enSh (s : ShR) : List Value := [.int .i64 s.fn, .int .i64 s.pc, s.v]
def enIn (x : InR) : List Value := [.int .i64 x.op, .int .i64 x.code, .int .i64 x.dst, x.av, .int .i64 x.n, .int .i64 x.pc, .int .i64 x.need, x.ev]
def enBk (b : BkR) : List Value := [.int .i64 b.pc, b.iv, b.nv]
theorem zO : ∀ p, (enO p).length = 2 := fun _ => rfl
theorem zI : ∀ p, (enI p).length = 1 := fun _ => rfl
theorem zSh : ∀ p, (enSh p).length = 3 := fun _ => rfl
theorem zIn : ∀ p, (enIn p).length = 8 := fun _ => rfl
theorem zBk : ∀ p, (enBk p).length = 3 := fun _ => rfl
def opV (o : Op) : Value := .agg #[.int .i64 o.k, .int .i64 o.n]
def shV (s : ShR) : Value := .agg #[.int .i64 s.fn, .int .i64 s.pc, s.v]
def inV (x : InR) : Value := .agg #[.int .i64 x.op, .int .i64 x.code, .int .i64 x.dst, x.av, .int .i64 x.n, .int .i64 x.pc, .int .i64 x.need, x.ev]
def bkV (b : BkR) : Value := .agg #[.int .i64 b.pc, b.iv, b.nv]
/-- A row that can be read, in certain blocks. -/
def Rd (D : Nat → Prop) (w : World) (sz : Nat) (v : Value) (n : Nat) (xs : List Value) : Prop := Rx w sz v n xs ∧ (0 < n → ∀ k, v.ownBlock = some k → D k)
theorem Rd.mv {D D' S : Nat → Prop} {w w' : World} {sz : Nat} {v : Value} {n : Nat} {xs : List Value} (h : Rd D w sz v n xs) (f : Fr S w w') (hD : ∀ k, k < w.heap.size → D k → ¬ S k ∧ D' k) : Rd D' w' sz v n xs := by
  obtain ⟨⟨h1, a, cap, e, h2, h3, h4⟩, h5⟩ := h
  have hk : 0 < n → ∀ k, v.ownBlock = some k → k < w.heap.size ∧ D k := fun h0 k hk => by
    obtain ⟨b, off, e2, hb, _⟩ := h4 h0
    have : b = k := by rw [e, e2] at hk; cases hk; rfl
    subst this
    exact ⟨hb, h5 h0 _ hk⟩
  refine ⟨⟨h1, a, cap, e, h2, h3, fun h0 => ?_⟩, fun h0 k e => (hD k (hk h0 k e).1 (hk h0 k e).2).2⟩
  obtain ⟨b, off, e2, hb, hc⟩ := h4 h0
  have hs := f.size
  have hnb := (hD b hb (hk h0 b (by rw [e, e2]; rfl)).2).1
  exact ⟨b, off, e2, by omega, fun j hj => (f.cell (a := ⟨b, off + j, none⟩) hb hnb).trans (hc j hj)⟩
theorem Rd.nil (D : Nat → Prop) (w : World) (sz : Nat) : Rd D w sz (.slice none 0 0) 0 [] := ⟨Rx.nil w sz, fun h => absurd h (Nat.lt_irrefl 0)⟩
theorem Rd.of_ro {D : Nat → Prop} {w : World} {sz : Nat} {v : Value} {n : Nat} {xs : List Value} (h : Ro w sz v n xs) (hD : ∀ k, v.ownBlock = some k → D k) : Rd D w sz v n xs := ⟨Rx.of_ro h, fun _ => hD⟩
def Mv {U R : Type} (P : (Nat → Prop) → World → U → R → Prop) : Prop :=
  ∀ (D D' S : Nat → Prop) (w w' : World) (u : U) (r : R), P D w u r → Fr S w w' → (∀ k, k < w.heap.size → D k → ¬ S k ∧ D' k) → P D' w' u r
/-- A list of things that can be read. -/
def NV {U R : Type} (en : R → List Value) (sz : Nat) (P : (Nat → Prop) → World → U → R → Prop) (D : Nat → Prop) (w : World) (l : List U) (v : Value) : Prop :=
  ∃ rs : List R, rs.length = l.length ∧ Rd D w sz v l.length (flt en rs) ∧ ∀ (i : Nat) (u : U) (r : R), l[i]? = some u → rs[i]? = some r → P D w u r
theorem NV.mv {U R : Type} {en : R → List Value} {sz : Nat} {P : (Nat → Prop) → World → U → R → Prop} (hP : Mv P) : Mv (NV en sz P) := by
  intro D D' S w w' l v h f hD
  obtain ⟨rs, h1, h2, h3⟩ := h
  exact ⟨rs, h1, h2.mv f hD, fun i u r hu hr => hP D D' S w w' u r (h3 i u r hu hr) f hD⟩
theorem NV.shape {U R : Type} {en : R → List Value} {sz : Nat} {P : (Nat → Prop) → World → U → R → Prop} {D : Nat → Prop} {w : World} {l : List U} {v : Value} (h : NV en sz P D w l v) : ∃ a cap, v = .slice a l.length cap ∧ l.length ≤ cap ∧ cap ≤ maxLen := by
  obtain ⟨rs, h1, h2, h3⟩ := h
  exact h2.1.shape
/-- One thing of it. -/
theorem NV.at {U R : Type} {en : R → List Value} {sz : Nat} {P : (Nat → Prop) → World → U → R → Prop} {D : Nat → Prop} {w : World} {l : List U} {v : Value} (hz : ∀ x, (en x).length = sz) (h : NV en sz P D w l v) {i : Nat} {u : U} (hu : l[i]? = some u) :
    ∃ b off cap r, v = .slice (some ⟨b, off, none⟩) l.length cap ∧ b < w.heap.size ∧ D b ∧ P D w u r ∧ ∀ j x, (en r)[j]? = some x → w.cell? ⟨b, off + i * sz + j, none⟩ = some x := by
  obtain ⟨rs, h1, h2, h3⟩ := h
  have hi := (List.getElem?_eq_some_iff.1 hu).1
  have hr : rs[i]? = some (rs[i]'(by omega)) := List.getElem?_eq_getElem (by omega)
  have hx := h2.1
  rw [← h1] at hx
  obtain ⟨b, off, cap, e, _, _, hb, hc⟩ := hx.elem hz hr
  exact ⟨b, off, cap, _, by rw [← h1]; exact e, hb, h2.2 (by omega) b (by rw [e]; rfl), h3 i u _ hu hr, hc⟩
def OpV (D : Nat → Prop) (w : World) (l : List Op) (v : Value) : Prop := Rd D w 2 v l.length (flt enO l)
def NxV (D : Nat → Prop) (w : World) (l : List Int) (v : Value) : Prop := Rd D w 1 v l.length (flt enI l)
def ShP (D : Nat → Prop) (w : World) (s : Sh) (r : ShR) : Prop := r.fn = s.fn ∧ r.pc = s.pc ∧ OpV D w s.sl r.v
def ShsV := NV enSh 3 ShP
def InP (D : Nat → Prop) (w : World) (x : RIn) (r : InR) : Prop := r.op = x.op ∧ r.code = x.code ∧ r.dst = x.dst ∧ r.n = x.n ∧ r.pc = x.pc ∧ r.need = x.need ∧ OpV D w x.args r.av ∧ ShsV D w x.ex r.ev
def InsV := NV enIn 8 InP
def BkP (D : Nat → Prop) (w : World) (b : Bk) (r : BkR) : Prop := r.pc = b.pc ∧ InsV D w b.ins r.iv ∧ NxV D w b.nx r.nv
def BksV := NV enBk 3 BkP
theorem OpV.mv : Mv OpV := fun D D' S w w' l v h f hD => Rd.mv h f hD
theorem NxV.mv : Mv NxV := fun D D' S w w' l v h f hD => Rd.mv h f hD
theorem ShP.mv : Mv ShP := fun D D' S w w' l v h f hD => ⟨h.1, h.2.1, Rd.mv h.2.2 f hD⟩
theorem ShsV.mv : Mv ShsV := NV.mv ShP.mv
theorem InP.mv : Mv InP := fun D D' S w w' l v h f hD => by
  obtain ⟨h1, h2, h3, h4, h5, h6, h7, h8⟩ := h
  exact ⟨h1, h2, h3, h4, h5, h6, Rd.mv h7 f hD, ShsV.mv _ _ _ _ _ _ _ h8 f hD⟩
theorem InsV.mv : Mv InsV := NV.mv InP.mv
theorem BkP.mv : Mv BkP := fun D D' S w w' l v h f hD => ⟨h.1, InsV.mv _ _ _ _ _ _ _ h.2.1 f hD, Rd.mv h.2.2 f hD⟩
theorem BksV.mv : Mv BksV := NV.mv BkP.mv
def slZ : Value := .slice none 0 0
theorem infO : (Tryd.prog.info? 70).map (fun i => (i.zero, i.size, i.bytes)) = some (some (.agg #[.int .i64 0, .int .i64 0]), 2, 16) := by kernel_rfl
theorem infSh : (Tryd.prog.info? 73).map (fun i => (i.zero, i.size, i.bytes)) = some (some (.agg #[.int .i64 0, .int .i64 0, .slice none 0 0]), 3, 40) := by kernel_rfl
theorem infIn : (Tryd.prog.info? 51).map (fun i => (i.zero, i.size, i.bytes)) = some (some (.agg #[.int .i64 0, .int .i64 0, .int .i64 0, .slice none 0 0, .int .i64 0, .int .i64 0, .int .i64 0, .slice none 0 0]), 8, 96) := by kernel_rfl
theorem infBk : (Tryd.prog.info? 47).map (fun i => (i.zero, i.size, i.bytes)) = some (some (.agg #[.int .i64 0, .slice none 0 0, .slice none 0 0]), 3, 56) := by kernel_rfl
theorem infI : (Tryd.prog.info? 3).map (fun i => (i.zero, i.size, i.bytes)) = some (some (.int .i64 0), 1, 8) := by kernel_rfl
theorem infR42 : (Tryd.prog.info? 48).map (fun i => (i.zero, i.size, i.bytes)) = some (some (.slice none 0 0), 1, 24) := by kernel_rfl
theorem infR43 : (Tryd.prog.info? 49).map (fun i => (i.zero, i.size, i.bytes)) = some (some (.slice none 0 0), 1, 24) := by kernel_rfl
theorem infR23 : (Tryd.prog.info? 25).map (fun i => (i.zero, i.size, i.bytes)) = some (some (.slice none 0 0), 1, 24) := by kernel_rfl
theorem infR22 : (Tryd.prog.info? 45).map (fun i => (i.zero, i.size, i.bytes)) = some (some (.slice none 0 0), 1, 24) := by kernel_rfl
/-- append of one. -/
theorem appO {w : World} {ops : Array Oper} {rest : List Oper} {o : Oper} {a : Act} {Q : Exit → Act → World → Prop}
    (hg : o.guard = none) (s x : Operand) (hop : o.op = Op.call { callee := Callee.builtin Builtin.append, args := #[s, x], argTypes := #[48, 48] })
    (v : Value) (l : List Op) (hs : a.eval s = v) (hr : Ro w 2 v l.length (flt enO l)) (ad : Addr) (c : Nat) (p : Op) (hx : a.eval x = .slice (some ad) 1 c) (hc : ∀ j u, (enO p)[j]? = some u → w.cell? (ad.add j) = some u)
    (hn : l.length ≤ 1099511627776)
    (hK : ∀ v' w', Ro w' 2 v' (l.length + 1) (flt enO l ++ enO p) → w.grownBy w' v.ownBlock → (v'.ownBlock = v.ownBlock ∨ v'.ownBlock = some w.heap.size) → wpList Tryd.prog ops Q rest (a.put o.dst v') w') :
    wpList Tryd.prog ops Q (o :: rest) a w := by
  obtain ⟨i0, hi0, hz0, hz1, hz2⟩ := info_parts infO
  exact wpList_app hg s x 48 hop 70 i0 _ 2 16 Tryd.underlying48 hi0 hz0 hz1 hz2 rfl (by decide) v _ _ hs hr ad 1 c (enO p) hx (by rw [zO]) hc (by intro u hu; simp only [enO, List.mem_cons, List.not_mem_nil, or_false] at hu; rcases hu with rfl | rfl <;> rfl) (by omega) (by unfold maxLen; omega) (by omega) hK
/-- append of one. -/
theorem appI {w : World} {ops : Array Oper} {rest : List Oper} {o : Oper} {a : Act} {Q : Exit → Act → World → Prop}
    (hg : o.guard = none) (s x : Operand) (hop : o.op = Op.call { callee := Callee.builtin Builtin.append, args := #[s, x], argTypes := #[25, 25] })
    (v : Value) (l : List Int) (hs : a.eval s = v) (hr : Ro w 1 v l.length (flt enI l)) (ad : Addr) (c : Nat) (p : Int) (hx : a.eval x = .slice (some ad) 1 c) (hc : ∀ j u, (enI p)[j]? = some u → w.cell? (ad.add j) = some u)
    (hn : l.length ≤ 1099511627776)
    (hK : ∀ v' w', Ro w' 1 v' (l.length + 1) (flt enI l ++ enI p) → w.grownBy w' v.ownBlock → (v'.ownBlock = v.ownBlock ∨ v'.ownBlock = some w.heap.size) → wpList Tryd.prog ops Q rest (a.put o.dst v') w') :
    wpList Tryd.prog ops Q (o :: rest) a w := by
  obtain ⟨i0, hi0, hz0, hz1, hz2⟩ := info_parts infI
  exact wpList_app hg s x 25 hop 3 i0 _ 1 8 Tryd.underlying25 hi0 hz0 hz1 hz2 rfl (by decide) v _ _ hs hr ad 1 c (enI p) hx (by rw [zI]) hc (by intro u hu; simp only [enI, List.mem_cons, List.not_mem_nil, or_false] at hu; rcases hu with rfl; rfl) (by omega) (by unfold maxLen; omega) (by omega) hK
/-- append of one. -/
theorem appSh {w : World} {ops : Array Oper} {rest : List Oper} {o : Oper} {a : Act} {Q : Exit → Act → World → Prop}
    (hg : o.guard = none) (s x : Operand) (hop : o.op = Op.call { callee := Callee.builtin Builtin.append, args := #[s, x], argTypes := #[49, 49] })
    (v : Value) (l : List ShR) (hs : a.eval s = v) (hr : Ro w 3 v l.length (flt enSh l)) (ad : Addr) (c : Nat) (p : ShR) (hx : a.eval x = .slice (some ad) 1 c) (hc : ∀ j u, (enSh p)[j]? = some u → w.cell? (ad.add j) = some u) (h1 : p.v.oneCell' = true)
    (hn : l.length ≤ 1099511627776)
    (hK : ∀ v' w', Ro w' 3 v' (l.length + 1) (flt enSh l ++ enSh p) → w.grownBy w' v.ownBlock → (v'.ownBlock = v.ownBlock ∨ v'.ownBlock = some w.heap.size) → wpList Tryd.prog ops Q rest (a.put o.dst v') w') :
    wpList Tryd.prog ops Q (o :: rest) a w := by
  obtain ⟨i0, hi0, hz0, hz1, hz2⟩ := info_parts infSh
  exact wpList_app hg s x 49 hop 73 i0 _ 3 40 Tryd.underlying49 hi0 hz0 hz1 hz2 rfl (by decide) v _ _ hs hr ad 1 c (enSh p) hx (by rw [zSh]) hc (by intro u hu; simp only [enSh, List.mem_cons, List.not_mem_nil, or_false] at hu; rcases hu with rfl | rfl | rfl <;> first | rfl | exact h1) (by omega) (by unfold maxLen; omega) (by omega) hK
/-- append of one. -/
theorem appIn {w : World} {ops : Array Oper} {rest : List Oper} {o : Oper} {a : Act} {Q : Exit → Act → World → Prop}
    (hg : o.guard = none) (s x : Operand) (hop : o.op = Op.call { callee := Callee.builtin Builtin.append, args := #[s, x], argTypes := #[45, 45] })
    (v : Value) (l : List InR) (hs : a.eval s = v) (hr : Ro w 8 v l.length (flt enIn l)) (ad : Addr) (c : Nat) (p : InR) (hx : a.eval x = .slice (some ad) 1 c) (hc : ∀ j u, (enIn p)[j]? = some u → w.cell? (ad.add j) = some u) (h1 : p.av.oneCell' = true) (h2 : p.ev.oneCell' = true)
    (hn : l.length ≤ 1099511627776)
    (hK : ∀ v' w', Ro w' 8 v' (l.length + 1) (flt enIn l ++ enIn p) → w.grownBy w' v.ownBlock → (v'.ownBlock = v.ownBlock ∨ v'.ownBlock = some w.heap.size) → wpList Tryd.prog ops Q rest (a.put o.dst v') w') :
    wpList Tryd.prog ops Q (o :: rest) a w := by
  obtain ⟨i0, hi0, hz0, hz1, hz2⟩ := info_parts infIn
  exact wpList_app hg s x 45 hop 51 i0 _ 8 96 Tryd.underlying45 hi0 hz0 hz1 hz2 rfl (by decide) v _ _ hs hr ad 1 c (enIn p) hx (by rw [zIn]) hc (by intro u hu; simp only [enIn, List.mem_cons, List.not_mem_nil, or_false] at hu; rcases hu with rfl | rfl | rfl | rfl | rfl | rfl | rfl | rfl <;> first | rfl | exact h1 | exact h2) (by omega) (by unfold maxLen; omega) (by omega) hK
/-- append of one. -/
theorem appBk {w : World} {ops : Array Oper} {rest : List Oper} {o : Oper} {a : Act} {Q : Exit → Act → World → Prop}
    (hg : o.guard = none) (s x : Operand) (hop : o.op = Op.call { callee := Callee.builtin Builtin.append, args := #[s, x], argTypes := #[22, 22] })
    (v : Value) (l : List BkR) (hs : a.eval s = v) (hr : Ro w 3 v l.length (flt enBk l)) (ad : Addr) (c : Nat) (p : BkR) (hx : a.eval x = .slice (some ad) 1 c) (hc : ∀ j u, (enBk p)[j]? = some u → w.cell? (ad.add j) = some u) (h1 : p.iv.oneCell' = true) (h2 : p.nv.oneCell' = true)
    (hn : l.length ≤ 1099511627776)
    (hK : ∀ v' w', Ro w' 3 v' (l.length + 1) (flt enBk l ++ enBk p) → w.grownBy w' v.ownBlock → (v'.ownBlock = v.ownBlock ∨ v'.ownBlock = some w.heap.size) → wpList Tryd.prog ops Q rest (a.put o.dst v') w') :
    wpList Tryd.prog ops Q (o :: rest) a w := by
  obtain ⟨i0, hi0, hz0, hz1, hz2⟩ := info_parts infBk
  exact wpList_app hg s x 22 hop 47 i0 _ 3 56 Tryd.underlying22 hi0 hz0 hz1 hz2 rfl (by decide) v _ _ hs hr ad 1 c (enBk p) hx (by rw [zBk]) hc (by intro u hu; simp only [enBk, List.mem_cons, List.not_mem_nil, or_false] at hu; rcases hu with rfl | rfl | rfl <;> first | rfl | exact h1 | exact h2) (by omega) (by unfold maxLen; omega) (by omega) hK
end Go.Proofs.YtpbdmbmafjkinaaDoor
