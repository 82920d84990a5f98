/-
  Frames in memory: read, copied, held against each other.
-/
import Derived.Test.YtadgiccfjppnfaaVals
import Derived.Test.YtadgiccfjppnfaaFind0
namespace Go.Proofs.Ytadgiccfjppnfaa
open Go.RowKit
set_option linter.unusedVariables false
set_option linter.unusedSimpArgs false
/-- A frame. -/
structure Fm where
  fn : Int
  pc : Int
  sl : List (Int × Int)
/-- A frame's own cells. -/
structure Fmv where
  fn : Int
  pc : Int
  sv : Value
def enM (x : Fmv) : List Value := [.int .i64 x.fn, .int .i64 x.pc, x.sv]
theorem zM : ∀ p, (enM p).length = 3 := fun _ => rfl
/-- These cells are this frame. -/
def FmV (w : World) (f : Fm) (x : Fmv) : Prop := x.fn = f.fn ∧ x.pc = f.pc ∧ Rx w 2 x.sv f.sl.length (flt enI f.sl)
/-- Frames that can be read. -/
def FsV (w : World) (v : Value) (fs : List Fm) : Prop :=
  ∃ xs : List Fmv, xs.length = fs.length ∧ Rx w 3 v xs.length (flt enM xs) ∧ ∀ (i : Nat) (f : Fm) (x : Fmv), fs[i]? = some f → xs[i]? = some x → FmV w f x
/-- A frame by value. -/
def FmA (w : World) (v : Value) (f : Fm) : Prop := ∃ sv, v = .agg #[.int .i64 f.fn, .int .i64 f.pc, sv] ∧ Rx w 2 sv f.sl.length (flt enI f.sl)
theorem FmV.below {w w' : World} {f : Fm} {x : Fmv} {B : Nat} (h : FmV w f x) (k : Below B w w') (hB : w.heap.size ≤ B) : FmV w' f x := ⟨h.1, h.2.1, h.2.2.below k hB⟩
theorem FsV.below {w w' : World} {v : Value} {fs : List Fm} {B : Nat} (h : FsV w v fs) (k : Below B w w') (hB : w.heap.size ≤ B) : FsV w' v fs := by
  obtain ⟨xs, h1, h2, h3⟩ := h
  exact ⟨xs, h1, h2.below k hB, fun i f x hf hx => (h3 i f x hf hx).below k hB⟩
theorem FmA.below {w w' : World} {v : Value} {f : Fm} {B : Nat} (h : FmA w v f) (k : Below B w w') (hB : w.heap.size ≤ B) : FmA w' v f := by
  obtain ⟨sv, e, h⟩ := h
  exact ⟨sv, e, h.below k hB⟩
theorem FsV.nil (w : World) : FsV w (.slice none 0 0) [] := ⟨[], rfl, by simpa [flt] using Rx.nil w 3, fun i f x h => by simp at h⟩
theorem FmV.parts {w : World} {f : Fm} {x : Fmv} (h : FmV w f x) : ∃ a c, x = ⟨f.fn, f.pc, .slice a f.sl.length c⟩ ∧ f.sl.length ≤ c ∧ c ≤ maxLen := by
  obtain ⟨e1, e2, ⟨_, a, c, e3, h1, h2, _⟩⟩ := h
  obtain ⟨x1, x2, x3⟩ := x
  simp only at e1 e2 e3
  subst e1 e2 e3
  exact ⟨a, c, rfl, h1, h2⟩
theorem FsV.at {w : World} {v : Value} {fs : List Fm} (h : FsV w v fs) : ∃ a cap, v = .slice a fs.length cap ∧ fs.length ≤ cap ∧ cap ≤ maxLen ∧ ∀ (i : Nat) (f : Fm), fs[i]? = some f → ∃ b off x, a = some ⟨b, off, none⟩ ∧ b < w.heap.size ∧ FmV w f x ∧ ∀ (j : Nat) u, (enM x)[j]? = some u → w.cell? ⟨b, off + i * 3 + j, none⟩ = some u := by
  obtain ⟨xs, h1, h2, h3⟩ := h
  have h4 := fun i p (hp : xs[i]? = some p) => h2.elem zM hp
  obtain ⟨_, a, cap, e, hl, hm, _⟩ := h2
  refine ⟨a, cap, by rw [e, h1], by omega, hm, fun i f hf => ?_⟩
  have hi := (List.getElem?_eq_some_iff.1 hf).1
  have hx : xs[i]? = some (xs[i]'(by omega)) := List.getElem?_eq_getElem (by omega)
  obtain ⟨b, off, cap', e', _, _, hb, hc⟩ := h4 i _ hx
  rw [e] at e'
  cases e'
  exact ⟨b, off, _, rfl, hb, h3 i f _ hf hx, hc⟩
/-- One frame's cells, told one by one. -/
theorem FsV.three {w : World} {a : Option Addr} {n cap : Nat} {fs : List Fm} (h : FsV w (.slice a n cap) fs) {i : Nat} {f : Fm} (hf : fs[i]? = some f) :
    ∃ b off sa sc, a = some ⟨b, off, none⟩ ∧ b < w.heap.size ∧ w.cell? ⟨b, off + i * 3, none⟩ = some (.int .i64 f.fn) ∧ w.cell? ⟨b, off + i * 3 + 1, none⟩ = some (.int .i64 f.pc) ∧ w.cell? ⟨b, off + i * 3 + 2, none⟩ = some (.slice sa f.sl.length sc) ∧ Rx w 2 (.slice sa f.sl.length sc) f.sl.length (flt enI f.sl) ∧ f.sl.length ≤ sc ∧ sc ≤ maxLen := by
  obtain ⟨a', cap', e, _, _, hat⟩ := h.at
  cases e
  obtain ⟨b, off, x, rfl, hb, hx, hc⟩ := hat i f hf
  obtain ⟨sa, sc, rfl, h1, h2⟩ := hx.parts
  exact ⟨b, off, sa, sc, rfl, hb, hc 0 _ rfl, hc 1 _ rfl, hc 2 _ rfl, hx.2.2, h1, h2⟩
theorem FsV.shape {w : World} {v : Value} {fs : List Fm} (h : FsV w v fs) : ∃ a cap, v = .slice a fs.length cap ∧ fs.length ≤ cap ∧ cap ≤ maxLen := by
  obtain ⟨a, cap, e, h1, h2, _⟩ := h.at
  exact ⟨a, cap, e, h1, h2⟩
/-- The first frames. -/
theorem FsV.upto {w : World} {a : Option Addr} {n cap : Nat} {fs : List Fm} (h : FsV w (.slice a n cap) fs) {k : Nat} (hk : k ≤ fs.length) : FsV w (.slice a k cap) (fs.take k) := by
  obtain ⟨xs, h1, ⟨h2, a', cap', e, h3, h4, h5⟩, h6⟩ := h
  cases e
  have hl : (xs.take k).length = k := by simp; omega
  refine ⟨xs.take k, by simp [h1], ⟨flt_length zM _, a, cap, by rw [hl], by omega, h4, fun h0 => ?_⟩, fun i f x hf hx => ?_⟩
  · obtain ⟨b, off, e, hb, hc⟩ := h5 (by omega)
    refine ⟨b, off, e, hb, fun j hj => ?_⟩
    rw [hl] at hj
    rw [hc j (by omega), ← flt_take zM, List.getElem?_take, if_pos hj]
  · rw [List.getElem?_take] at hf hx
    split at hf
    · rw [if_pos (by assumption)] at hx
      exact h6 i f x hf hx
    · cases hf
/-- Frames of one's own: new memory, all apart. -/
structure OF (B : Nat) (w : World) (v : Value) (fs : List Fm) (xs : List Fmv) : Prop where
  len : xs.length = fs.length
  row : Ro w 3 v fs.length (flt enM xs)
  rb : ∀ k, v.ownBlock = some k → B ≤ k
  el : ∀ (i : Nat) (f : Fm) (x : Fmv), fs[i]? = some f → xs[i]? = some x → x.fn = f.fn ∧ x.pc = f.pc ∧ Ro w 2 x.sv f.sl.length (flt enI f.sl)
  eb : ∀ (i : Nat) (x : Fmv) (k : Nat), xs[i]? = some x → x.sv.ownBlock = some k → B ≤ k ∧ v.ownBlock ≠ some k
  ap : ∀ (i j : Nat) (x y : Fmv) (k : Nat), i < j → xs[i]? = some x → xs[j]? = some y → x.sv.ownBlock = some k → y.sv.ownBlock ≠ some k
theorem OF.fsv {B : Nat} {w : World} {v : Value} {fs : List Fm} {xs : List Fmv} (h : OF B w v fs xs) : FsV w v fs :=
  ⟨xs, h.len, by rw [h.len]; exact Rx.of_ro h.row, fun i f x hf hx => ⟨(h.el i f x hf hx).1, (h.el i f x hf hx).2.1, Rx.of_ro (h.el i f x hf hx).2.2⟩⟩
theorem OF.nil (B : Nat) (w : World) : OF B w (.slice none 0 0) [] [] := ⟨rfl, by simpa [flt] using Ro.nil w 3, by simp [Value.ownBlock], fun i f x h => by simp at h, fun i x k h => by simp at h, fun i j x y k _ h => by simp at h⟩
theorem OF.slt {B : Nat} {w : World} {v : Value} {fs : List Fm} {xs : List Fmv} (h : OF B w v fs xs) {i : Nat} {x : Fmv} {k : Nat} (hx : xs[i]? = some x) (hk : x.sv.ownBlock = some k) : k < w.heap.size := by
  have hi := (List.getElem?_eq_some_iff.1 hx).1
  have hl := h.len
  exact (h.el i _ x (List.getElem?_eq_getElem (by omega)) hx).2.2.lt k hk
theorem OF.fr {B : Nat} {w w' : World} {v : Value} {fs : List Fm} {xs : List Fmv} {S : Nat → Prop} (h : OF B w v fs xs) (f : Fr S w w') (hS : ∀ k, B ≤ k → k < w.heap.size → ¬ S k) : OF B w' v fs xs :=
  ⟨h.len, h.row.fr f (fun k hk => hS k (h.rb k hk) (h.row.lt k hk)), h.rb, fun i g x hf hx => ⟨(h.el i g x hf hx).1, (h.el i g x hf hx).2.1, (h.el i g x hf hx).2.2.fr f (fun k hk => hS k (h.eb i x k hx hk).1 ((h.el i g x hf hx).2.2.lt k hk))⟩, h.eb, h.ap⟩
/-- One frame more. -/
theorem OF.push {B : Nat} {wr w1 w2 : World} {v v' sv : Value} {fs : List Fm} {xs : List Fmv} {f : Fm} {m : Nat} {X : Obj} (h : OF B wr v fs xs) (hB : B ≤ wr.heap.size) (hs : Gx wr 2 enI f.sl sv w1) (hr : Ro w2 3 v' m (flt enM xs ++ enM ⟨f.fn, f.pc, sv⟩)) (hm : m = fs.length + 1) (hg : (w1.alloc X).grownBy w2 v.ownBlock) (hat : v'.ownBlock = v.ownBlock ∨ v'.ownBlock = some (w1.alloc X).heap.size) :
    OF B w2 v' (fs ++ [f]) (xs ++ [⟨f.fn, f.pc, sv⟩]) ∧ Below B wr w2 := by
  subst hm
  obtain ⟨s1, s2, s3⟩ := hs
  have hsz := s2.size
  have hln := h.len
  have f1 : Fr (fun _ => False) wr w1 := Fr.of_below s2
  have f2 : Fr (fun k => v.ownBlock = some k) w1 w2 := ((Fr.refl _ w1).alloc X).grown hg (fun k e => .inr e)
  have f3 : Fr (fun k => v.ownBlock = some k) wr w2 := (f1.mono (fun _ _ e => e.elim)).trans f2
  have hvn : ∀ k, v.ownBlock = some k → k < wr.heap.size := h.row.lt
  have hnew : ∀ k, v'.ownBlock = some k → v.ownBlock = some k ∨ w1.heap.size ≤ k := fun k hk => by
    rcases hat with q | q
    · exact .inl (q ▸ hk)
    · rw [q] at hk; cases hk; exact .inr (by simp)
  have hsr : Ro w2 2 sv f.sl.length (flt enI f.sl) := s1.fr f2 (fun k hk e => by have := s3 k hk; have := hvn k e; omega)
  refine ⟨⟨by simp [h.len], by rw [List.length_append, flt_append, flt_one]; exact hr, fun k hk => ?_, fun i g x hf hx => ?_, fun i x k hx hk => ?_, fun i j x y k hij hx hy hk => ?_⟩, f3.below hB (fun k hk e => by have := h.rb k e; omega)⟩
  · rcases hnew k hk with q | q
    · exact h.rb k q
    · omega
  · by_cases q : i < fs.length
    · rw [List.getElem?_append_left q] at hf
      rw [List.getElem?_append_left (by omega)] at hx
      obtain ⟨e1, e2, e3⟩ := h.el i g x hf hx
      exact ⟨e1, e2, e3.fr f3 (fun k hk e => (h.eb i x k hx hk).2 e)⟩
    · have hi : i = fs.length := by have := (List.getElem?_eq_some_iff.1 hf).1; simp at this; omega
      subst hi
      rw [List.getElem?_append_right (Nat.le_refl _), Nat.sub_self] at hf
      rw [List.getElem?_append_right (by omega), hln, Nat.sub_self] at hx
      cases hf; cases hx
      exact ⟨rfl, rfl, hsr⟩
  · by_cases q : i < xs.length
    · rw [List.getElem?_append_left q] at hx
      refine ⟨(h.eb i x k hx hk).1, fun e => ?_⟩
      rcases hnew k e with r | r
      · exact (h.eb i x k hx hk).2 r
      · have := h.slt hx hk; omega
    · have hi : i = xs.length := by have := (List.getElem?_eq_some_iff.1 hx).1; simp at this; omega
      subst hi
      rw [List.getElem?_append_right (Nat.le_refl _), Nat.sub_self] at hx
      cases hx
      have := s3 k hk
      have hk1 := s1.lt k hk
      refine ⟨by omega, fun e => ?_⟩
      rcases hnew k e with r | r
      · have := hvn k r; omega
      · omega
  · have hjl : j < (xs ++ [(⟨f.fn, f.pc, sv⟩ : Fmv)]).length := (List.getElem?_eq_some_iff.1 hy).1
    simp at hjl
    rw [List.getElem?_append_left (by omega)] at hx
    by_cases q : j < xs.length
    · rw [List.getElem?_append_left q] at hy
      exact h.ap i j x y k hij hx hy hk
    · obtain rfl : j = xs.length := by omega
      rw [List.getElem?_append_right (Nat.le_refl _), Nat.sub_self] at hy
      cases hy
      intro e
      have := h.slt hx hk
      have := s3 k e
      omega
theorem infM : (Try.prog.info? 38).map (fun i => (i.zero, i.size, i.bytes)) = some (some (.agg #[.int .i64 0, .int .i64 0, .slice none 0 0]), 3, 40) := by kernel_rfl
theorem one_sl {v : Value} {w : World} {sz n : Nat} {xs : List Value} (h : Rx w sz v n xs) : v.oneCell' = true := by
  obtain ⟨_, a, c, rfl, _⟩ := h
  rfl
set_option maxRecDepth 100000 in
theorem appM {w : World} {ops : Array Oper} {rest : List Oper} {o : Oper} {a : Act} {Q : Exit → Act → World → Prop}
    (hg : o.guard = none) (s x : Operand) (hop : o.op = Op.call { callee := Callee.builtin Builtin.append, args := #[s, x], argTypes := #[33, 33] })
    (v : Value) (n : Nat) (l : List Fmv) (hs : a.eval s = v) (hr : Ro w 3 v n (flt enM l)) (ad : Addr) (c : Nat) (p : Fmv) (hx : a.eval x = .slice (some ad) 1 c) (hc : ∀ j u, (enM p)[j]? = some u → w.cell? (ad.add j) = some u)
    (h1 : p.sv.oneCell' = true) (hN : n ≤ 3000000000000)
    (hK : ∀ v' w', Ro w' 3 v' (n + 1) (flt enM l ++ enM p) → w.grownBy w' v.ownBlock → (v'.ownBlock = v.ownBlock ∨ v'.ownBlock = some w.heap.size) → wpList Try.prog ops Q rest (a.put o.dst v') w') :
    wpList Try.prog ops Q (o :: rest) a w := by
  obtain ⟨i0, hi0, hz0, hz1, hz2⟩ := info_parts infM
  exact wpList_app hg s x 33 hop 38 i0 _ 3 40 Try.underlying33 hi0 hz0 hz1 hz2 rfl (by decide) v n (flt enM l) hs hr ad 1 c (enM p) hx rfl hc (by intro u hu; simp only [enM, List.mem_cons, List.not_mem_nil, or_false] at hu; rcases hu with rfl | rfl | rfl <;> first | assumption | rfl) (by omega) (by unfold maxLen; omega) (by omega) hK
theorem FmA.of {w : World} {f : Fm} {sa : Option Addr} {sc : Nat} (h : Rx w 2 (.slice sa f.sl.length sc) f.sl.length (flt enI f.sl)) : FmA w (.agg #[.int .i64 f.fn, .int .i64 f.pc, .slice sa f.sl.length sc]) f := ⟨_, rfl, h⟩
theorem box3 {w wr : World} {u v x : Value} {e : TypeId} {B : Nat} (h : Below B (w.alloc (.cells #[u, v, x] e)) wr) (hB : w.heap.size < B) : wr.cell? ⟨w.heap.size, 0, none⟩ = some u ∧ wr.cell? ⟨w.heap.size, 1, none⟩ = some v ∧ wr.cell? ⟨w.heap.size, 2, none⟩ = some x := by
  have n0 := new_cells w #[u, v, x] e 0 u rfl
  have n1 := new_cells w #[u, v, x] e 1 v rfl
  have n2 := new_cells w #[u, v, x] e 2 x rfl
  rw [Go.WideShapes.add_plain, Nat.zero_add] at n0 n1 n2
  exact ⟨(h.cell (p := ⟨w.heap.size, 0, none⟩) hB).trans n0, (h.cell (p := ⟨w.heap.size, 1, none⟩) hB).trans n1, (h.cell (p := ⟨w.heap.size, 2, none⟩) hB).trans n2⟩
theorem results_cell_one {fn : Func} {p : Tmp} {ty : TypeId} (h : fn.results = #[.cell p ty]) (tmps : Array Value) (P : Program) (w : World) :
    (results fn tmps).run P w = ((asAddr (tmps.getD p undef)).run P w).andThen fun a w₁ => (loadVar ty a).run P w₁ := by
  simp only [results, h]
  simp [Sem.run_bind, Result.andThen]
theorem blk1 (w : World) (o1 : Obj) : (w.alloc o1).heap[w.heap.size]? = some o1 := heap_alloc_new w o1
theorem blk3 (w : World) (o1 o2 o3 : Obj) : (((w.alloc o1).alloc o2).alloc o3).heap[w.heap.size]? = some o1 ∧ (((w.alloc o1).alloc o2).alloc o3).heap[w.heap.size + 1]? = some o2 ∧ (((w.alloc o1).alloc o2).alloc o3).heap[w.heap.size + 1 + 1]? = some o3 := by
  refine ⟨?_, ?_, ?_⟩
  · rw [Below.heap_alloc _ _ _ (by simp only [World.size_alloc]; omega), Below.heap_alloc _ _ _ (by simp only [World.size_alloc]; omega)]; exact heap_alloc_new w o1
  · rw [Below.heap_alloc _ _ _ (by simp only [World.size_alloc]; omega)]
    have := heap_alloc_new (w.alloc o1) o2
    simpa only [World.size_alloc] using this
  · have := heap_alloc_new ((w.alloc o1).alloc o2) o3
    simpa only [World.size_alloc] using this
theorem blk_cells {w : World} {k : Nat} {arr : Array Value} {t : TypeId} (h : w.heap[k]? = some (.cells arr t)) : (∀ j, w.cell? ⟨k, j, none⟩ = arr[j]?) ∧ (∀ j, w.frozen? ⟨k, j, none⟩ = false) ∧ k < w.heap.size :=
  ⟨fun j => by simp [World.cell?, h], fun j => by simp [World.frozen?, h], (Array.getElem?_eq_some_iff.1 h).1⟩
theorem Below.alloc3 (w : World) (o1 o2 o3 : Obj) : Below w.heap.size w (((w.alloc o1).alloc o2).alloc o3) :=
  (((Below.refl _ w).alloc (Nat.le_refl _) o1).alloc (by simp only [World.size_alloc]; omega) o2).alloc (by simp only [World.size_alloc]; omega) o3
set_option maxRecDepth 100000 in
set_option maxHeartbeats 3200000 in
theorem copyM_any {w : World} {v : Value} {f : Fm} (h : FmA w v f) (hN : f.sl.length ≤ 1048576) :
    Calls Try.prog 86 #[v] w fun e w' => ∃ sv, e = .returned (.agg #[.int .i64 f.fn, .int .i64 f.pc, sv]) ∧ Gx w 2 enI f.sl sv w' := by
  obtain ⟨sv, rfl, h⟩ := h
  obtain ⟨sa, sc, rfl⟩ : ∃ a c, sv = .slice a f.sl.length c := by obtain ⟨_, a, c, e, _⟩ := h; exact ⟨a, c, e⟩
  have HC := hide (fun o1 o2 o3 => copyV_any (h.below (Below.alloc3 w o1 o2 o3) (Nat.le_refl _)) (by omega))
  clear h
  go_enter Try.func86, Try.ntmps86
  go_wp2_with fail
  refine (unhide HC _ _ _).mono ?_
  rintro e w1 ⟨v', rfl, hG⟩
  have hB1 := hG.2.1
  obtain ⟨b1, b2, b3⟩ := blk3 w (.cells #[.int .i64 f.fn, .int .i64 f.pc, .slice sa f.sl.length sc] 38) (.cells #[.int .i64 0, .int .i64 0, .slice none 0 0] 38) (.cells #[.int .i64 f.fn, .int .i64 f.pc, .slice sa f.sl.length sc] 38)
  obtain ⟨c2, f2, l2⟩ := blk_cells ((hB1.block (w.heap.size + 1) (by simp only [World.size_alloc]; omega)).trans b2)
  obtain ⟨c3, f3, l3⟩ := blk_cells ((hB1.block (w.heap.size + 1 + 1) (by simp only [World.size_alloc]; omega)).trans b3)
  have c20 := c2 0
  have c21 := c2 1
  have c22 := c2 2
  have c30 := c3 0
  have c31 := c3 1
  have c32 := c3 2
  have f20 := f2 0
  have f21 := f2 1
  have f22 := f2 2
  have f32 := f3 2
  obtain ⟨va, vc, rfl⟩ : ∃ a c, v' = .slice a f.sl.length c := by obtain ⟨a, c, e, _⟩ := hG.1.shape; exact ⟨a, c, e⟩
  have HG := hide hG
  clear hG hB1 b1 b2 b3 c2 f2 c3 f3 HC
  go_wp2_with fail
  refine bodyPost_ret (v := .agg #[.int .i64 f.fn, .int .i64 f.pc, .slice va f.sl.length vc]) ?_ rfl ?_
  · rw [results_cell_one rfl]
    go_simp
  · refine ⟨_, rfl, ?_⟩
    obtain ⟨g1, g2, g3⟩ := unhide HG
    simp only [World.size_alloc] at g3
    have f0 : ∀ (X : World), Fr (fun k => k = w.heap.size + 1 ∨ k = w.heap.size + 1 + 1) w1 X → Gx w 2 enI f.sl (.slice va f.sl.length vc) X := fun X hF =>
      ⟨g1.fr hF (fun k hk e => by have := g3 k hk; omega), ((Below.alloc3 w _ _ _).trans (g2.mono (by simp only [World.size_alloc]; omega))).trans (hF.below (by omega) (fun k hk e => by omega)), fun k hk => by have := g3 k hk; omega⟩
    apply f0
    repeat (first | exact Fr.refl _ _ | refine Fr.setCell ?_ _ (by simp) _)
/-- What a copy of frames answers. -/
def CpM (w : World) (fs : List Fm) (e : Ending) (w' : World) : Prop := ∃ v' xs, e = .returned v' ∧ OF w.heap.size w' v' fs xs ∧ Below w.heap.size w w'
set_option maxRecDepth 100000 in
set_option maxHeartbeats 3200000 in
theorem copyMs_any {w : World} {lv : Value} {fs : List Fm} (h : FsV w lv fs) (hN : fs.length ≤ 1048576) (hS : ∀ f ∈ fs, f.sl.length ≤ 1048576) :
    Calls Try.prog 70 #[lv] w (CpM w fs) := by
  obtain ⟨a, cap, rfl, hlc, hcm⟩ := h.shape
  have HH := hide h
  obtain ⟨L, hL⟩ : ∃ L, Hid (fs.length = L) := ⟨_, hide rfl⟩
  rw [unhide hL] at hN hlc HH ⊢
  unfold maxLen at hcm
  have HS := hide hS
  clear h hS
  go_enter Try.func70, Try.ntmps70
  go_wp2_with fail
  go_loopg [3, 4] L (fun g t3 t4 wr => ∃ (i : Nat) (v : Value) (xs : List Fmv), Hid (i + g = L) ∧ t3 = v ∧ t4 = .int .i64 (i : Int) ∧ Hid (OF w.heap.size wr v (fs.take i) xs ∧ Below w.heap.size w wr))
  case atStart => exact ⟨0, _, [], by unfold Hid; omega, rfl, rfl, by simpa using OF.nil _ _, Below.refl _ _⟩
  case round =>
    obtain ⟨i, v, xs, hi, e3, rfl, hG⟩ := hrel
    obtain rfl := e3.symm
    by_cases hlt : i < L
    · obtain ⟨f, hf⟩ : ∃ f, fs[i]? = some f := ⟨_, List.getElem?_eq_getElem (by rw [unhide hL]; exact hlt)⟩
      have hbw := (unhide hG).2
      have hof := (unhide hG).1
      obtain ⟨b, off, sa, sc, ea, hb, k0, k1, k2, hx, hsl, hsm⟩ := ((unhide HH).below hbw (Nat.le_refl _)).three hf
      cases ea
      have i0 : (0 : Int) ≤ (i : Int) := by omega
      have i1 : (i : Int) < (L : Int) := by omega
      have htl : (fs.take i).length = i := by simp; rw [unhide hL]; omega
      have HC := hide (copyM_any (FmA.of hx) (unhide HS f (List.mem_of_getElem? hf)))
      have HF := hide hf
      clear hx hf hof hbw
      unfold maxLen at hsm
      go_wp2_with fail
      refine (unhide HC).mono ?_
      rintro e w1 ⟨sv, rfl, hg1⟩
      have HG1 := hide hg1
      obtain ⟨va, vc, rfl⟩ : ∃ a c, sv = .slice a f.sl.length c := by obtain ⟨a, c, e, _⟩ := hg1.1.shape; exact ⟨a, c, e⟩
      have HRo : Hid (∀ O O2, Ro ((w1.alloc O).alloc O2) 3 v i (flt enM xs)) := fun O O2 => by
        have := (unhide hG).1.row.fr (((Fr.of_below (S := fun _ => False) hg1.2.1).alloc O).alloc O2) (fun _ _ e => e)
        rw [htl] at this
        exact this
      have HNC := hide (fun O => new_cells (w1.alloc O) #[.int .i64 f.fn, .int .i64 f.pc, .slice va f.sl.length vc] 38)
      simp only [World.size_alloc] at HNC
      clear hg1 HC k0 k1 k2
      go_wp2_with (first | (at_builtin; refine appM rfl _ _ rfl _ i xs rfl (unhide HRo _ _) ⟨w1.heap.size + 1, 0, none⟩ 1 ⟨f.fn, f.pc, .slice va f.sl.length vc⟩ rfl (unhide HNC _) rfl (by omega) ?_))
      intro v' w2 hr hg hat
      have hg2 : Gx wr 2 enI f.sl (.slice va f.sl.length vc) (w1.alloc (.cells #[.int .i64 f.fn, .int .i64 f.pc, .slice va f.sl.length vc] 38)) := by
        obtain ⟨q1, q2, q3⟩ := unhide HG1
        exact ⟨q1.fr ((Fr.refl (fun _ => False) w1).alloc _) (fun _ _ e => e), q2.alloc q2.size _, q3⟩
      obtain ⟨hof2, hbw2⟩ := (unhide hG).1.push (unhide hG).2.size hg2 hr (by rw [htl]) hg (by simpa using hat)
      rw [← take_push (unhide HF)] at hof2
      have HG2 : Hid (OF w.heap.size w2 v' (fs.take (i + 1)) (xs ++ [⟨f.fn, f.pc, .slice va f.sl.length vc⟩]) ∧ Below w.heap.size w w2) := ⟨hof2, (unhide hG).2.trans hbw2⟩
      clear hr hg hat hg2 hof2 hbw2
      go_wp2_with fail
      go_roundg (gk - 1)
      case measure => have := unhide hi; omega
      case rel => exact ⟨i + 1, v', _, by have := unhide hi; unfold Hid; omega, rfl, by go_num, HG2⟩
    · have hiL : i = L := by have := unhide hi; omega
      subst hiL
      have hG0 := unhide hG
      rw [List.take_of_length_le (by rw [unhide hL]; exact Nat.le_refl _)] at hG0
      have HG0 := hide hG0
      clear hG hG0
      go_wp2_with fail
      go_ret
      exact ⟨_, _, rfl, unhide HG0⟩
set_option maxRecDepth 100000 in
set_option maxHeartbeats 3200000 in
theorem sameM_any {w : World} {u v : Value} {f : Fm} (hu : FmA w u f) (hv : FmA w v f) (hN : f.sl.length ≤ 1048576) :
    Calls Try.prog 85 #[u, v] w fun e w' => e = .returned (.bool true) ∧ Below w.heap.size w w' := by
  obtain ⟨su, rfl, hu⟩ := hu
  obtain ⟨sv, rfl, hv⟩ := hv
  obtain ⟨ua, uc, rfl⟩ : ∃ a c, su = .slice a f.sl.length c := by obtain ⟨_, a, c, e, _⟩ := hu; exact ⟨a, c, e⟩
  obtain ⟨va, vc, rfl⟩ : ∃ a c, sv = .slice a f.sl.length c := by obtain ⟨_, a, c, e, _⟩ := hv; exact ⟨a, c, e⟩
  have hB : ∀ o1 o2, Below w.heap.size w ((w.alloc o1).alloc o2) := fun o1 o2 => ((Below.refl _ w).alloc (Nat.le_refl _) o1).alloc (by simp only [World.size_alloc]; omega) o2
  have HC := hide (fun o1 o2 => sameV_any (hu.below (hB o1 o2) (Nat.le_refl _)) (hv.below (hB o1 o2) (Nat.le_refl _)) (by omega))
  have HB := hide hB
  clear hu hv hB
  go_enter Try.func85, Try.ntmps85
  go_wp2_with fail
  refine (unhide HC _ _).mono ?_
  rintro e w1 ⟨rfl, hb1⟩
  have HB1 := hide hb1
  clear hb1 HC
  go_wp2_with fail
  go_ret
  exact ⟨rfl, (unhide HB _ _).trans ((unhide HB1).mono (by simp only [World.size_alloc]; omega))⟩
set_option maxRecDepth 100000 in
set_option maxHeartbeats 3200000 in
theorem sameMs_any {w : World} {u v : Value} {fs : List Fm} (hu : FsV w u fs) (hv : FsV w v fs) (hN : fs.length ≤ 1048576) (hS : ∀ f ∈ fs, f.sl.length ≤ 1048576) :
    Calls Try.prog 69 #[u, v] w fun e w' => e = .returned (.bool true) ∧ Below w.heap.size w w' := by
  obtain ⟨ua, uc, rfl, hul, hum⟩ := hu.shape
  obtain ⟨va, vc, rfl, hvl, hvm⟩ := hv.shape
  have HU := hide hu
  have HV := hide hv
  obtain ⟨L, hL⟩ : ∃ L, Hid (fs.length = L) := ⟨_, hide rfl⟩
  rw [unhide hL] at hN hul hvl HU HV ⊢
  unfold maxLen at hum hvm
  have HS := hide hS
  have d0 : (((L : Nat) : Int) != (L : Int)) = false := by simp
  clear hu hv hS
  go_enter Try.func69, Try.ntmps69
  go_wp2_with fail
  go_loopg [5] L (fun gg t5 wr => ∃ (i : Nat), Hid (i + gg = L) ∧ t5 = .int .i64 (i : Int) ∧ Hid (Below w.heap.size w wr))
  case atStart => exact ⟨0, by unfold Hid; omega, rfl, Below.refl _ _⟩
  case round =>
    obtain ⟨i, hi, rfl, hB⟩ := hrel
    by_cases hlt : i < L
    · obtain ⟨f, hf⟩ : ∃ f, fs[i]? = some f := ⟨_, List.getElem?_eq_getElem (by rw [unhide hL]; exact hlt)⟩
      obtain ⟨b, off, sa, sc, ea, hb, k0, k1, k2, hx, hsl, hsm⟩ := ((unhide HU).below (unhide hB) (Nat.le_refl _)).three hf
      obtain ⟨b', off', sa', sc', ea', hb', r0, r1, r2, hx', hsl', hsm'⟩ := ((unhide HV).below (unhide hB) (Nat.le_refl _)).three hf
      cases ea
      cases ea'
      have i0 : (0 : Int) ≤ (i : Int) := by omega
      have i1 : (i : Int) < (L : Int) := by omega
      have hdr : Below wr.heap.size wr wr.drew := ⟨rfl, rfl, rfl, Nat.le_refl _, fun _ _ => rfl⟩
      have HC := hide (sameM_any (FmA.of (hx.below hdr (Nat.le_refl _))) (FmA.of (hx'.below hdr (Nat.le_refl _))) (unhide HS f (List.mem_of_getElem? hf)))
      clear hx hx' hf hdr
      unfold maxLen at hsm hsm'
      go_wp2_with fail
      go_region_held3 (fun w' => w'.cell? ⟨b, off + i * 3, none⟩ = some (.int .i64 f.fn) ∧ w'.cell? ⟨b, off + i * 3 + 1, none⟩ = some (.int .i64 f.pc) ∧ w'.cell? ⟨b, off + i * 3 + 2, none⟩ = some (.slice sa f.sl.length sc) ∧ w'.cell? ⟨b', off' + i * 3, none⟩ = some (.int .i64 f.fn) ∧ w'.cell? ⟨b', off' + i * 3 + 1, none⟩ = some (.int .i64 f.pc) ∧ w'.cell? ⟨b', off' + i * 3 + 2, none⟩ = some (.slice sa' f.sl.length sc')) (first | go_keep | exact ⟨(hb1.cell (p := ⟨b, _, none⟩) hb).trans k0, (hb1.cell (p := ⟨b, _, none⟩) hb).trans k1, (hb1.cell (p := ⟨b, _, none⟩) hb).trans k2, (hb1.cell (p := ⟨b', _, none⟩) hb').trans r0, (hb1.cell (p := ⟨b', _, none⟩) hb').trans r1, (hb1.cell (p := ⟨b', _, none⟩) hb').trans r2⟩) (first | (go_at_call 85; refine (unhide HC).mono ?_; rintro e w1 ⟨rfl, hb1⟩))
      have HB2 : Hid (Below w.heap.size w w1) := (unhide hB).trans (((⟨rfl, rfl, rfl, Nat.le_refl _, fun _ _ => rfl⟩ : Below w.heap.size wr wr.drew)).trans (hb1.mono (unhide hB).size))
      clear hb1 HC
      go_wp2_with fail
      go_roundg (gk - 1)
      case measure => have := unhide hi; omega
      case rel => exact ⟨i + 1, by have := unhide hi; unfold Hid; omega, by go_num, HB2⟩
    · have hiL : i = L := by have := unhide hi; omega
      subst hiL
      go_wp2_with fail
      go_ret
      exact ⟨rfl, unhide hB⟩
end Go.Proofs.Ytadgiccfjppnfaa
