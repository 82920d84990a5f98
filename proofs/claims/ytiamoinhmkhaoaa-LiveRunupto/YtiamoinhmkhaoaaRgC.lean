/-
  Code handed in: the state on the way.
-/
import Derived.Test.YtiamoinhmkhaoaaRg10
namespace Go.Proofs.Ytiamoinhmkhaoaa
open Go.RowKit
set_option linter.unusedVariables false
set_option linter.unusedSimpArgs false
theorem BksV.at {D : Nat → Prop} {w : World} {l : List Bk} {v : Value} (h : BksV D w l v) {i : Nat} {x : Bk} (hx : l[i]? = some x) :
    ∃ b off cap ia ic na nc, v = .slice (some ⟨b, off, none⟩) l.length cap ∧ b < w.heap.size ∧ D b ∧ BkP D w x ⟨x.pc, .slice ia x.ins.length ic, .slice na x.nx.length nc⟩ ∧ x.ins.length ≤ ic ∧ ic ≤ maxLen ∧ x.nx.length ≤ nc ∧ nc ≤ maxLen ∧
      ∀ W : World, W.heap[b]? = w.heap[b]? → W.cell? ⟨b, off + i * 3, none⟩ = some (.int .i64 x.pc) ∧ W.cell? ⟨b, off + i * 3 + 1, none⟩ = some (.slice ia x.ins.length ic) ∧ W.cell? ⟨b, off + i * 3 + 2, none⟩ = some (.slice na x.nx.length nc) := by
  obtain ⟨b, off, cap, r, e, hb, hD, ⟨h1, h2, h3⟩, hc⟩ := NV.at zBk h hx
  obtain ⟨ia, ic, es, hs1, hs2⟩ := NV.shape h2
  obtain ⟨na, nc, es2, hs3, hs4⟩ := h3.1.shape
  obtain ⟨r1, r2, r3⟩ := r
  dsimp only at h1 h2 h3 es es2
  subst h1 es es2
  refine ⟨b, off, cap, ia, ic, na, nc, e, hb, hD, ⟨rfl, h2, h3⟩, hs1, hs2, hs3, hs4, fun W hW => ?_⟩
  exact ⟨(World.cell?_of_block (a := ⟨b, off + i * 3, none⟩) hW).trans (hc 0 _ rfl), (World.cell?_of_block (a := ⟨b, off + i * 3 + 1, none⟩) hW).trans (hc 1 _ rfl), (World.cell?_of_block (a := ⟨b, off + i * 3 + 2, none⟩) hW).trans (hc 2 _ rfl)⟩
def bkW (l : List Bk) : Nat := (l.map (fun b => inW b.ins)).sum
def bkI (l : List Bk) : Nat := (l.map (fun b => b.ins.length)).sum
theorem bkW_push {l : List Bk} {i : Nat} {x : Bk} (h : l[i]? = some x) : bkW (l.take (i + 1)) = bkW (l.take i) + inW x.ins := by
  rw [take_push h]; simp [bkW]
theorem bkI_push {l : List Bk} {i : Nat} {x : Bk} (h : l[i]? = some x) : bkI (l.take (i + 1)) = bkI (l.take i) + x.ins.length := by
  rw [take_push h]; simp [bkI]
theorem bkW_le (l : List Bk) (i : Nat) : bkW (l.take i) ≤ bkW l := by
  have h : ∀ a c : List Bk, bkW (a ++ c) = bkW a + bkW c := fun a c => by simp [bkW]
  have := h (l.take i) (l.drop i)
  rw [List.take_append_drop] at this
  omega
theorem bkI_le (l : List Bk) (i : Nat) : bkI (l.take i) ≤ bkI l := by
  have h : ∀ a c : List Bk, bkI (a ++ c) = bkI a + bkI c := fun a c => by simp [bkI]
  have := h (l.take i) (l.drop i)
  rw [List.take_append_drop] at this
  omega
theorem PB.bkP {b : Nat} {w : World} {u : Bk} {t : TB} (h : PB b w u t) : BkP (fun k => blB t k) w u t.1 := by
  refine ⟨h.pc, ⟨t.2.map Prod.fst, by rw [List.length_map]; exact h.ow.len, ?_, fun i x r hx hr => ?_⟩, Rd.of_ro h.nx (fun k hk => .inr (.inr hk))⟩
  · rw [← flt_T]; exact Rd.of_ro h.ow.row (fun k hk => .inl hk)
  · rw [List.getElem?_map] at hr
    cases hx2 : t.2[i]? with
    | none => rw [hx2] at hr; cases hr
    | some y =>
      rw [hx2] at hr
      cases hr
      exact InP.mv _ _ (fun _ => False) _ _ _ _ (h.ow.el i x y hx hx2).inP (Fr.refl _ _) (fun k _ hk => ⟨fun q => q, .inr (.inl ⟨y, List.mem_of_getElem? hx2, hk⟩)⟩)
theorem PB.mono {b b' : Nat} {w : World} {u : Bk} {t : TB} (h : PB b w u t) (hb : b' ≤ b) : PB b' w u t :=
  ⟨h.pc, h.ow.mono (fun k _ hk => Nat.lt_of_le_of_lt hb hk), h.nx, fun k hk => ⟨Nat.lt_of_le_of_lt hb (h.nb k hk).1, (h.nb k hk).2⟩⟩
/-- Blocks of one's own, all apart. -/
structure XP (T : Nat → Nat) (B : Nat) (bl : List Bk) (w : World) (X : List TB) : Prop where
  el : ∀ (j : Nat) (b : Bk) (x : TB), bl[j]? = some b → X[j]? = some x → PB B w b x
  bt : ∀ (x : TB) (k : Nat), x ∈ X → blB x k → T k = 0 ∧ B < k ∧ k < w.heap.size
  ap : ∀ (i j : Nat) (x y : TB) (k : Nat), i ≠ j → X[i]? = some x → X[j]? = some y → blB x k → ¬ blB y k
theorem XP.mv {T T' : Nat → Nat} {B : Nat} {bl : List Bk} {w w' : World} {X : List TB} {S : Nat → Prop} (h : XP T B bl w X) (f : Fr S w w') (hS : ∀ k, k < w.heap.size → T k = 0 → B < k → ¬ S k ∧ T' k = 0) : XP T' B bl w' X :=
  ⟨fun j b x hb hx => stayB B S w w' b x (h.el j b x hb hx) f (fun k hk => by have h3 := h.bt x k (List.mem_of_getElem? hx) hk; exact (hS k h3.2.2 h3.1 h3.2.1).1),
    fun x k hx hk => by have h3 := h.bt x k hx hk; exact ⟨(hS k h3.2.2 h3.1 h3.2.1).2, h3.2.1, Nat.lt_of_lt_of_le h3.2.2 f.size⟩, h.ap⟩
theorem XP.push {T : Nat → Nat} {B : Nat} {bl : List Bk} {w : World} {X : List TB} {x : TB} (h : XP T B bl w X) (hp : ∀ b, bl[X.length]? = some b → PB B w b x) (hx : ∀ k, blB x k → T k = 0 ∧ B < k ∧ k < w.heap.size ∧ ∀ y ∈ X, ¬ blB y k) : XP T B bl w (X ++ [x]) := by
  refine ⟨fun j b y hb hy => ?_, fun y k hy hk => ?_, fun i j y z k hij hy hz hk => ?_⟩
  · rcases mem_push hy with ⟨q1, q2⟩ | ⟨q1, rfl⟩
    · exact h.el j b y hb q2
    · subst q1; exact hp b hb
  · rcases List.mem_append.1 hy with q | q
    · exact h.bt y k q hk
    · rw [List.mem_singleton] at q
      subst q
      exact ⟨(hx k hk).1, (hx k hk).2.1, (hx k hk).2.2.1⟩
  · rcases mem_push hy with ⟨q1, q2⟩ | ⟨q1, rfl⟩ <;> rcases mem_push hz with ⟨r1, r2⟩ | ⟨r1, rfl⟩
    · exact h.ap i j y z k hij q2 r2 hk
    · exact fun e => (hx k e).2.2.2 y (List.mem_of_getElem? q2) hk
    · exact (hx k hk).2.2.2 z (List.mem_of_getElem? r2)
    · omega
structure HC (w : World) (fn regs : Int) (blv : Value) (cf cr : Int) (cb : Value) (bl : List Bk) (i : Nat) (rs pd : List BkR) (T : Nat → Nat) (rv : Nat → Value) (vs : Nat → List Value) (wr : World) : Prop where
  hs : HS T wr (w.heap.size + 1) cf cr cb rv vs rs
  tk : ∀ k, k < w.heap.size → T k = 0
  bw : Below w.heap.size w wr
  cb : wr.heap[w.heap.size]? = some (.cells #[.int .i64 fn, .int .i64 regs, blv] 24)
  t9 : T w.heap.size = 9
  xs : ∃ X : List TB, X.map Prod.fst = rs ++ pd ∧ XP T w.heap.size bl wr X
  c2 : (vs 2).length = bkW (bl.take i)
  c3 : (vs 3).length = bkI (bl.take i)
  c4 : (vs 4).length = i
  c5 : (vs 5).length = i
section
variable {T : Nat → Nat} {w wr w' : World} {fn regs cf cr : Int} {cb blv : Value} {rv : Nat → Value} {vs : Nat → List Value} {bl : List Bk} {i : Nat} {rs pd : List BkR}
def tag0 (w : World) : Nat → Nat := fun k => if k < w.heap.size then 0 else if k = w.heap.size then 9 else 1
theorem HC.start (w : World) (fn regs : Int) (blv : Value) (bl : List Bk) : HC w fn regs blv 0 0 (.slice none 0 0) bl 0 [] [] (tag0 w) (fun _ => .slice none 0 0) (fun _ => []) ((w.alloc (.cells #[.int .i64 fn, .int .i64 regs, blv] 24)).alloc (.cells #[.int .i64 0, .int .i64 0, .slice none 0 0, .slice none 0 0, .slice none 0 0, .slice none 0 0, .slice none 0 0, .slice none 0 0] 33)) := by
  refine ⟨⟨?_, ?_, fun t _ _ => by simpa [flt] using Ro.nil _ 1, by simpa [flt] using Ro.nil _ 3, (fun t _ _ k e => by cases e), (fun t _ _ v h => by simp at h)⟩, ?_, bl_two w _ _, ?_, ?_, ⟨[], rfl, ⟨(fun j b x _ h => by simp at h), (fun x k h => by simp at h), (fun i j x y k _ h => by simp at h)⟩⟩, by simp [bkW], by simp [bkI], rfl, rfl⟩
  · have := heap_alloc_new (w.alloc (.cells #[.int .i64 fn, .int .i64 regs, blv] 24)) (.cells #[.int .i64 0, .int .i64 0, .slice none 0 0, .slice none 0 0, .slice none 0 0, .slice none 0 0, .slice none 0 0, .slice none 0 0] 33)
    simpa only [World.size_alloc] using this
  · simp [tag0]
  · intro k hk; simp [tag0, hk]
  · rw [Below.heap_alloc _ _ _ (by simp)]; exact heap_alloc_new w _
  · simp [tag0]
theorem HC.sz (h : HC w fn regs blv cf cr cb bl i rs pd T rv vs wr) : w.heap.size + 1 < wr.heap.size := h.hs.lt
theorem HC.below (h : HC w fn regs blv cf cr cb bl i rs pd T rv vs wr) (f : Below wr.heap.size wr w') (t : Nat) : HC w fn regs blv cf cr cb bl i rs pd (tl T wr.heap.size t) rv vs w' := by
  have hsz := h.sz
  exact ⟨h.hs.below f t, fun k hk => by rw [tl_lt T t (by omega)]; exact h.tk k hk, bl_past h.bw f, (f.block _ (by omega)).trans h.cb, by rw [tl_lt T t (by omega)]; exact h.t9, (by obtain ⟨X, hX, hP⟩ := h.xs; exact ⟨X, hX, hP.mv (Fr.of_below (S := fun _ => False) f) (fun k hk e _ => ⟨fun q => q, by rw [tl_lt T t hk]; exact e⟩)⟩), h.c2, h.c3, h.c4, h.c5⟩
theorem Fr.bel {S : Nat → Prop} {a b c : World} (h : Below a.heap.size a b) (f : Fr S b c) (hS : ∀ k, k < a.heap.size → ¬ S k) : Below a.heap.size a c := h.trans (f.below h.size hS)
theorem HC.block (h : HC w fn regs blv cf cr cb bl i rs [] T rv vs wr) {b : Bk} {r : BkR} (hi : rs.length = i) (hb : bl[i]? = some b) (hh : HBk T wr (w.heap.size + 1) cf cr cb rv vs rs b r w') :
    ∃ T' rv' vs', HC w fn regs blv cf cr cb bl (i + 1) rs [r] T' rv' vs' w' ∧ BkP (fun k => T' k = 0) w' b r ∧ rv' 6 = rv 6 := by
  obtain ⟨T', rv', vs', ts, g1, g2, g3, g4, g4b, g5, g6, g7, g8, g9⟩ := hh
  have hsz := h.sz
  have h9 := h.t9
  refine ⟨T', rv', vs', ⟨g1, fun k hk => by rw [g2 k (by omega)]; exact h.tk k hk, Fr.bel h.bw g3 (fun k hk e => by have := h.tk k hk; omega), (g3.block _ (by omega) (by omega)).trans h.cb, by rw [g2 _ (by omega)]; exact h9, ?_, ?_, ?_, ?_, ?_⟩, BkP.mv _ _ _ _ _ _ _ g4.bkP (Fr.refl (fun _ => False) w') (fun k hk e => ⟨fun q => q, g4b k e⟩), g9⟩
  · obtain ⟨X, hX, hP⟩ := h.xs
    rw [List.append_nil] at hX
    have hXl : X.length = i := by rw [← hi, ← hX, List.length_map]
    have h2 := hP.mv (T' := T') g3 (fun k hk e _ => ⟨by omega, by rw [g2 k hk]; exact e⟩)
    refine ⟨X ++ [(r, ts)], by rw [List.map_append, hX]; rfl, h2.push (fun b' hb' => ?_) (fun k hk => ?_)⟩
    · rw [hXl, hb] at hb'
      cases hb'
      exact g4.mono (by omega)
    · have h1 := g4.gt hk
      exact ⟨g4b k hk, by omega, h1.2, fun y hy e => by have := (hP.bt y k hy e).2.2; omega⟩
  · rw [g5, h.c2, bkW_push hb]
  · rw [g6, h.c3, bkI_push hb]
  · rw [g7, h.c4]
  · rw [g8, h.c5]
theorem HC.pushB {u : BkR} (h : HC w fn regs blv cf cr cb bl i rs [u] T rv vs wr) {w1 w2 : World} {v' : Value} (hb : Below wr.heap.size wr w1) {m : Nat}
    (hr : Ro w2 3 v' m (flt enBk rs ++ enBk u)) (hm : m = rs.length + 1) (hg : w1.grownBy w2 (rv 6).ownBlock) (hat : v'.ownBlock = (rv 6).ownBlock ∨ v'.ownBlock = some w1.heap.size) :
    HC w fn regs blv cf cr cb bl i (rs ++ [u]) [] (tl T wr.heap.size 6) (upd rv 6 v') vs (w2.setCell ⟨w.heap.size + 1, 7, none⟩ v') ∧ Fr (fun k => T k = 6 ∨ T k = 1) wr (w2.setCell ⟨w.heap.size + 1, 7, none⟩ v') := by
  obtain ⟨q1, q2⟩ := h.hs.pushB (u := u) hb hr hm hg hat
  have hsz := h.sz
  have h9 := h.t9
  refine ⟨⟨q1, fun k hk => by rw [tl_lt T 6 (by omega)]; exact h.tk k hk, Fr.bel h.bw q2 (fun k hk e => by have := h.tk k hk; omega), (q2.block _ (by omega) (by omega)).trans h.cb, by rw [tl_lt T 6 (by omega)]; exact h9, ?_, h.c2, h.c3, h.c4, h.c5⟩, q2⟩
  obtain ⟨X, hX, hP⟩ := h.xs
  exact ⟨X, by rw [hX]; simp, hP.mv q2 (fun k hk e _ => ⟨by omega, by rw [tl_lt T 6 hk]; exact e⟩)⟩
/-- A mark is about to be laid behind the blocks. -/
theorem HC.mark (h : HC w fn regs blv cf cr cb bl i rs [] T rv vs wr) (hl : bl.length ≤ rs.length) (m : Nat) : HC w fn regs blv cf cr cb bl i rs [mkBk m] T rv vs wr := by
  obtain ⟨a1, a2, a3, a4, a5, a6, a7, a8, a9, a10⟩ := h
  obtain ⟨X, hX, hP⟩ := a6
  rw [List.append_nil] at hX
  refine ⟨a1, a2, a3, a4, a5, ⟨X ++ [(mkBk m, [])], by rw [List.map_append, hX]; rfl, hP.push (fun b hb => ?_) (fun k hk => ?_)⟩, a7, a8, a9, a10⟩
  · have h1 := (List.getElem?_eq_some_iff.1 hb).1
    have h2 : X.length = rs.length := by rw [← hX, List.length_map]
    omega
  · rcases hk with q | ⟨y, hy, _⟩ | q
    · cases q
    · cases hy
    · cases q
/-- The code itself is laid into the box. -/
theorem HC.code (h : HC w fn regs blv cf cr cb bl i rs pd T rv vs wr) (x y : Int) (z : Value) :
    HC w fn regs blv x y z bl i rs pd T rv vs (((wr.setCell ⟨w.heap.size + 1, 0, none⟩ (.int .i64 x)).setCell ⟨w.heap.size + 1, 1, none⟩ (.int .i64 y)).setCell ⟨w.heap.size + 1, 2, none⟩ z) ∧ Fr (fun k => k = w.heap.size + 1) wr (((wr.setCell ⟨w.heap.size + 1, 0, none⟩ (.int .i64 x)).setCell ⟨w.heap.size + 1, 1, none⟩ (.int .i64 y)).setCell ⟨w.heap.size + 1, 2, none⟩ z) := by
  have f : Fr (fun k => k = w.heap.size + 1) wr (((wr.setCell ⟨w.heap.size + 1, 0, none⟩ (.int .i64 x)).setCell ⟨w.heap.size + 1, 1, none⟩ (.int .i64 y)).setCell ⟨w.heap.size + 1, 2, none⟩ z) := (((Fr.refl (fun k => k = w.heap.size + 1) wr).setCell ⟨w.heap.size + 1, 0, none⟩ (.inr rfl) _).setCell ⟨w.heap.size + 1, 1, none⟩ (.inr rfl) _).setCell ⟨w.heap.size + 1, 2, none⟩ (.inr rfl) _
  have hsz := h.sz
  have htp := h.hs.tp
  have h9 := h.t9
  have nr : ∀ t, 2 ≤ t → t ≤ 6 → ∀ k, (rv t).ownBlock = some k → ¬ k = w.heap.size + 1 := fun t h2 h6 k hk e => by have := h.hs.tag t h2 h6 k hk; subst e; omega
  refine ⟨⟨⟨?_, htp, fun t h2 h5 => (h.hs.row t h2 h5).fr f (nr t h2 (by omega)), h.hs.brow.fr f (nr 6 (by omega) (by omega)), h.hs.tag, fun t h2 h5 v hv => (h.hs.el t h2 h5 v hv).mv f (fun k hk e => ⟨fun q => by have q' : k = w.heap.size + 1 := q; subst q'; omega, e⟩)⟩, h.tk, Fr.bel h.bw f (fun k hk e => by have e' : k = w.heap.size + 1 := e; omega), (f.block _ (by omega) (by omega)).trans h.cb, h9, (by obtain ⟨X, hX, hP⟩ := h.xs; exact ⟨X, hX, hP.mv f (fun k hk e _ => ⟨fun q => by have q' : k = w.heap.size + 1 := q; subst q'; omega, e⟩)⟩), h.c2, h.c3, h.c4, h.c5⟩, f⟩
  rw [setCell_block (setCell_block (setCell_block h.hs.box (.int .i64 x)) (.int .i64 y)) z]
  rfl
end
end Go.Proofs.Ytiamoinhmkhaoaa
