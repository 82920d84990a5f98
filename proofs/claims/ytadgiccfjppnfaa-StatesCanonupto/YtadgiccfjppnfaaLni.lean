/-
  A state lent: what stands while it is made.
-/
import Derived.Test.YtadgiccfjppnfaaCst
namespace Go.Proofs.Ytadgiccfjppnfaa
open Go.RowKit
set_option linter.unusedVariables false
set_option linter.unusedSimpArgs false
/-- A room: values, and marks behind them. -/
def PR (w : World) (l : List (Int × Int)) (r : Value) : Prop := Ro w 2 r (l.length + 64) (flt enI (l ++ mkV 64))
def blV (r : Value) (k : Nat) : Prop := r.ownBlock = some k
theorem staysR : Stays PR blV := fun S w w' u x h f hk => h.fr f hk
abbrev OR := OW enV 1 PR blV
set_option maxRecDepth 100000 in
theorem appR {w : World} {ops : Array Oper} {rest : List Oper} {o : Oper} {a : Act} {Q : Exit → Act → World → Prop}
    (hg : o.guard = none) (s x : Operand) (hop : o.op = Op.call { callee := Callee.builtin Builtin.append, args := #[s, x], argTypes := #[28, 28] })
    (v : Value) (n : Nat) (l : List Value) (hs : a.eval s = v) (hr : Ro w 1 v n (flt enV l)) (ad : Addr) (c : Nat) (p : Value) (hx : a.eval x = .slice (some ad) 1 c) (hc : ∀ j u, (enV p)[j]? = some u → w.cell? (ad.add j) = some u)
    (h1 : p.oneCell' = true) (hN : n ≤ 3000000000000)
    (hK : ∀ v' w', Ro w' 1 v' (n + 1) (flt enV l ++ enV p) → w.grownBy w' v.ownBlock → (v'.ownBlock = v.ownBlock ∨ v'.ownBlock = some w.heap.size) → wpList Try.prog ops Q rest (a.put o.dst v') w') :
    wpList Try.prog ops Q (o :: rest) a w := by
  obtain ⟨i0, hi0, hz0, hz1, hz2⟩ := info_parts infR
  exact wpList_app hg s x 28 hop 36 i0 _ 1 24 Try.underlying28 hi0 hz0 hz1 hz2 rfl (by decide) v n (flt enV l) hs hr ad 1 c (enV p) hx rfl hc (by intro u hu; simp only [enV, List.mem_cons, List.not_mem_nil, or_false] at hu; rcases hu with rfl; assumption) (by omega) (by unfold maxLen; omega) (by omega) hK
/-- Blocks between two bounds, or of a room. -/
def ZR (A B : Nat) (R : List Value) (k : Nat) : Prop := (A ≤ k ∧ k < B) ∨ ∃ r ∈ R, blV r k
/-- While a state is lent. X is the block of the copy's box. -/
structure LI (w : World) (X C1 C : Nat) (s : St) (inp : Array Value) (tv ov bv : Value) (wr : World) (rv : Value) (ls : List (List (Int × Int))) (R : List Value) (xo : List Obv) (xb : List (Value × List Fmv)) : Prop where
  t : Rx wr 1 tv s.texts.length (flt enT s.texts)
  tb : ∀ k, tv.ownBlock = some k → w.heap.size + 1 < k ∧ k < C1
  o : OO (ZR C1 C R) wr ov s.objs xo
  ol : ∀ k, ov.ownBlock = some k → k < C
  b : OB (ZR C X R) wr bv s.fibs xb
  bl : ∀ k, bv.ownBlock = some k → k < X
  bx : ∀ p ∈ xb, ∀ k, p.1.ownBlock = some k → k < X
  r : OR (fun k => X < k) wr rv ls R
  xx : wr.heap[X]? = some (.cells #[tv, ov, bv, .int .i64 s.cur, .int .i64 s.steps, .int .i64 s.spent, .int .i64 s.read] 26)
  p : wr.heap[w.heap.size]? = some (.cells inp 26)
  q : wr.heap[w.heap.size + 1]? = some (.cells #[.slice none 0 0, .slice none 0 0, .slice none 0 0, .int .i64 0, .int .i64 0, .int .i64 0, .int .i64 0] 26)
  bw : Below w.heap.size w wr
  c : w.heap.size + 1 < C1 ∧ C1 ≤ C ∧ C ≤ X
  ap : ∀ x ∈ xo, ∀ p ∈ xb, ∀ k, blO x k → ¬ blB p k
theorem LI.room {w : World} {X C1 C : Nat} {s : St} {inp : Array Value} {tv ov bv : Value} {wr w2 w3 : World} {rv rv' : Value} {ls : List (List (Int × Int))} {R : List Value} {xo : List Obv} {xb : List (Value × List Fmv)} {l : List (Int × Int)} {r : Value} {O : Obj} {m : Nat}
    (h : LI w X C1 C s inp tv ov bv wr rv ls R xo xb) (hG : Gx wr 2 enI (l ++ mkV 64) r w2) (hr : Ro w3 1 rv' m (flt enV R ++ enV r)) (hm : m = ls.length + 1) (hg : (w2.alloc O).grownBy w3 rv.ownBlock) (hat : rv'.ownBlock = rv.ownBlock ∨ rv'.ownBlock = some (w2.alloc O).heap.size) :
    LI w X C1 C s inp tv ov bv w3 rv' (ls ++ [l]) (R ++ [r]) xo xb ∧ PR w3 l r := by
  have hX : X < wr.heap.size := (Array.getElem?_eq_some_iff.1 h.xx).1
  obtain ⟨g1, g2, g3⟩ := hG
  have hb : Below wr.heap.size wr (w2.alloc O) := g2.alloc g2.size O
  have hpr : PR (w2.alloc O) l r := by
    have := g1.fr ((Fr.refl (fun _ => False) w2).alloc O) (fun _ _ e => e)
    rw [lmV_length] at this
    exact this
  obtain ⟨hR, hF⟩ := h.r.push staysR hb hpr (fun k hk => ⟨g3 k hk, Nat.lt_of_lt_of_le (g1.lt k hk) (by simp)⟩) (fun k hk => by omega) hr hm hg hat
  have hrv : ∀ k, rv.ownBlock = some k → X < k := h.r.rb
  have hRX : ∀ k, (∃ q ∈ R, blV q k) → X < k ∧ rv.ownBlock ≠ some k := fun k ⟨q, hq, hk⟩ => by
    obtain ⟨i, hi, rfl⟩ := List.getElem_of_mem hq
    have := h.r.eb i _ k (List.getElem?_eq_getElem hi) hk
    exact ⟨this.1, this.2.2⟩
  have hc := h.c
  have hmono : ∀ A B k, ZR A B R k → ZR A B (R ++ [r]) k := fun A B k hz => by
    rcases hz with hz | ⟨q, hq, hk⟩
    · exact .inl hz
    · exact .inr ⟨q, List.mem_append_left _ hq, hk⟩
  refine ⟨⟨h.t.fr hF (fun k hk e => by have := h.tb k hk; have := hrv k e; omega), h.tb, ?_, h.ol, ?_, h.bl, h.bx, hR, ?_, ?_, ?_, h.bw.trans (hF.below h.bw.size (fun k hk e => by have := hrv k e; omega)), h.c, h.ap⟩, ?_⟩
  · exact (OW.frZ staysO h.o hF (fun k _ hz e => by
      have := hrv k e
      rcases hz with hz | hz
      · omega
      · exact (hRX k hz).2 e)).mono (fun k _ hz => hmono _ _ k hz)
  · exact (OW.frZ staysB h.b hF (fun k _ hz e => by
      have := hrv k e
      rcases hz with hz | hz
      · omega
      · exact (hRX k hz).2 e)).mono (fun k _ hz => hmono _ _ k hz)
  · exact (hF.block X hX (fun e => by have := hrv X e; omega)).trans h.xx
  · exact (hF.block _ (by omega) (fun e => by have := hrv _ e; omega)).trans h.p
  · exact (hF.block _ (by omega) (fun e => by have := hrv _ e; omega)).trans h.q
  · have hl : (ls ++ [l])[ls.length]? = some l := by simp
    have hr' : (R ++ [r])[ls.length]? = some r := by rw [← h.r.len]; simp
    exact hR.el ls.length l r hl hr'
theorem LI.setO {w : World} {X C1 C : Nat} {s : St} {inp : Array Value} {tv ov bv : Value} {wr : World} {rv : Value} {ls : List (List (Int × Int))} {R : List Value} {xo : List Obv} {xb : List (Value × List Fmv)}
    (h : LI w X C1 C s inp tv ov bv wr rv ls R xo xb) {g off n cap N : Nat} (e : ov = .slice (some ⟨g, off, none⟩) n cap) {i : Nat} {o : Ob} {x : Obv} (ho : s.objs[i]? = some o) (hx : xo[i]? = some x) {y r : Value} (hy : Ro wr 2 y o.its.length (flt enI o.its)) (hr : r ∈ R) (hyr : y.ownBlock = r.ownBlock) (hnew : ∀ k, y.ownBlock = some k → N ≤ k) (hold : ∀ (j : Nat) (z : Obv) (k : Nat), xo[j]? = some z → blO z k → k < N) (holdB : ∀ p ∈ xb, ∀ k, blB p k → k < N) :
    LI w X C1 C s inp tv ov bv (wr.setCell ⟨g, off + i * 6 + 1, none⟩ y) rv ls R (xo.set i { x with iv := y }) xb := by
  have hX : X < wr.heap.size := (Array.getElem?_eq_some_iff.1 h.xx).1
  have hc := h.c
  have hRX : ∀ k, (∃ q ∈ R, blV q k) → X < k ∧ k < wr.heap.size := fun k ⟨q, hq, hk⟩ => by
    obtain ⟨i, hi, rfl⟩ := List.getElem_of_mem hq
    have := h.r.eb i _ k (List.getElem?_eq_getElem hi) hk
    exact ⟨this.1, this.2.1⟩
  have hgC : g < C := h.ol g (by rw [e]; rfl)
  have hg1 : C1 ≤ g := by
    rcases h.o.rb g (by rw [e]; rfl) with q | q
    · exact q.1
    · have := (hRX g q).1; omega
  have hyk : ∀ k, y.ownBlock = some k → ∃ q ∈ R, blV q k := fun k hk => ⟨r, hr, by rw [hyr] at hk; exact hk⟩
  have hF0 : Fr (fun b => b = g) wr (wr.setCell ⟨g, off + i * 6 + 1, none⟩ y) := (Fr.refl (fun b => b = g) wr).setCell ⟨g, off + i * 6 + 1, none⟩ (.inr rfl) y
  have hel := h.o.el i o x ho hx
  have heb := fun k hk => h.o.eb i x k hx hk
  obtain ⟨hO, hF⟩ := h.o.set staysO zO e ho hx (c := 1) (x' := { x with iv := y }) (y := y) (by omega) (by simp [enO])
    ⟨hel.1, hel.2.1, hel.2.2.1, hel.2.2.2.1, hy.fr hF0 (fun k hk q => by have := (hRX k (hyk k hk)).1; omega), hel.2.2.2.2.2.fr hF0 (fun k hk q => (heb k (.inr hk)).2.2 (by rw [e, q]; rfl))⟩
    (fun k hk => by
      rcases hk with hk | hk
      · have := hRX k (hyk k hk)
        exact ⟨.inr (hyk k hk), this.2, fun q => by have := h.ol k q; omega⟩
      · exact heb k (.inr hk))
    (fun j z k hj hz hk => by
      rcases hk with hk | hk
      · exact fun q => by have := hnew k hk; have := hold j z k hz q; omega
      · exact h.o.ap i j x z k (fun q => hj q.symm) hx hz (.inr hk))
  have hap : ∀ z ∈ xo.set i { x with iv := y }, ∀ p ∈ xb, ∀ k, blO z k → ¬ blB p k := fun z hz p hp k hk e2 => by
    rcases List.mem_or_eq_of_mem_set hz with q | q
    · exact h.ap z q p hp k hk e2
    · subst q
      rcases hk with hk | hk
      · have := hnew k hk
        have := holdB p hp k e2
        omega
      · exact h.ap x (List.mem_of_getElem? hx) p hp k (.inr hk) e2
  refine ⟨h.t.fr hF (fun k hk q => by have := h.tb k hk; omega), h.tb, hO, h.ol, ?_, h.bl, h.bx, ?_, ?_, ?_, ?_, h.bw.trans (hF.below h.bw.size (fun k hk q => by omega)), h.c, hap⟩
  · exact OW.frZ staysB h.b hF (fun k _ hz q => by
      rcases hz with hz | hz
      · omega
      · have := (hRX k hz).1; omega)
  · exact OW.frZ staysR h.r hF (fun k _ hz q => by omega)
  · exact (hF.block X hX (by omega)).trans h.xx
  · exact (hF.block _ (by omega) (by omega)).trans h.p
  · exact (hF.block _ (by omega) (by omega)).trans h.q
theorem LI.setB {w : World} {X C1 C : Nat} {s : St} {inp : Array Value} {tv ov bv : Value} {wr : World} {rv : Value} {ls : List (List (Int × Int))} {R : List Value} {xo : List Obv} {xb : List (Value × List Fmv)}
    (h : LI w X C1 C s inp tv ov bv wr rv ls R xo xb) {g off n cap N : Nat} {i k : Nat} {b : List Fm} {ys : List Fmv} {f : Fm} {x : Fmv} (hb : s.fibs[i]? = some b) (hx : xb[i]? = some (.slice (some ⟨g, off, none⟩) n cap, ys)) (hf : b[k]? = some f) (hz : ys[k]? = some x) {y r : Value} (hy : Ro wr 2 y f.sl.length (flt enI f.sl)) (hr : r ∈ R) (hyr : y.ownBlock = r.ownBlock) (hnew : ∀ k, y.ownBlock = some k → N ≤ k) (hold : ∀ (j : Nat) (z : Value × List Fmv) (k : Nat), xb[j]? = some z → blB z k → k < N) (holdO : ∀ z ∈ xo, ∀ k, blO z k → k < N) :
    LI w X C1 C s inp tv ov bv (wr.setCell ⟨g, off + k * 3 + 2, none⟩ y) rv ls R xo (xb.set i (.slice (some ⟨g, off, none⟩) n cap, ys.set k { x with sv := y })) := by
  have hX : X < wr.heap.size := (Array.getElem?_eq_some_iff.1 h.xx).1
  have hc := h.c
  have hRX : ∀ k, (∃ q ∈ R, blV q k) → X < k ∧ k < wr.heap.size := fun k ⟨q, hq, hk⟩ => by
    obtain ⟨i, hi, rfl⟩ := List.getElem_of_mem hq
    have := h.r.eb i _ k (List.getElem?_eq_getElem hi) hk
    exact ⟨this.1, this.2.1⟩
  have hgb : blB ((.slice (some ⟨g, off, none⟩) n cap, ys) : Value × List Fmv) g := .inl rfl
  have hgX : g < X := h.bx _ (List.mem_of_getElem? hx) g rfl
  have hg1 : C ≤ g := by
    rcases (h.b.eb i _ g hx hgb).1 with q | q
    · exact q.1
    · have := (hRX g q).1; omega
  have hyk : ∀ k, y.ownBlock = some k → ∃ q ∈ R, blV q k := fun k hk => ⟨r, hr, by rw [hyr] at hk; exact hk⟩
  have hF0 : Fr (fun b => b = g) wr (wr.setCell ⟨g, off + k * 3 + 2, none⟩ y) := (Fr.refl (fun b => b = g) wr).setCell ⟨g, off + k * 3 + 2, none⟩ (.inr rfl) y
  have hin : OM (fun _ => True) wr (.slice (some ⟨g, off, none⟩) n cap) b ys := h.b.el i b _ hb hx
  have hel := hin.el k f x hf hz
  obtain ⟨hM, hF⟩ := hin.set staysM zM rfl hf hz (c := 2) (x' := { x with sv := y }) (y := y) (by omega) (by simp [enM])
    ⟨hel.1, hel.2.1, hy.fr hF0 (fun k hk q => by have := (hRX k (hyk k hk)).1; omega)⟩
    (fun k hk => by
      have := hRX k (hyk k hk)
      exact ⟨trivial, this.2, fun q => by have e2 := Option.some.inj (show some g = some k from q); omega⟩)
    (fun j z kk hj hz' hk q => by
      have := hnew kk hk
      have := hold i _ kk hx (.inr ⟨z, List.mem_of_getElem? hz', q⟩)
      omega)
  have hmem : ∀ kk, blB ((.slice (some ⟨g, off, none⟩) n cap, ys.set k { x with sv := y }) : Value × List Fmv) kk → blB ((.slice (some ⟨g, off, none⟩) n cap, ys) : Value × List Fmv) kk ∨ y.ownBlock = some kk := fun kk hk => by
    rcases hk with hk | ⟨z, hz', hk⟩
    · exact .inl (.inl hk)
    · rcases List.mem_or_eq_of_mem_set hz' with q | q
      · exact .inl (.inr ⟨z, q, hk⟩)
      · rw [q] at hk; exact .inr hk
  have hB := h.b.inner staysB zB hF hb hx (x' := (.slice (some ⟨g, off, none⟩) n cap, ys.set k { x with sv := y })) rfl
    (fun j z kk hj hz' hk q => by rw [q] at hk; exact h.b.ap i j _ z g (fun q => hj q.symm) hx hz' hgb hk)
    (fun kk hk q => by rw [q] at hk; exact (h.b.eb i _ g hx hgb).2.2 hk)
    hM
    (fun kk hk => by
      rcases hmem kk hk with q | q
      · obtain ⟨z1, z2, z3⟩ := h.b.eb i _ kk hx q
        exact ⟨z1, Nat.lt_of_lt_of_le z2 hF.size, z3⟩
      · have := hRX kk (hyk kk q)
        exact ⟨.inr (hyk kk q), Nat.lt_of_lt_of_le this.2 hF.size, fun q2 => by have := h.bl kk q2; omega⟩)
    (fun j z kk hj hz' hk => by
      rcases hmem kk hk with q | q
      · exact h.b.ap i j _ z kk (fun q => hj q.symm) hx hz' q
      · exact fun q2 => by have := hnew kk q; have := hold j z kk hz' q2; omega)
  have hap : ∀ z ∈ xo, ∀ p ∈ xb.set i (.slice (some ⟨g, off, none⟩) n cap, ys.set k { x with sv := y }), ∀ kk, blO z kk → ¬ blB p kk := fun z hz p hp kk hk e2 => by
    rcases List.mem_or_eq_of_mem_set hp with q | q
    · exact h.ap z hz p q kk hk e2
    · subst q
      rcases hmem kk e2 with e2 | e2
      · exact h.ap z hz _ (List.mem_of_getElem? hx) kk hk e2
      · have := hnew kk e2
        have := holdO z hz kk hk
        omega
  refine ⟨h.t.fr hF (fun k hk q => by have := h.tb k hk; omega), h.tb, ?_, h.ol, hB, h.bl, ?_, ?_, ?_, ?_, ?_, h.bw.trans (hF.below h.bw.size (fun k hk q => by omega)), h.c, hap⟩
  · exact OW.frZ staysO h.o hF (fun k _ hz q => by
      rcases hz with hz | hz
      · omega
      · have := (hRX k hz).1; omega)
  · intro p hp kk hk
    rcases List.mem_or_eq_of_mem_set hp with q | q
    · exact h.bx p q kk hk
    · rw [q] at hk; exact h.bx _ (List.mem_of_getElem? hx) kk hk
  · exact OW.frZ staysR h.r hF (fun k _ hz q => by omega)
  · exact (hF.block X hX (by omega)).trans h.xx
  · exact (hF.block _ (by omega) (by omega)).trans h.p
  · exact (hF.block _ (by omega) (by omega)).trans h.q
theorem LI.drew {w : World} {X C1 C : Nat} {s : St} {inp : Array Value} {tv ov bv : Value} {wr : World} {rv : Value} {ls : List (List (Int × Int))} {R : List Value} {xo : List Obv} {xb : List (Value × List Fmv)}
    (h : LI w X C1 C s inp tv ov bv wr rv ls R xo xb) : LI w X C1 C s inp tv ov bv wr.drew rv ls R xo xb := by
  have f := bl_drew wr
  exact ⟨h.t.below f (Nat.le_refl _), h.tb, OW.below staysO h.o f, h.ol, OW.below staysB h.b f, h.bl, h.bx, OW.below staysR h.r f, h.xx, h.p, h.q, bl_past h.bw f, h.c, h.ap⟩
/-- The lists of a state in their order. -/
def lists (s : St) : List (List (Int × Int)) := s.objs.map (·.its) ++ s.fibs.flatMap (fun b => b.map (·.sl))
/-- A state that was lent, and its rooms. -/
structure LE (w : World) (X C1 C : Nat) (s : St) (tv ov bv : Value) (wr : World) (rv : Value) (ls : List (List (Int × Int))) (R : List Value) (xo : List Obv) (xb : List (Value × List Fmv)) : Prop where
  t : Rx wr 1 tv s.texts.length (flt enT s.texts)
  tb : ∀ k, tv.ownBlock = some k → w.heap.size + 1 < k ∧ k < C1
  o : OO (ZR C1 C R) wr ov s.objs xo
  ol : ∀ k, ov.ownBlock = some k → k < C
  b : OB (ZR C X R) wr bv s.fibs xb
  bl : ∀ k, bv.ownBlock = some k → k < X
  bx : ∀ p ∈ xb, ∀ k, p.1.ownBlock = some k → k < X
  r : OR (fun k => X < k) wr rv ls R
  bw : Below w.heap.size w wr
  c : w.heap.size + 1 < C1 ∧ C1 ≤ C ∧ C ≤ X
  ap : ∀ x ∈ xo, ∀ p ∈ xb, ∀ k, blO x k → ¬ blB p k
theorem LI.le {w : World} {X C1 C : Nat} {s : St} {inp : Array Value} {tv ov bv : Value} {wr W : World} {rv : Value} {ls : List (List (Int × Int))} {R : List Value} {xo : List Obv} {xb : List (Value × List Fmv)}
    (h : LI w X C1 C s inp tv ov bv wr rv ls R xo xb) (hF : Fr (fun k => k = w.heap.size + 1) wr W) : LE w X C1 C s tv ov bv W rv ls R xo xb := by
  have hc := h.c
  have hRX : ∀ k, (∃ q ∈ R, blV q k) → X < k := fun k ⟨q, hq, hk⟩ => by
    obtain ⟨i, hi, rfl⟩ := List.getElem_of_mem hq
    exact (h.r.eb i _ k (List.getElem?_eq_getElem hi) hk).1
  have hx : ∀ k, X < k → k ≠ w.heap.size + 1 := fun k hk => by omega
  have htx : ∀ k, tv.ownBlock = some k → k ≠ w.heap.size + 1 := fun k hk e => by
    have := h.tb k hk
    omega
  refine ⟨h.t.fr hF htx, h.tb, ?_, h.ol, ?_, h.bl, h.bx, ?_, h.bw.trans (hF.below h.bw.size (fun k hk q => by omega)), h.c, h.ap⟩
  · exact OW.frZ staysO h.o hF (fun k _ hz q => by
      rcases hz with hz | hz
      · omega
      · have := hRX k hz; omega)
  · exact OW.frZ staysB h.b hF (fun k _ hz q => by
      rcases hz with hz | hz
      · omega
      · have := hRX k hz; omega)
  · exact OW.frZ staysR h.r hF (fun k _ hz q => by omega)
theorem LE.stv {w : World} {X C1 C : Nat} {s : St} {tv ov bv : Value} {wr : World} {rv : Value} {ls : List (List (Int × Int))} {R : List Value} {xo : List Obv} {xb : List (Value × List Fmv)}
    (h : LE w X C1 C s tv ov bv wr rv ls R xo xb) : StV wr (.agg #[tv, ov, bv, .int .i64 s.cur, .int .i64 s.steps, .int .i64 s.spent, .int .i64 s.read]) s := ⟨tv, ov, bv, rfl, h.t, OW.osv h.o, OW.bsv h.b⟩
/-- Rooms that can be read. -/
def RmV (w : World) (rv : Value) (ls : List (List (Int × Int))) : Prop :=
  ∃ R : List Value, R.length = ls.length ∧ Rx w 1 rv R.length (flt enV R) ∧ ∀ (i : Nat) (l : List (Int × Int)) (r : Value), ls[i]? = some l → R[i]? = some r → Rx w 2 r (l ++ mkV 64).length (flt enI (l ++ mkV 64))
theorem LE.rmv {w : World} {X C1 C : Nat} {s : St} {tv ov bv : Value} {wr : World} {rv : Value} {ls : List (List (Int × Int))} {R : List Value} {xo : List Obv} {xb : List (Value × List Fmv)}
    (h : LE w X C1 C s tv ov bv wr rv ls R xo xb) : RmV wr rv ls := ⟨R, h.r.len, by rw [h.r.len]; exact Rx.of_ro h.r.row, fun i l r hl hr => by rw [lmV_length]; exact Rx.of_ro (h.r.el i l r hl hr)⟩
theorem RmV.below {w w' : World} {v : Value} {ls : List (List (Int × Int))} {B : Nat} (h : RmV w v ls) (k : Below B w w') (hB : w.heap.size ≤ B) : RmV w' v ls := by
  obtain ⟨R, h1, h2, h3⟩ := h
  exact ⟨R, h1, h2.below k hB, fun i l r hl hr => (h3 i l r hl hr).below k hB⟩
/-- What lent answers. -/
def LnS (w : World) (s : St) (e : Ending) (w' : World) : Prop :=
  ∃ X C1 C tv ov bv rv R xo xb, e = .returned (.tuple #[.agg #[tv, ov, bv, .int .i64 s.cur, .int .i64 s.steps, .int .i64 s.spent, .int .i64 s.read], rv]) ∧ LE w X C1 C s tv ov bv w' rv (lists s) R xo xb
end Go.Proofs.Ytadgiccfjppnfaa
