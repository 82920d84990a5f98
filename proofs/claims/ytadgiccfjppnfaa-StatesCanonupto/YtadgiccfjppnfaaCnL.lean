/-
  The law of Canon: what is lent, written over; the law.
-/
import Derived.Test.YtadgiccfjppnfaaLnt
import Derived.Test.YtadgiccfjppnfaaPma
import Derived.Test.YtadgiccfjppnfaaPvs
import Derived.Test.YtadgiccfjppnfaaKpt
import Derived.Test.YtadgiccfjppnfaaPsp
import Derived.Deep.RegionHeld3
namespace Go.Proofs.Ytadgiccfjppnfaa
open Go.RowKit
set_option linter.unusedVariables false
set_option linter.unusedSimpArgs false
section
variable {T U : Type} {en : T → List Value} {sz : Nat} {P : World → U → T → Prop} {bl : T → Nat → Prop} {Z : Nat → Prop}
/-- A thing's own rows turn, and so what it is; its cells don't. -/
theorem OW.turn {w w' : World} {v : Value} {us : List U} {xs : List T} {S : Nat → Prop} (hP : Stays P bl) (h : OW en sz P bl Z w v us xs) (f : Fr S w w') {i : Nat} {u' : U} {x : T} (hx : xs[i]? = some x)
    (hS : ∀ (j : Nat) (z : T) (k : Nat), j ≠ i → xs[j]? = some z → bl z k → ¬ S k) (hv : ∀ k, v.ownBlock = some k → ¬ S k) (hp : P w' u' x) : OW en sz P bl Z w' v (us.set i u') xs := by
  have hi := (List.getElem?_eq_some_iff.1 hx).1
  have hiu : i < us.length := by rw [← h.len]; exact hi
  refine ⟨by simp [h.len], by rw [List.length_set]; exact h.row.fr f hv, h.rb, fun j q z hq hz => ?_, fun j z k hz hk => ?_, h.ap⟩
  · by_cases hj : j = i
    · subst hj
      rw [List.getElem?_set_self hiu] at hq
      cases hq
      rw [hx] at hz
      cases hz
      exact hp
    · rw [List.getElem?_set_ne (fun e => hj e.symm)] at hq
      exact hP _ w _ q z (h.el j q z hq hz) f (fun k hk => hS j z k hj hz hk)
  · obtain ⟨b1, b2, b3⟩ := h.eb j z k hz hk
    exact ⟨b1, Nat.lt_of_lt_of_le b2 f.size, b3⟩
/-- A whole thing is set. -/
theorem OW.putAll {w : World} {v : Value} {us : List U} {xs : List T} (hP : Stays P bl) (hz : ∀ x, (en x).length = sz) (h : OW en sz P bl Z w v us xs) {g off n cap : Nat} (e : v = .slice (some ⟨g, off, none⟩) n cap) {i : Nat} {u' : U} {x' : T} (hi : i < us.length)
    (hp : P w u' x') (hb : ∀ k, bl x' k → Z k ∧ k < w.heap.size ∧ v.ownBlock ≠ some k) (ha : ∀ (j : Nat) (z : T) (k : Nat), j ≠ i → xs[j]? = some z → bl x' k → ¬ bl z k) :
    OW en sz P bl Z (w.setCells g (off + i * sz) (en x')) v (us.set i u') (xs.set i x') ∧ Fr (fun b => b = g) w (w.setCells g (off + i * sz) (en x')) := by
  obtain ⟨a0, c0, e0, _⟩ := h.row.shape
  have en' : n = us.length := by rw [e] at e0; cases e0; rfl
  subst en'
  obtain ⟨r1, r2⟩ := h.row.putAt hz h.len e hi x'
  have hix : i < xs.length := by rw [h.len]; exact hi
  have hself : (xs.set i x')[i]? = some x' := by rw [List.getElem?_set_self hix]
  have hoth : ∀ j, j ≠ i → (xs.set i x')[j]? = xs[j]? := fun j hj => List.getElem?_set_ne (fun e => hj e.symm)
  have hgv : v.ownBlock = some g := by rw [e]; rfl
  refine ⟨⟨by simp [h.len], by rw [List.length_set]; exact r1, h.rb, fun j q z hq hz' => ?_, fun j z k hz' hk => ?_, fun j l z z' k hjl hz1 hz2 hk => ?_⟩, r2⟩
  · by_cases hj : j = i
    · subst hj
      rw [hself] at hz'
      cases hz'
      rw [List.getElem?_set_self hi] at hq
      cases hq
      exact hP _ w _ _ _ hp r2 (fun k hk e2 => (hb k hk).2.2 (by rw [hgv, e2]))
    · rw [hoth j hj] at hz'
      rw [List.getElem?_set_ne (fun e => hj e.symm)] at hq
      exact hP _ w _ q z (h.el j q z hq hz') r2 (fun k hk e2 => (h.eb j z k hz' hk).2.2 (by rw [hgv, e2]))
  · by_cases hj : j = i
    · subst hj
      rw [hself] at hz'
      cases hz'
      obtain ⟨b1, b2, b3⟩ := hb k hk
      exact ⟨b1, Nat.lt_of_lt_of_le b2 r2.size, b3⟩
    · rw [hoth j hj] at hz'
      obtain ⟨b1, b2, b3⟩ := h.eb j z k hz' hk
      exact ⟨b1, Nat.lt_of_lt_of_le b2 r2.size, b3⟩
  · by_cases hj : j = i
    · subst hj
      rw [hself] at hz1
      cases hz1
      rw [hoth l (fun e => hjl e.symm)] at hz2
      exact ha l z' k (fun e => hjl e.symm) hz2 hk
    · rw [hoth j hj] at hz1
      by_cases hl : l = i
      · subst hl
        rw [hself] at hz2
        cases hz2
        exact fun e2 => ha j z k hj hz1 e2 hk
      · rw [hoth l hl] at hz2
        exact h.ap j l z z' k hjl hz1 hz2 hk
end
/-- A state of one's own that is written over: what is written lies from lo on, below hi. -/
structure CW (lo hi : Nat) (s : St) (tv ov bv : Value) (xo : List Obv) (xb : List (Value × List Fmv)) (wr : World) : Prop where
  t : Rx wr 1 tv s.texts.length (flt enT s.texts)
  tb : ∀ k, tv.ownBlock = some k → ov.ownBlock ≠ some k ∧ ∀ p ∈ xb, ¬ blB p k
  o : OO (fun _ => True) wr ov s.objs xo
  b : OB (fun _ => True) wr bv s.fibs xb
  ap : ∀ x ∈ xo, ∀ p ∈ xb, ∀ k, blO x k → ¬ blB p k
  ob : ∀ p ∈ xb, ∀ k, blB p k → ov.ownBlock ≠ some k
  bo : ∀ k, bv.ownBlock = some k → ov.ownBlock ≠ some k
  wb : ∀ p ∈ xb, ∀ k, blB p k → lo ≤ k ∧ k < hi
  wo : ∀ k, ov.ownBlock = some k → lo ≤ k ∧ k < hi
theorem CW.stv {lo hi : Nat} {s : St} {tv ov bv : Value} {xo : List Obv} {xb : List (Value × List Fmv)} {wr : World} (h : CW lo hi s tv ov bv xo xb wr) : StV wr (.agg #[tv, ov, bv, .int .i64 s.cur, .int .i64 s.steps, .int .i64 s.spent, .int .i64 s.read]) s :=
  ⟨tv, ov, bv, rfl, h.t, h.o.osv, h.b.bsv⟩
theorem CW.below {lo hi : Nat} {s : St} {tv ov bv : Value} {xo : List Obv} {xb : List (Value × List Fmv)} {wr w' : World} (h : CW lo hi s tv ov bv xo xb wr) (f : Below wr.heap.size wr w') : CW lo hi s tv ov bv xo xb w' :=
  ⟨h.t.below f (Nat.le_refl _), h.tb, OW.below staysO h.o f, OW.below staysB h.b f, h.ap, h.ob, h.bo, h.wb, h.wo⟩
/-- A slot is written. -/
theorem CW.slot {lo hi : Nat} {s : St} {tv ov bv : Value} {xo : List Obv} {xb : List (Value × List Fmv)} {wr : World} (h : CW lo hi s tv ov bv xo xb wr) {i k n : Nat} {b : List Fm} {f : Fm} {fv : Value} {ys : List Fmv} {x : Fmv} {g off len cap : Nat}
    (hb : s.fibs[i]? = some b) (hf : b[k]? = some f) (hx : xb[i]? = some (fv, ys)) (hy : ys[k]? = some x) (es : x.sv = .slice (some ⟨g, off, none⟩) len cap) (hn : n < f.sl.length) (q : Int × Int) :
    CW lo hi { s with fibs := s.fibs.set i (b.set k { f with sl := f.sl.set n q }) } tv ov bv xo xb (wr.setCells g (off + n * 2) (enI q)) ∧ Fr (fun b => b = g) wr (wr.setCells g (off + n * 2) (enI q)) ∧ lo ≤ g ∧ g < hi := by
  have hm := List.mem_of_getElem? hx
  have hPB : OM (fun _ => True) wr fv b ys := h.b.el i b _ hb hx
  have hfm := hPB.el k f x hf hy
  have hgx : blM x g := by unfold blM; rw [es]; rfl
  have hgb : blB (fv, ys) g := .inr ⟨x, List.mem_of_getElem? hy, hgx⟩
  obtain ⟨a0, c0, e0, _⟩ := hfm.2.2.shape
  have el : len = f.sl.length := by rw [es] at e0; cases e0; rfl
  subst el
  obtain ⟨r1, r2⟩ := hfm.2.2.putAt zI rfl es hn q
  have hM : OM (fun _ => True) (wr.setCells g (off + n * 2) (enI q)) fv (b.set k { f with sl := f.sl.set n q }) ys := OW.turn staysM hPB r2 hy (fun j z kk hj hz hk e => hPB.ap j k z x kk hj hz hy hk (by rw [e]; exact hgx)) (fun kk hk e => (hPB.eb k x g hy hgx).2.2 (by rw [hk, e])) ⟨hfm.1, hfm.2.1, by
    show Ro _ 2 x.sv (f.sl.set n q).length (flt enI (f.sl.set n q))
    rw [List.length_set]
    exact r1⟩
  have hB := OW.turn staysB h.b r2 hx (u' := b.set k { f with sl := f.sl.set n q }) (fun j z kk hj hz hk e => h.b.ap j i z _ kk hj hz hx hk (by rw [e]; exact hgb)) (fun kk hk e => (h.b.eb i _ g hx hgb).2.2 (by rw [hk, e])) hM
  refine ⟨⟨h.t.fr r2 (fun kk hk e => (h.tb kk hk).2 _ hm (by rw [e]; exact hgb)), h.tb, ?_, hB, h.ap, h.ob, h.bo, h.wb, h.wo⟩, r2, h.wb _ hm g hgb⟩
  refine OW.fr staysO h.o r2 (fun kk _ hi e => ?_)
  rcases hi with hi | ⟨z, hz, hk⟩
  · exact h.ob _ hm g hgb (by rw [← e]; exact hi)
  · exact h.ap z hz _ hm kk hk (by rw [e]; exact hgb)
/-- An object is written over by one that is new. -/
theorem CW.obj {lo hi : Nat} {s : St} {tv ov bv : Value} {xo : List Obv} {xb : List (Value × List Fmv)} {wr w1 : World} (h : CW lo hi s tv ov bv xo xb wr) (f : Below wr.heap.size wr w1) {g off n cap i : Nat} (e : ov = .slice (some ⟨g, off, none⟩) n cap) (hi' : i < s.objs.length) {o : Ob} {x : Obv} (hx : ObO w1 o x) (hn : ∀ k, blO x k → wr.heap.size ≤ k ∧ k < w1.heap.size) :
    CW lo hi { s with objs := s.objs.set i o } tv ov bv (xo.set i x) xb (w1.setCells g (off + i * 6) (enO x)) ∧ Fr (fun b => b = g) w1 (w1.setCells g (off + i * 6) (enO x)) ∧ lo ≤ g ∧ g < hi := by
  have h1 := h.below f
  have hlt : ∀ k, ov.ownBlock = some k → k < wr.heap.size := h.o.row.lt
  have hgv : ov.ownBlock = some g := by rw [e]; rfl
  obtain ⟨r1, r2⟩ := OW.putAll staysO zO h1.o e (i := i) (u' := o) (x' := x) hi' hx (fun k hk => ⟨trivial, (hn k hk).2, fun q => by have := hlt k q; have := (hn k hk).1; omega⟩) (fun j z k hj hz hk e2 => by have := (h.o.eb j z k hz e2).2.1; have := (hn k hk).1; omega)
  have hbb : ∀ p ∈ xb, ∀ k, blB p k → k < wr.heap.size := fun p hp k hk => (h.b.in (.inr ⟨p, hp, hk⟩)).2
  refine ⟨⟨h1.t.fr r2 (fun k hk q => (h.tb k hk).1 (by rw [hgv, q])), h.tb, r1, ?_, ?_, h.ob, h.bo, h.wb, h.wo⟩, r2, h.wo g hgv⟩
  · refine OW.fr staysB h1.b r2 (fun k _ hi q => ?_)
    rcases hi with hi | ⟨p, hp, hk⟩
    · exact h.bo k hi (by rw [hgv, q])
    · exact h.ob p hp k hk (by rw [hgv, q])
  · intro z hz p hp k hk e2
    rcases List.mem_or_eq_of_mem_set hz with q | q
    · exact h.ap z q p hp k hk e2
    · subst q
      have := (hn k hk).1
      have := hbb p hp k e2
      omega
theorem LE.cw {w : World} {X C1 C : Nat} {s : St} {tv ov bv : Value} {wr : World} {rv : Value} {ls : List (List (Int × Int))} {R : List Value} {xo : List Obv} {xb : List (Value × List Fmv)} (h : LE w X C1 C s tv ov bv wr rv ls R xo xb) : CW w.heap.size wr.heap.size s tv ov bv xo xb wr := by
  have hc := h.c
  have hR : ∀ k, (∃ r ∈ R, blV r k) → X < k := fun k ⟨r, hr, hk⟩ => (h.r.in (.inr ⟨r, hr, hk⟩)).1
  have hbz : ∀ p ∈ xb, ∀ k, blB p k → C ≤ k ∧ k < wr.heap.size := fun p hp k hk => by
    obtain ⟨z, l⟩ := h.b.in (k := k) (.inr ⟨p, hp, hk⟩)
    rcases z with q | q
    · exact ⟨q.1, l⟩
    · have := hR k q; exact ⟨by omega, l⟩
  have hov : ∀ k, ov.ownBlock = some k → C1 ≤ k ∧ k < C := fun k hk => by
    refine ⟨?_, h.ol k hk⟩
    rcases h.o.rb k hk with q | q
    · exact q.1
    · have := hR k q; omega
  have hbv : ∀ k, bv.ownBlock = some k → C ≤ k := fun k hk => by
    rcases h.b.rb k hk with q | q
    · exact q.1
    · have := hR k q; omega
  refine ⟨h.t, fun k hk => ⟨fun e => ?_, fun p hp e => ?_⟩, h.o.mono (fun _ _ _ => trivial), h.b.mono (fun _ _ _ => trivial), h.ap, fun p hp k hk e => ?_, fun k hk e => ?_, fun p hp k hk => ?_, fun k hk => ?_⟩
  · have := (h.tb k hk).2; have := (hov k e).1; omega
  · have := (h.tb k hk).2; have := (hbz p hp k e).1; omega
  · have := (hbz p hp k hk).1; have := (hov k e).2; omega
  · have := hbv k hk; have := (hov k e).2; omega
  · have := hbz p hp k hk; omega
  · have := hov k hk; have := h.o.row.lt k hk; omega
/-- Fibers of the same lengths. -/
def SL (a b : List (List Fm)) : Prop := a.length = b.length ∧ ∀ (i : Nat) (x y : List Fm), a[i]? = some x → b[i]? = some y → x.length = y.length ∧ ∀ (k : Nat) (f g : Fm), x[k]? = some f → y[k]? = some g → f.sl.length = g.sl.length
theorem SL.refl (a : List (List Fm)) : SL a a := ⟨rfl, fun i x y hx hy => by rw [hx] at hy; cases hy; exact ⟨rfl, fun k f g hf hg => by rw [hf] at hg; cases hg; rfl⟩⟩
theorem SL.set {a c : List (List Fm)} (h : SL a c) {i k n : Nat} {b : List Fm} {f : Fm} (q : Int × Int) (hb : a[i]? = some b) (hf : b[k]? = some f) : SL (a.set i (b.set k { f with sl := f.sl.set n q })) c := by
  have hi := (List.getElem?_eq_some_iff.1 hb).1
  have hk := (List.getElem?_eq_some_iff.1 hf).1
  refine ⟨by rw [List.length_set]; exact h.1, fun j x y hx hy => ?_⟩
  by_cases hj : j = i
  · subst hj
    rw [List.getElem?_set_self hi] at hx
    cases hx
    obtain ⟨h1, h2⟩ := h.2 j b y hb hy
    refine ⟨by rw [List.length_set]; exact h1, fun l f' g hf' hg => ?_⟩
    by_cases hl : l = k
    · subst hl
      rw [List.getElem?_set_self hk] at hf'
      cases hf'
      show (f.sl.set n q).length = _
      rw [List.length_set]
      exact h2 l f g hf hg
    · rw [List.getElem?_set_ne (fun e => hl e.symm)] at hf'
      exact h2 l f' g hf' hg
  · rw [List.getElem?_set_ne (fun e => hj e.symm)] at hx
    exact h.2 j x y hx hy
/-- What is lent, while it is written over. -/
def InV (S : Nat → Prop) (E : World) (lo hi : Nat) (s : St) (tv ov bv : Value) (xb : List (Value × List Fmv)) (wr : World) : Prop :=
  ∃ s' xo, CW lo hi s' tv ov bv xo xb wr ∧ StB s' ∧ StI s' ∧ s'.cur = s.cur ∧ s'.steps = s.steps ∧ s'.spent = s.spent ∧ s'.read = s.read ∧ s'.objs.length = s.objs.length ∧ SL s'.fibs s.fibs ∧ Fr S E wr
theorem InV.slot {S : Nat → Prop} {E : World} {lo hi : Nat} {s : St} {tv ov bv : Value} {xb : List (Value × List Fmv)} {wr : World} (h : InV S E lo hi s tv ov bv xb wr) (hS : ∀ k, lo ≤ k → k < hi → S k) {i k n : Nat} {fv : Value} {ys : List Fmv} {x : Fmv} {g off len cap : Nat} (hx : xb[i]? = some (fv, ys)) (hy : ys[k]? = some x) (es : x.sv = .slice (some ⟨g, off, none⟩) len cap) (hn : n < len) (q : Int × Int) (hq : OkV q) :
    InV S E lo hi s tv ov bv xb (wr.setCells g (off + n * 2) (enI q)) := by
  obtain ⟨s', xo, h1, h2, h3, h4, h5, h6, h7, h8, h9, h10⟩ := h
  have hiL : i < s'.fibs.length := by rw [← h1.b.len]; exact (List.getElem?_eq_some_iff.1 hx).1
  obtain ⟨bb, hb⟩ : ∃ b, s'.fibs[i]? = some b := ⟨_, List.getElem?_eq_getElem hiL⟩
  have hPB : OM (fun _ => True) wr fv bb ys := h1.b.el i _ _ hb hx
  have hkL : k < bb.length := by rw [← hPB.len]; exact (List.getElem?_eq_some_iff.1 hy).1
  obtain ⟨ff, hf⟩ : ∃ f, bb[k]? = some f := ⟨_, List.getElem?_eq_getElem hkL⟩
  have hfm := hPB.el k _ x hf hy
  obtain ⟨a0, c0, e0, _⟩ := hfm.2.2.shape
  have el : len = ff.sl.length := by rw [es] at e0; cases e0; rfl
  obtain ⟨c1, c2, c3, c4⟩ := h1.slot hb hf hx hy es (n := n) (by rw [← el]; exact hn) q
  have hbs := h2.bs _ (List.mem_of_getElem? hb)
  refine ⟨_, xo, c1, ⟨h2.tl, h2.ol, by show (s'.fibs.set i _).length ≤ _; rw [List.length_set]; exact h2.bl, h2.os, fun b hb' => ?_⟩, ⟨h3.o, fun b hb' f hf' v hv => ?_⟩, h4, h5, h6, h7, h8, h9.set q hb hf, h10.trans (c2.mono (fun b _ e => by rw [e]; exact hS g c3 c4))⟩
  · rcases List.mem_or_eq_of_mem_set hb' with r | r
    · exact h2.bs b r
    · subst r
      refine ⟨by rw [List.length_set]; exact hbs.1, fun f hf' => ?_⟩
      rcases List.mem_or_eq_of_mem_set hf' with r | r
      · exact hbs.2 f r
      · subst r
        show (ff.sl.set n q).length ≤ _
        rw [List.length_set]
        exact hbs.2 _ (List.mem_of_getElem? hf)
  · rcases List.mem_or_eq_of_mem_set hb' with r | r
    · exact h3.b b r f hf' v hv
    · subst r
      rcases List.mem_or_eq_of_mem_set hf' with r | r
      · exact h3.b _ (List.mem_of_getElem? hb) f r v hv
      · subst r
        rcases List.mem_or_eq_of_mem_set hv with r | r
        · exact h3.b _ (List.mem_of_getElem? hb) _ (List.mem_of_getElem? hf) v r
        · subst r; exact hq
theorem InV.obj {S : Nat → Prop} {E : World} {lo hi : Nat} {s : St} {tv ov bv : Value} {xb : List (Value × List Fmv)} {wr w1 : World} (h : InV S E lo hi s tv ov bv xb wr) (hS : ∀ k, lo ≤ k → k < hi → S k) (f : Below wr.heap.size wr w1) {g off n cap i : Nat} (e : ov = .slice (some ⟨g, off, none⟩) n cap) (hi' : i < s.objs.length) {o : Ob} {x : Obv} (hx : ObO w1 o x) (hn : ∀ k, blO x k → wr.heap.size ≤ k ∧ k < w1.heap.size) (hB : o.its.length ≤ 1048576 ∧ o.keys.length ≤ 1048576) (hI : (∀ v ∈ o.its, OkV v) ∧ ∀ k ∈ o.keys, OkV (4, k)) :
    InV S E lo hi s tv ov bv xb (w1.setCells g (off + i * 6) (enO x)) := by
  obtain ⟨s', xo, h1, h2, h3, h4, h5, h6, h7, h8, h9, h10⟩ := h
  obtain ⟨c1, c2, c3, c4⟩ := h1.obj f e (i := i) (by omega) hx hn
  refine ⟨_, _, c1, ⟨h2.tl, by show (s'.objs.set i o).length ≤ _; rw [List.length_set]; exact h2.ol, h2.bl, fun p hp => ?_, h2.bs⟩, ⟨fun p hp => ?_, h3.b⟩, h4, h5, h6, h7, by show (s'.objs.set i o).length = _; rw [List.length_set]; exact h8, h9, (h10.trans (Fr.of_below f)).trans (c2.mono (fun b _ e => by rw [e]; exact hS g c3 c4))⟩
  · rcases List.mem_or_eq_of_mem_set hp with r | r
    · exact h2.os p r
    · subst r; exact hB
  · rcases List.mem_or_eq_of_mem_set hp with r | r
    · exact h3.o p r
    · subst r; exact hI
theorem InV.below {S : Nat → Prop} {E : World} {lo hi : Nat} {s : St} {tv ov bv : Value} {xb : List (Value × List Fmv)} {wr w1 : World} (h : InV S E lo hi s tv ov bv xb wr) (f : Below wr.heap.size wr w1) : InV S E lo hi s tv ov bv xb w1 := by
  obtain ⟨s', xo, h1, h2, h3, h4, h5, h6, h7, h8, h9, h10⟩ := h
  exact ⟨s', xo, h1.below f, h2, h3, h4, h5, h6, h7, h8, h9, h10.trans (Fr.of_below f)⟩
theorem InV.fr {S : Nat → Prop} {E : World} {lo hi : Nat} {s : St} {tv ov bv : Value} {xb : List (Value × List Fmv)} {wr : World} (h : InV S E lo hi s tv ov bv xb wr) : Fr S E wr := by
  obtain ⟨s', xo, h1, h2, h3, h4, h5, h6, h7, h8, h9, h10⟩ := h
  exact h10
theorem InV.xlen {S : Nat → Prop} {E : World} {lo hi : Nat} {s : St} {tv ov bv : Value} {xb : List (Value × List Fmv)} {wr : World} (h : InV S E lo hi s tv ov bv xb wr) : xb.length = s.fibs.length := by
  obtain ⟨s', xo, h1, h2, h3, h4, h5, h6, h7, h8, h9, h10⟩ := h
  exact h1.b.len.trans h9.1
theorem InV.om {S : Nat → Prop} {E : World} {lo hi : Nat} {s : St} {tv ov bv : Value} {xb : List (Value × List Fmv)} {wr : World} (h : InV S E lo hi s tv ov bv xb wr) {i : Nat} {fv : Value} {ys : List Fmv} (hx : xb[i]? = some (fv, ys)) : ∃ b : List Fm, OM (fun _ => True) wr fv b ys ∧ b.length ≤ 1048576 ∧ ∀ f ∈ b, f.sl.length ≤ 1048576 := by
  obtain ⟨s', xo, h1, h2, h3, h4, h5, h6, h7, h8, h9, h10⟩ := h
  have hiL : i < s'.fibs.length := by rw [← h1.b.len]; exact (List.getElem?_eq_some_iff.1 hx).1
  have hb : s'.fibs[i]? = some s'.fibs[i] := List.getElem?_eq_getElem hiL
  exact ⟨_, h1.b.el i _ _ hb hx, h2.bs _ (List.getElem_mem hiL)⟩
theorem InV.cellB {S : Nat → Prop} {E : World} {lo hi : Nat} {s : St} {tv ov : Value} {ba : Option Addr} {n cap : Nat} {xb : List (Value × List Fmv)} {wr : World} (h : InV S E lo hi s tv ov (.slice ba n cap) xb wr) {i : Nat} {fv : Value} {ys : List Fmv} (hx : xb[i]? = some (fv, ys)) : ∃ b off, ba = some ⟨b, off, none⟩ ∧ b < wr.heap.size ∧ wr.cell? ⟨b, off + i, none⟩ = some fv := by
  obtain ⟨s', xo, h1, h2, h3, h4, h5, h6, h7, h8, h9, h10⟩ := h
  obtain ⟨b, off, c, e, _, _, hb, hc⟩ := Rx.elem zB (l := xb) (by rw [h1.b.len]; exact Rx.of_ro h1.b.row) hx
  cases e
  have := hc 0 _ rfl
  rw [Nat.mul_one, Nat.add_zero] at this
  exact ⟨b, off, rfl, hb, this⟩
theorem InV.cellM {S : Nat → Prop} {E : World} {lo hi : Nat} {s : St} {tv ov bv : Value} {fa : Option Addr} {n cap : Nat} {xb : List (Value × List Fmv)} {wr : World} (h : InV S E lo hi s tv ov bv xb wr) {i k : Nat} {ys : List Fmv} {x : Fmv} (hx : xb[i]? = some (.slice fa n cap, ys)) (hy : ys[k]? = some x) : ∃ b off, fa = some ⟨b, off, none⟩ ∧ b < wr.heap.size ∧ wr.cell? ⟨b, off + k * 3 + 2, none⟩ = some x.sv := by
  obtain ⟨b, h1, _⟩ := h.om hx
  obtain ⟨g, off, c, e, _, _, hb, hc⟩ := Rx.elem zM (l := ys) (by rw [h1.len]; exact Rx.of_ro h1.row) hy
  cases e
  exact ⟨g, off, rfl, hb, hc 2 _ rfl⟩
theorem InV.fshape {S : Nat → Prop} {E : World} {lo hi : Nat} {s : St} {tv ov bv : Value} {xb : List (Value × List Fmv)} {wr : World} (h : InV S E lo hi s tv ov bv xb wr) {i : Nat} {fv : Value} {ys : List Fmv} (hx : xb[i]? = some (fv, ys)) : ∃ fa fc, fv = .slice fa ys.length fc ∧ ys.length ≤ fc ∧ fc ≤ maxLen ∧ ys.length ≤ 1048576 := by
  obtain ⟨b, h1, h2, h3⟩ := h.om hx
  obtain ⟨fa, fc, e, l1, l2⟩ := h1.row.shape
  rw [← h1.len] at e l1 h2
  exact ⟨fa, fc, e, l1, l2, h2⟩
theorem InV.sshape {S : Nat → Prop} {E : World} {lo hi : Nat} {s : St} {tv ov bv : Value} {xb : List (Value × List Fmv)} {wr : World} (h : InV S E lo hi s tv ov bv xb wr) {i k : Nat} {fv : Value} {ys : List Fmv} {x : Fmv} (hx : xb[i]? = some (fv, ys)) (hy : ys[k]? = some x) : ∃ sa n sc, x.sv = .slice sa n sc ∧ n ≤ sc ∧ sc ≤ maxLen ∧ n ≤ 1048576 := by
  obtain ⟨b, h1, h2, h3⟩ := h.om hx
  have hkL : k < b.length := by rw [← h1.len]; exact (List.getElem?_eq_some_iff.1 hy).1
  obtain ⟨sa, sc, e, l1, l2⟩ := (h1.el k _ x (List.getElem?_eq_getElem hkL) hy).2.2.shape
  exact ⟨sa, _, sc, e, l1, l2, h3 _ (List.getElem_mem hkL)⟩
theorem InV.cellV {S : Nat → Prop} {E : World} {lo hi : Nat} {s : St} {tv ov bv : Value} {xb : List (Value × List Fmv)} {wr : World} (h : InV S E lo hi s tv ov bv xb wr) {i k j : Nat} {fv : Value} {ys : List Fmv} {x : Fmv} (hx : xb[i]? = some (fv, ys)) (hy : ys[k]? = some x) {sa : Option Addr} {n sc : Nat} (es : x.sv = .slice sa n sc) (hj : j < n) :
    ∃ g off, sa = some ⟨g, off, none⟩ ∧ g < wr.heap.size ∧ (∃ u, wr.cell? ⟨g, off + j * 2, none⟩ = some u) ∧ (∃ u, wr.cell? ⟨g, off + j * 2 + 1, none⟩ = some u) ∧ wr.frozen? ⟨g, off + j * 2, none⟩ = false ∧ wr.frozen? ⟨g, off + j * 2 + 1, none⟩ = false := by
  obtain ⟨b, h1, h2, h3⟩ := h.om hx
  have hkL : k < b.length := by rw [← h1.len]; exact (List.getElem?_eq_some_iff.1 hy).1
  have hro := (h1.el k _ x (List.getElem?_eq_getElem hkL) hy).2.2
  have hsh := hro.shape
  obtain ⟨a0, c0, e0, _⟩ := hsh
  have el : n = b[k].sl.length := by rw [es] at e0; cases e0; rfl
  obtain ⟨g, off, cap, e, _, _, hg, hc⟩ := hro.full (by omega)
  rw [es] at e
  cases e
  have hl := hro.1
  have hex : ∀ m, m < b[k].sl.length * 2 → ∃ u, wr.cell? ⟨g, off + m, none⟩ = some u := fun m hm => by
    rw [hc m (by omega)]
    exact ⟨_, List.getElem?_eq_getElem (by rw [hl]; omega)⟩
  refine ⟨g, off, rfl, hg, hex (j * 2) (by omega), ?_, hro.free es _, hro.free es _⟩
  rw [Nat.add_assoc]
  exact hex (j * 2 + 1) (by omega)
theorem InV.cellO {S : Nat → Prop} {E : World} {lo hi : Nat} {s : St} {tv bv : Value} {oa : Option Addr} {n cap : Nat} {xb : List (Value × List Fmv)} {wr : World} (h : InV S E lo hi s tv (.slice oa n cap) bv xb wr) {j : Nat} (hj : j < n) : ∃ g off, oa = some ⟨g, off, none⟩ ∧ g < wr.heap.size ∧ (∀ c, c < 6 → ∃ u, wr.cell? ⟨g, off + j * 6 + c, none⟩ = some u) ∧ (∀ c, wr.frozen? ⟨g, c, none⟩ = false) ∧ lo ≤ g ∧ g < hi := by
  obtain ⟨s', xo, h1, h2, h3, h4, h5, h6, h7, h8, h9, h10⟩ := h
  obtain ⟨a0, c0, e0, _⟩ := h1.o.row.shape
  have el : n = s'.objs.length := by cases e0; rfl
  obtain ⟨g, off, c, e, _, _, hg, hc⟩ := h1.o.row.full (by omega)
  cases e
  have hl := h1.o.row.1
  refine ⟨g, off, rfl, hg, fun c hc' => ?_, fun c => h1.o.row.free rfl c, h1.wo g rfl⟩
  rw [Nat.add_assoc, hc (j * 6 + c) (by omega)]
  exact ⟨_, List.getElem?_eq_getElem (by rw [hl]; omega)⟩
theorem CpS.rd {w : World} {s : St} {e : Ending} {w' : World} (h : CpS w s e w') : ∃ v, e = .returned v ∧ StV w' v s ∧ Below w.heap.size w w' := by
  obtain ⟨tv, ov, bv, xo, xb, C1, C, he, h1, h2, h3, h4, h5, h6, h7, h8⟩ := h
  exact ⟨_, he, ⟨tv, ov, bv, rfl, h1, h3.osv, h4.bsv⟩, h8⟩
set_option maxRecDepth 100000 in
set_option maxHeartbeats 25600000 in
theorem statesCanonLaw {w : World} {u v : Value} {s t : St} (hu : StV w u s) (hv : StV w v t) (hs : StB s) (ht : StB t) (is : StI s) (it : StI t) :
    Calls Try.prog 3 #[u, v] w fun e w' => e = .returned (.bool true) ∧ Below w.heap.size w w' := by
  obtain ⟨ata, atc, aoa, aoc, aba, abc, rfl, -, -, -, -, -, -, -, -, -⟩ := hu.shape
  obtain ⟨ota, otc, ooa, ooc, oba, obc, rfl, -, hOO, -, -, -, o1', o2', -, -⟩ := hv.shape
  have HU := hide (fun (W : World) (hb : Below w.heap.size w W) => hu.below hb (Nat.le_refl _))
  have HOO := hide hOO
  obtain ⟨aT, qaT⟩ : ∃ n, Hid (s.texts.length = n) := ⟨_, hide rfl⟩
  obtain ⟨oT, qoT⟩ : ∃ n, Hid (t.texts.length = n) := ⟨_, hide rfl⟩
  obtain ⟨mT, qmT⟩ : ∃ n, Hid ((canD s).texts.length = n) := ⟨_, hide rfl⟩
  obtain ⟨aO, qaO⟩ : ∃ n, Hid (s.objs.length = n) := ⟨_, hide rfl⟩
  obtain ⟨oO, qoO⟩ : ∃ n, Hid (t.objs.length = n) := ⟨_, hide rfl⟩
  obtain ⟨mO, qmO⟩ : ∃ n, Hid ((canD s).objs.length = n) := ⟨_, hide rfl⟩
  obtain ⟨aB, qaB⟩ : ∃ n, Hid (s.fibs.length = n) := ⟨_, hide rfl⟩
  obtain ⟨oB, qoB⟩ : ∃ n, Hid (t.fibs.length = n) := ⟨_, hide rfl⟩
  obtain ⟨mB, qmB⟩ : ∃ n, Hid ((canD s).fibs.length = n) := ⟨_, hide rfl⟩
  obtain ⟨a1, qa1⟩ : ∃ n, Hid (s.cur = n) := ⟨_, hide rfl⟩
  obtain ⟨o1, qo1⟩ : ∃ n, Hid (t.cur = n) := ⟨_, hide rfl⟩
  obtain ⟨m1, qm1⟩ : ∃ n, Hid ((canD s).cur = n) := ⟨_, hide rfl⟩
  obtain ⟨a2, qa2⟩ : ∃ n, Hid (s.steps = n) := ⟨_, hide rfl⟩
  obtain ⟨o2, qo2⟩ : ∃ n, Hid (t.steps = n) := ⟨_, hide rfl⟩
  obtain ⟨m2, qm2⟩ : ∃ n, Hid ((canD s).steps = n) := ⟨_, hide rfl⟩
  obtain ⟨a3, qa3⟩ : ∃ n, Hid (s.spent = n) := ⟨_, hide rfl⟩
  obtain ⟨o3, qo3⟩ : ∃ n, Hid (t.spent = n) := ⟨_, hide rfl⟩
  obtain ⟨m3, qm3⟩ : ∃ n, Hid ((canD s).spent = n) := ⟨_, hide rfl⟩
  obtain ⟨a4, qa4⟩ : ∃ n, Hid (s.read = n) := ⟨_, hide rfl⟩
  obtain ⟨o4, qo4⟩ : ∃ n, Hid (t.read = n) := ⟨_, hide rfl⟩
  obtain ⟨m4, qm4⟩ : ∃ n, Hid ((canD s).read = n) := ⟨_, hide rfl⟩
  rw [unhide qaT, unhide qaO, unhide qaB, unhide qa1, unhide qa2, unhide qa3, unhide qa4] at HU ⊢
  rw [unhide qoT, unhide qoO, unhide qoB, unhide qo1, unhide qo2, unhide qo3, unhide qo4]
  rw [unhide qoO] at HOO o1'
  have hsB := hs.bl
  have hsO := hs.ol
  have htO := ht.ol
  rw [unhide qaB] at hsB
  rw [unhide qaO] at hsO
  rw [unhide qoO] at htO
  have HSB := hide hs
  have HTB := hide ht
  have HSI := hide is
  have HTI := hide it
  have HCB := hide (canD_B hs)
  have H7 := hide (fun (W : World) (hb : Below w.heap.size w W) => dCanon_any (unhide HU W hb) hs)
  have H8 := hide (fun (W : World) (hb : Below w.heap.size w W) => lent_any (unhide HU W hb) hs)
  have H9s := hide (fun (W : World) (hb : Below w.heap.size w W) => pCanon_any (unhide HU W hb) hs is)
  obtain ⟨p1, p2⟩ := blk2 w (.cells #[.slice ata aT atc, .slice aoa aO aoc, .slice aba aB abc, .int .i64 a1, .int .i64 a2, .int .i64 a3, .int .i64 a4] 26) (.cells #[.slice ota oT otc, .slice ooa oO ooc, .slice oba oB obc, .int .i64 o1, .int .i64 o2, .int .i64 o3, .int .i64 o4] 26)
  have f0 : Below w.heap.size w ((w.alloc (.cells #[.slice ata aT atc, .slice aoa aO aoc, .slice aba aB abc, .int .i64 a1, .int .i64 a2, .int .i64 a3, .int .i64 a4] 26)).alloc (.cells #[.slice ota oT otc, .slice ooa oO ooc, .slice oba oB obc, .int .i64 o1, .int .i64 o2, .int .i64 o3, .int .i64 o4] 26)) := bl_two w _ _
  obtain ⟨W0, hW0⟩ : ∃ W, Hid ((w.alloc (.cells #[.slice ata aT atc, .slice aoa aO aoc, .slice aba aB abc, .int .i64 a1, .int .i64 a2, .int .i64 a3, .int .i64 a4] 26)).alloc (.cells #[.slice ota oT otc, .slice ooa oO ooc, .slice oba oB obc, .int .i64 o1, .int .i64 o2, .int .i64 o3, .int .i64 o4] 26) = W) := ⟨_, hide rfl⟩
  rw [unhide hW0] at p1 p2 f0
  have HP1 := hide p1
  have HP2 := hide p2
  have HF0 := hide f0
  unfold maxLen at o2'
  clear hu hv hs ht is it hOO p1 p2 f0
  go_enter Try.func3, Try.ntmps3
  go_wp2_with fail
  rw [unhide hW0]
  refine (unhide H7 _ (unhide HF0)).mono ?_
  rintro e w1 ⟨wv, rfl, hwv, hb1⟩
  obtain ⟨wta, wtc, woa, woc, wba, wbc, rfl, -, -, -, -, -, -, -, -, -⟩ := hwv.shape
  rw [unhide qmT, unhide qmO, unhide qmB, unhide qm1, unhide qm2, unhide qm3, unhide qm4] at hwv ⊢
  have HWV := hide hwv
  obtain ⟨P5, hP5⟩ : ∃ n, Hid (w1.heap.size = n) := ⟨_, hide rfl⟩
  obtain ⟨W1, hW1⟩ : ∃ W, Hid (w1.alloc (.cells #[.slice wta mT wtc, .slice woa mO woc, .slice wba mB wbc, .int .i64 m1, .int .i64 m2, .int .i64 m3, .int .i64 m4] 26) = W) := ⟨_, hide rfl⟩
  have f1 : Below w1.heap.size w1 W1 := by rw [← unhide hW1]; exact (Below.refl _ w1).alloc (Nat.le_refl _) _
  have n5 : W1.heap[P5]? = some (.cells #[.slice wta mT wtc, .slice woa mO woc, .slice wba mB wbc, .int .i64 m1, .int .i64 m2, .int .i64 m3, .int .i64 m4] 26) := by rw [← unhide hW1, ← unhide hP5]; exact heap_alloc_new w1 _
  have HN5 := hide n5
  have HF01 : Hid (Below W0.heap.size W0 W1) := bl_past hb1 f1
  have HZ01 := hide hb1.size
  have HF1 : Hid (Below w1.heap.size w1 W1) := f1
  have HFW1 : Hid (Below w.heap.size w W1) := bl_past (unhide HF0) (unhide HF01)
  have hs1 : W1.heap.size = w1.heap.size + 1 := by rw [← unhide hW1]; exact World.size_alloc _ _
  obtain ⟨c0, -, l1⟩ := blk_cells (bkeep1 (unhide HP1) (unhide HF01))
  have y0 := c0 0
  have y1 := c0 1
  have y2 := c0 2
  have y3 := c0 3
  have y4 := c0 4
  have y5 := c0 5
  have y6 := c0 6
  simp at y0 y1 y2 y3 y4 y5 y6
  have HS1 := hide hs1
  clear hwv hb1 f1 n5 c0 H7 hs1
  rw [← unhide hW1] at y0 y1 y2 y3 y4 y5 y6 l1
  go_wp2_with fail
  rw [unhide hW1, unhide hP5]
  refine (unhide H8 _ (unhide HFW1)).mono ?_
  rintro e w2 ⟨X, C1, C, tv, ov, bv, rv, R, xo, xb, rfl, hLE⟩
  have HCW := hide hLE.cw
  have HSTV := hide hLE.stv
  have HRMV := hide hLE.rmv
  have hb2 := hLE.bw
  obtain ⟨ita, itc, rfl, -, -⟩ := hLE.t.shape
  obtain ⟨ioa, ioc, rfl, io1, io2⟩ := hLE.o.row.shape
  obtain ⟨iba, ibc, rfl, ib1, ib2⟩ := hLE.b.row.shape
  obtain ⟨ra, rcap, rfl, -, -⟩ := hLE.rmv.shape
  obtain ⟨RA, hRA⟩ : ∃ n, Hid ((lists s).length = n) := ⟨_, hide rfl⟩
  rw [unhide hRA] at HRMV ⊢
  rw [unhide qaT, unhide qaO, unhide qaB, unhide qa1, unhide qa2, unhide qa3, unhide qa4] at HSTV ⊢
  rw [unhide qaT, unhide qaO, unhide qaB] at HCW
  rw [unhide qaO] at io1
  rw [unhide qaB] at ib1
  unfold maxLen at io2 ib2
  obtain ⟨P6, hP6⟩ : ∃ n, Hid (w2.heap.size = n) := ⟨_, hide rfl⟩
  obtain ⟨W2, hW2⟩ : ∃ W, Hid (w2.alloc (.cells #[.slice ita aT itc, .slice ioa aO ioc, .slice iba aB ibc, .int .i64 a1, .int .i64 a2, .int .i64 a3, .int .i64 a4] 26) = W) := ⟨_, hide rfl⟩
  have f2 : Below w2.heap.size w2 W2 := by rw [← unhide hW2]; exact (Below.refl _ w2).alloc (Nat.le_refl _) _
  have n6 : W2.heap[P6]? = some (.cells #[.slice ita aT itc, .slice ioa aO ioc, .slice iba aB ibc, .int .i64 a1, .int .i64 a2, .int .i64 a3, .int .i64 a4] 26) := by rw [← unhide hW2, ← unhide hP6]; exact heap_alloc_new w2 _
  have hs2 : W2.heap.size = w2.heap.size + 1 := by rw [← unhide hW2]; exact World.size_alloc _ _
  have HN6 := hide n6
  have HF2 : Hid (Below w2.heap.size w2 W2) := f2
  have HF12 : Hid (Below W1.heap.size W1 W2) := bl_past hb2 f2
  have HS2 := hide hs2
  have hb2s := hb2.size
  have HB2S := hide hb2s
  have HC9 := hide (pCanon_any ((unhide HSTV).below f2 (Nat.le_refl _)) (unhide HSB) (unhide HSI))
  obtain ⟨c0, -, l2⟩ := blk_cells n6
  have y0' := c0 0
  have y1' := c0 1
  have y2' := c0 2
  have y3' := c0 3
  have y4' := c0 4
  have y5' := c0 5
  have y6' := c0 6
  simp at y0' y1' y2' y3' y4' y5' y6'
  clear hLE hb2 f2 n6 c0 H8 y0 y1 y2 y3 y4 y5 y6 hs2 hb2s
  rw [← unhide hW2] at y0' y1' y2' y3' y4' y5' y6' l2
  rw [← unhide hP6] at y0' y1' y2' y3' y4' y5' y6' l2
  go_wp2_with fail
  rw [unhide hW2, unhide hP6]
  refine (unhide HC9).mono ?_
  rintro e w3 hq3
  obtain ⟨pv, rfl, hb3, hr3⟩ := hq3.rd
  obtain ⟨pta, ptc, poa, poc, pba, pbc, rfl, -, -, -, -, -, -, -, -, -⟩ := (hr3 (fun _ => False) w3 (Fr.refl _ _) (fun _ e => e.elim)).shape
  rw [unhide qmT, unhide qmO, unhide qmB, unhide qm1, unhide qm2, unhide qm3, unhide qm4] at hr3 ⊢
  have HR3 := hide hr3
  obtain ⟨P8, hP8⟩ : ∃ n, Hid (w3.heap.size = n) := ⟨_, hide rfl⟩
  obtain ⟨W3, hW3⟩ : ∃ W, Hid (w3.alloc (.cells #[.slice pta mT ptc, .slice poa mO poc, .slice pba mB pbc, .int .i64 m1, .int .i64 m2, .int .i64 m3, .int .i64 m4] 26) = W) := ⟨_, hide rfl⟩
  have f3 : Below w3.heap.size w3 W3 := by rw [← unhide hW3]; exact (Below.refl _ w3).alloc (Nat.le_refl _) _
  have n8 : W3.heap[P8]? = some (.cells #[.slice pta mT ptc, .slice poa mO poc, .slice pba mB pbc, .int .i64 m1, .int .i64 m2, .int .i64 m3, .int .i64 m4] 26) := by rw [← unhide hW3, ← unhide hP8]; exact heap_alloc_new w3 _
  have HN8 := hide n8
  have HF3 : Hid (Below w3.heap.size w3 W3) := f3
  have HF23 : Hid (Below W2.heap.size W2 W3) := bl_past hb3 f3
  have HC9b := hide (pCanon_any ((unhide HSTV).below (bl_past (unhide HF2) (unhide HF23)) (Nat.le_refl _)) (unhide HSB) (unhide HSI))
  obtain ⟨c0, -, l3⟩ := blk_cells (bkeep1 (unhide HN6) (unhide HF23))
  have y0 := c0 0
  have y1 := c0 1
  have y2 := c0 2
  have y3 := c0 3
  have y4 := c0 4
  have y5 := c0 5
  have y6 := c0 6
  simp at y0 y1 y2 y3 y4 y5 y6
  have HB3 := hide hb3
  clear hq3 hr3 hb3 f3 n8 c0 HC9 y0' y1' y2' y3' y4' y5' y6'
  rw [← unhide hW3] at y0 y1 y2 y3 y4 y5 y6 l3
  go_wp2_with fail
  rw [unhide hW3, unhide hP8]
  refine (unhide HC9b).mono ?_
  rintro e w4 hq4
  obtain ⟨qv, rfl, hb4, hr4⟩ := hq4.rd
  obtain ⟨qta, qtc, qoa, qoc, qba, qbc, rfl, -, -, -, -, -, -, -, -, -⟩ := (hr4 (fun _ => False) w4 (Fr.refl _ _) (fun _ e => e.elim)).shape
  rw [unhide qmT, unhide qmO, unhide qmB, unhide qm1, unhide qm2, unhide qm3, unhide qm4] at hr4 ⊢
  have HR4 := hide hr4
  obtain ⟨P9, hP9⟩ : ∃ n, Hid (w4.heap.size = n) := ⟨_, hide rfl⟩
  obtain ⟨W4, hW4⟩ : ∃ W, Hid (w4.alloc (.cells #[.slice qta mT qtc, .slice qoa mO qoc, .slice qba mB qbc, .int .i64 m1, .int .i64 m2, .int .i64 m3, .int .i64 m4] 26) = W) := ⟨_, hide rfl⟩
  have f4 : Below w4.heap.size w4 W4 := by rw [← unhide hW4]; exact (Below.refl _ w4).alloc (Nat.le_refl _) _
  have n9 : W4.heap[P9]? = some (.cells #[.slice qta mT qtc, .slice qoa mO qoc, .slice qba mB qbc, .int .i64 m1, .int .i64 m2, .int .i64 m3, .int .i64 m4] 26) := by rw [← unhide hW4, ← unhide hP9]; exact heap_alloc_new w4 _
  have HN9 := hide n9
  have HF4 : Hid (Below w4.heap.size w4 W4) := f4
  have HF34 : Hid (Below W3.heap.size W3 W4) := bl_past hb4 f4
  have HB4 := hide hb4
  clear hq4 hr4 hb4 f4 n9 HC9b y0 y1 y2 y3 y4 y5 y6
  -- what is written: from lo on, below hi
  obtain ⟨lo, hlo⟩ : ∃ n, Hid (W1.heap.size = n) := ⟨_, hide rfl⟩
  obtain ⟨S, hSd⟩ : ∃ S : Nat → Prop, Hid (S = fun k => lo ≤ k ∧ k < P6) := ⟨_, hide rfl⟩
  have hSS : Hid (∀ k, lo ≤ k → k < P6 → S k) := fun k h1 h2 => by rw [unhide hSd]; exact ⟨h1, h2⟩
  have hSn : Hid (∀ k, (k < lo ∨ P6 ≤ k) → ¬ S k) := fun k hk e => by rw [unhide hSd] at e; omega
  rw [unhide hlo, unhide hP6] at HCW
  have hz0 : Hid (w.heap.size + 1 < W0.heap.size ∧ W0.heap.size ≤ w1.heap.size ∧ w1.heap.size = P5 ∧ W1.heap.size = P5 + 1 ∧ lo = P5 + 1 ∧ P6 = w2.heap.size ∧ lo ≤ P6 ∧ W2.heap.size = P6 + 1 ∧ W2.heap.size ≤ w3.heap.size ∧ w3.heap.size = P8 ∧ w3.heap.size < W3.heap.size ∧ W3.heap.size ≤ w4.heap.size ∧ w4.heap.size = P9 ∧ w4.heap.size < W4.heap.size) := by
    have a0 := (blk_cells (unhide HP2)).2.2
    have a1 := (blk_cells (unhide HN5)).2.2
    have a3 := (blk_cells (unhide HN8)).2.2
    have a4 := (blk_cells (unhide HN9)).2.2
    have b1 := unhide HS1
    have b2 := unhide HS2
    have b3 := unhide HB2S
    have c1 := unhide hP5
    have c2 := unhide hP6
    have c3 := unhide hP8
    have c4 := unhide hP9
    have c5 := unhide hlo
    have d1 := (unhide HB3).size
    have d2 := (unhide HB4).size
    have d0 := (unhide HF01).size
    have e1 := unhide HZ01
    exact ⟨by omega, e1, c1, by omega, by omega, c2.symm, by omega, by omega, d1, c3, by omega, d2, c4, by omega⟩
  have SK : Hid (∀ W, Fr S W4 W → W.cell? ⟨w.heap.size, 0, none⟩ = some (.slice ata aT atc) ∧ W.cell? ⟨w.heap.size, 1, none⟩ = some (.slice aoa aO aoc) ∧ W.cell? ⟨w.heap.size, 2, none⟩ = some (.slice aba aB abc) ∧ W.cell? ⟨w.heap.size, 3, none⟩ = some (.int .i64 a1) ∧ W.cell? ⟨w.heap.size, 4, none⟩ = some (.int .i64 a2) ∧ W.cell? ⟨w.heap.size, 5, none⟩ = some (.int .i64 a3) ∧ W.cell? ⟨w.heap.size, 6, none⟩ = some (.int .i64 a4) ∧ W.cell? ⟨w.heap.size + 1, 0, none⟩ = some (.slice ota oT otc) ∧ W.cell? ⟨w.heap.size + 1, 1, none⟩ = some (.slice ooa oO ooc) ∧ W.cell? ⟨w.heap.size + 1, 2, none⟩ = some (.slice oba oB obc) ∧ W.cell? ⟨w.heap.size + 1, 3, none⟩ = some (.int .i64 o1) ∧ W.cell? ⟨w.heap.size + 1, 4, none⟩ = some (.int .i64 o2) ∧ W.cell? ⟨w.heap.size + 1, 5, none⟩ = some (.int .i64 o3) ∧ W.cell? ⟨w.heap.size + 1, 6, none⟩ = some (.int .i64 o4) ∧ W.cell? ⟨P5, 0, none⟩ = some (.slice wta mT wtc) ∧ W.cell? ⟨P5, 1, none⟩ = some (.slice woa mO woc) ∧ W.cell? ⟨P5, 2, none⟩ = some (.slice wba mB wbc) ∧ W.cell? ⟨P5, 3, none⟩ = some (.int .i64 m1) ∧ W.cell? ⟨P5, 4, none⟩ = some (.int .i64 m2) ∧ W.cell? ⟨P5, 5, none⟩ = some (.int .i64 m3) ∧ W.cell? ⟨P5, 6, none⟩ = some (.int .i64 m4) ∧ W.cell? ⟨P6, 0, none⟩ = some (.slice ita aT itc) ∧ W.cell? ⟨P6, 1, none⟩ = some (.slice ioa aO ioc) ∧ W.cell? ⟨P6, 2, none⟩ = some (.slice iba aB ibc) ∧ W.cell? ⟨P6, 3, none⟩ = some (.int .i64 a1) ∧ W.cell? ⟨P6, 4, none⟩ = some (.int .i64 a2) ∧ W.cell? ⟨P6, 5, none⟩ = some (.int .i64 a3) ∧ W.cell? ⟨P6, 6, none⟩ = some (.int .i64 a4) ∧ W.cell? ⟨P8, 0, none⟩ = some (.slice pta mT ptc) ∧ W.cell? ⟨P8, 1, none⟩ = some (.slice poa mO poc) ∧ W.cell? ⟨P8, 2, none⟩ = some (.slice pba mB pbc) ∧ W.cell? ⟨P8, 3, none⟩ = some (.int .i64 m1) ∧ W.cell? ⟨P8, 4, none⟩ = some (.int .i64 m2) ∧ W.cell? ⟨P8, 5, none⟩ = some (.int .i64 m3) ∧ W.cell? ⟨P8, 6, none⟩ = some (.int .i64 m4) ∧ W.cell? ⟨P9, 0, none⟩ = some (.slice qta mT qtc) ∧ W.cell? ⟨P9, 1, none⟩ = some (.slice qoa mO qoc) ∧ W.cell? ⟨P9, 2, none⟩ = some (.slice qba mB qbc) ∧ W.cell? ⟨P9, 3, none⟩ = some (.int .i64 m1) ∧ W.cell? ⟨P9, 4, none⟩ = some (.int .i64 m2) ∧ W.cell? ⟨P9, 5, none⟩ = some (.int .i64 m3) ∧ W.cell? ⟨P9, 6, none⟩ = some (.int .i64 m4)) := fun W hW => by
    have z := unhide hz0
    have k1 := bkeep1 (bkeep1 (bkeep1 (bkeep1 (unhide HP1) (unhide HF01)) (unhide HF12)) (unhide HF23)) (unhide HF34)
    have k2 := bkeep1 (bkeep1 (bkeep1 (bkeep1 (unhide HP2) (unhide HF01)) (unhide HF12)) (unhide HF23)) (unhide HF34)
    have k5 := bkeep1 (bkeep1 (bkeep1 (unhide HN5) (unhide HF12)) (unhide HF23)) (unhide HF34)
    have k6 := bkeep1 (bkeep1 (unhide HN6) (unhide HF23)) (unhide HF34)
    have k8 := bkeep1 (unhide HN8) (unhide HF34)
    have k9 := unhide HN9
    have a1 := (blk_cells ((hW.block _ (blk_cells k1).2.2 (unhide hSn _ (by omega))).trans k1)).1
    have a2 := (blk_cells ((hW.block _ (blk_cells k2).2.2 (unhide hSn _ (by omega))).trans k2)).1
    have a3 := (blk_cells ((hW.block _ (blk_cells k5).2.2 (unhide hSn _ (by omega))).trans k5)).1
    have a4 := (blk_cells ((hW.block _ (blk_cells k6).2.2 (unhide hSn _ (by omega))).trans k6)).1
    have a5 := (blk_cells ((hW.block _ (blk_cells k8).2.2 (unhide hSn _ (by omega))).trans k8)).1
    have a6 := (blk_cells ((hW.block _ (blk_cells k9).2.2 (unhide hSn _ (by omega))).trans k9)).1
    exact ⟨by rw [a1 0]; rfl, by rw [a1 1]; rfl, by rw [a1 2]; rfl, by rw [a1 3]; rfl, by rw [a1 4]; rfl, by rw [a1 5]; rfl, by rw [a1 6]; rfl, by rw [a2 0]; rfl, by rw [a2 1]; rfl, by rw [a2 2]; rfl, by rw [a2 3]; rfl, by rw [a2 4]; rfl, by rw [a2 5]; rfl, by rw [a2 6]; rfl, by rw [a3 0]; rfl, by rw [a3 1]; rfl, by rw [a3 2]; rfl, by rw [a3 3]; rfl, by rw [a3 4]; rfl, by rw [a3 5]; rfl, by rw [a3 6]; rfl, by rw [a4 0]; rfl, by rw [a4 1]; rfl, by rw [a4 2]; rfl, by rw [a4 3]; rfl, by rw [a4 4]; rfl, by rw [a4 5]; rfl, by rw [a4 6]; rfl, by rw [a5 0]; rfl, by rw [a5 1]; rfl, by rw [a5 2]; rfl, by rw [a5 3]; rfl, by rw [a5 4]; rfl, by rw [a5 5]; rfl, by rw [a5 6]; rfl, by rw [a6 0]; rfl, by rw [a6 1]; rfl, by rw [a6 2]; rfl, by rw [a6 3]; rfl, by rw [a6 4]; rfl, by rw [a6 5]; rfl, by rw [a6 6]; rfl⟩
  have HBW : Hid (∀ W, Fr S W4 W → Below w.heap.size w W) := fun W hW => by
    have z := unhide hz0
    have b1 : Below w.heap.size w W4 := bl_past (bl_past (bl_past (unhide HFW1) (unhide HF12)) (unhide HF23)) (unhide HF34)
    exact b1.trans (hW.below b1.size (fun k hk => unhide hSn k (by omega)))
  have rdW : Hid (∀ W, Fr S W4 W → StV W (.agg #[.slice wta mT wtc, .slice woa mO woc, .slice wba mB wbc, .int .i64 m1, .int .i64 m2, .int .i64 m3, .int .i64 m4]) (canD s)) := fun W hW => by
    have z := unhide hz0
    have b1 : Below w1.heap.size w1 W4 := bl_past (bl_past (bl_past (unhide HF1) (unhide HF12)) (unhide HF23)) (unhide HF34)
    exact (unhide HWV).below (b1.trans (hW.below b1.size (fun k hk => unhide hSn k (by omega)))) (Nat.le_refl _)
  have rdP : Hid (∀ W, Fr S W4 W → StV W (.agg #[.slice pta mT ptc, .slice poa mO poc, .slice pba mB pbc, .int .i64 m1, .int .i64 m2, .int .i64 m3, .int .i64 m4]) (canD s)) := fun W hW => by
    have z := unhide hz0
    exact unhide HR3 S W ((Fr.of_below (bl_past (unhide HF3) (unhide HF34))).trans hW) (fun k hk => by
      rw [unhide hSd] at hk
      left; omega)
  have rdQ : Hid (∀ W, Fr S W4 W → StV W (.agg #[.slice qta mT qtc, .slice qoa mO qoc, .slice qba mB qbc, .int .i64 m1, .int .i64 m2, .int .i64 m3, .int .i64 m4]) (canD s)) := fun W hW => by
    have z := unhide hz0
    exact unhide HR4 S W ((Fr.of_below (unhide HF4)).trans hW) (fun k hk => by
      rw [unhide hSd] at hk
      left; omega)
  have HIV4 : Hid (InV S W4 lo P6 s (.slice ita aT itc) (.slice ioa aO ioc) (.slice iba aB ibc) xb W4) := ⟨s, xo, ((unhide HCW).below (bl_past (bl_past (unhide HF2) (unhide HF23)) (unhide HF34))), unhide HSB, unhide HSI, rfl, rfl, rfl, rfl, rfl, SL.refl _, Fr.refl _ _⟩
  have H10a : Hid (∀ W, Fr S W4 W → Calls Try.prog 10 #[.agg #[.slice pta mT ptc, .slice poa mO poc, .slice pba mB pbc, .int .i64 m1, .int .i64 m2, .int .i64 m3, .int .i64 m4], .agg #[.slice wta mT wtc, .slice woa mO woc, .slice wba mB wbc, .int .i64 m1, .int .i64 m2, .int .i64 m3, .int .i64 m4]] W fun e w' => e = .returned (.bool true) ∧ Below W.heap.size W w') := fun W hW => by
    have := smS_any (unhide rdP W hW) (unhide rdW W hW) (unhide HCB)
    rw [Dc_true rfl] at this
    exact this
  have H10b : Hid (∀ W, Fr S W4 W → Calls Try.prog 10 #[.agg #[.slice qta mT qtc, .slice qoa mO qoc, .slice qba mB qbc, .int .i64 m1, .int .i64 m2, .int .i64 m3, .int .i64 m4], .agg #[.slice wta mT wtc, .slice woa mO woc, .slice wba mB wbc, .int .i64 m1, .int .i64 m2, .int .i64 m3, .int .i64 m4]] W fun e w' => e = .returned (.bool true) ∧ Below W.heap.size W w') := fun W hW => by
    have := smS_any (unhide rdQ W hW) (unhide rdW W hW) (unhide HCB)
    rw [Dc_true rfl] at this
    exact this
  have H11 : Hid (∀ W, Below W4.heap.size W4 W → Calls Try.prog 11 #[.agg #[.slice ita aT itc, .slice ioa aO ioc, .slice iba aB ibc, .int .i64 a1, .int .i64 a2, .int .i64 a3, .int .i64 a4], .slice ra RA rcap, .agg #[.slice ata aT atc, .slice aoa aO aoc, .slice aba aB abc, .int .i64 a1, .int .i64 a2, .int .i64 a3, .int .i64 a4]] W fun e w' => e = .returned (.bool true) ∧ Below W.heap.size W w') := fun W hW => by
    have b2 := bl_past (bl_past (bl_past (unhide HF2) (unhide HF23)) (unhide HF34)) hW
    exact kept_any ((unhide HSTV).below b2 (Nat.le_refl _)) ((unhide HRMV).below b2 (Nat.le_refl _)) (unhide HU W (unhide HBW W (Fr.of_below hW))) (unhide HSB)
  have SKI : Hid (∀ W, Fr S W4 W → W.cell? ⟨P6, 0, none⟩ = some (.slice ita aT itc) ∧ W.cell? ⟨P6, 1, none⟩ = some (.slice ioa aO ioc) ∧ W.cell? ⟨P6, 2, none⟩ = some (.slice iba aB ibc) ∧ W.cell? ⟨w.heap.size + 1, 1, none⟩ = some (.slice ooa oO ooc)) := fun W hW => by
    obtain ⟨zs0, zs1, zs2, zs3, zs4, zs5, zs6, zo0, zo1, zo2, zo3, zo4, zo5, zo6, zw0, zw1, zw2, zw3, zw4, zw5, zw6, zi0, zi1, zi2, zi3, zi4, zi5, zi6, zp0, zp1, zp2, zp3, zp4, zp5, zp6, zq0, zq1, zq2, zq3, zq4, zq5, zq6⟩ := unhide SK W hW
    exact ⟨zi0, zi1, zi2, zo1⟩
  obtain ⟨zs0, zs1, zs2, zs3, zs4, zs5, zs6, zo0, zo1, zo2, zo3, zo4, zo5, zo6, zw0, zw1, zw2, zw3, zw4, zw5, zw6, zi0, zi1, zi2, zi3, zi4, zi5, zi6, zp0, zp1, zp2, zp3, zp4, zp5, zp6, zq0, zq1, zq2, zq3, zq4, zq5, zq6⟩ := unhide SK W4 (Fr.refl _ _)
  rw [← unhide hW4] at zs0 zs1 zs2 zs3 zs4 zs5 zs6 zo0 zo1 zo2 zo3 zo4 zo5 zo6 zw0 zw1 zw2 zw3 zw4 zw5 zw6 zi0 zi1 zi2 zi3 zi4 zi5 zi6 zp0 zp1 zp2 zp3 zp4 zp5 zp6 zq0 zq1 zq2 zq3 zq4 zq5 zq6
  rw [← unhide hP9] at zq0 zq1 zq2 zq3 zq4 zq5 zq6
  go_wp2_with fail
  rw [unhide hW4, unhide hP9]
  refine (unhide H10a _ (Fr.refl _ _)).mono ?_
  rintro e w5 ⟨rfl, g1⟩
  have G1 := hide g1
  clear g1 zs0 zs1 zs2 zs3 zs4 zs5 zs6 zo0 zo1 zo2 zo3 zo4 zo5 zo6 zw0 zw1 zw2 zw3 zw4 zw5 zw6 zi0 zi1 zi2 zi3 zi4 zi5 zi6 zp0 zp1 zp2 zp3 zp4 zp5 zp6 zq0 zq1 zq2 zq3 zq4 zq5 zq6
  obtain ⟨zs0, zs1, zs2, zs3, zs4, zs5, zs6, zo0, zo1, zo2, zo3, zo4, zo5, zo6, zw0, zw1, zw2, zw3, zw4, zw5, zw6, zi0, zi1, zi2, zi3, zi4, zi5, zi6, zp0, zp1, zp2, zp3, zp4, zp5, zp6, zq0, zq1, zq2, zq3, zq4, zq5, zq6⟩ := unhide SK _ (Fr.of_below (unhide G1))
  go_wp2_with fail
  refine (unhide H10b _ (Fr.of_below (unhide G1))).mono ?_
  rintro e w6 ⟨rfl, g1⟩
  have G2 := hide (bl_past (unhide G1) g1)
  clear g1 zs0 zs1 zs2 zs3 zs4 zs5 zs6 zo0 zo1 zo2 zo3 zo4 zo5 zo6 zw0 zw1 zw2 zw3 zw4 zw5 zw6 zi0 zi1 zi2 zi3 zi4 zi5 zi6 zp0 zp1 zp2 zp3 zp4 zp5 zp6 zq0 zq1 zq2 zq3 zq4 zq5 zq6
  obtain ⟨zs0, zs1, zs2, zs3, zs4, zs5, zs6, zo0, zo1, zo2, zo3, zo4, zo5, zo6, zw0, zw1, zw2, zw3, zw4, zw5, zw6, zi0, zi1, zi2, zi3, zi4, zi5, zi6, zp0, zp1, zp2, zp3, zp4, zp5, zp6, zq0, zq1, zq2, zq3, zq4, zq5, zq6⟩ := unhide SK _ (Fr.of_below (unhide G2))
  go_wp2_with fail
  refine (unhide H11 _ (unhide G2)).mono ?_
  rintro e w7 ⟨rfl, g1⟩
  have G3 := hide (bl_past (unhide G2) g1)
  have HIV7 := hide ((unhide HIV4).below (unhide G3))
  clear g1 zs0 zs1 zs2 zs3 zs4 zs5 zs6 zo0 zo1 zo2 zo3 zo4 zo5 zo6 zw0 zw1 zw2 zw3 zw4 zw5 zw6 zi0 zi1 zi2 zi3 zi4 zi5 zi6 zp0 zp1 zp2 zp3 zp4 zp5 zp6 zq0 zq1 zq2 zq3 zq4 zq5 zq6 HIV4 H10b H11 rdQ HRMV HSTV HCW HN5 HN6 HN8 HN9 HR4 HF2 HF3
  go_wp2_with fail
  go_loopg [10] aB (fun g t10 wr => ∃ (i : Nat), Hid (i + g = aB) ∧ t10 = .int .i64 (i : Int) ∧ Hid (InV S W4 lo P6 s (.slice ita aT itc) (.slice ioa aO ioc) (.slice iba aB ibc) xb wr))
  case atStart => exact ⟨0, by unfold Hid; omega, rfl, HIV7⟩
  case round =>
    clear HIV7
    obtain ⟨i, hi, rfl, hK⟩ := hrel
    obtain ⟨zi0, zi1, zi2, zo1⟩ := unhide SKI _ (unhide hK).fr
    by_cases hlt : i < aB
    · obtain ⟨⟨fv, ys⟩, hx⟩ : ∃ p, xb[i]? = some p := ⟨_, List.getElem?_eq_getElem (by rw [(unhide hK).xlen, unhide qaB]; exact hlt)⟩
      obtain ⟨fa, fc, rfl, f1, f2, f3⟩ := (unhide hK).fshape hx
      obtain ⟨FL, hFL⟩ : ∃ n, Hid (ys.length = n) := ⟨_, hide rfl⟩
      rw [unhide hFL] at hx f1 f3
      obtain ⟨ib, io, eib, hib, k0⟩ := (unhide hK).cellB hx
      subst eib
      unfold maxLen at f2
      have HX := hide hx
      have i0 : (0 : Int) ≤ (i : Int) := by omega
      have i1 : (i : Int) < (aB : Int) := by omega
      obtain ⟨gO, hgO⟩ : ∃ g, Hid (gk = g) := ⟨_, hide rfl⟩
      clear hx
      go_wp2_with fail
      go_loopg [11] FL (fun g t11 wr => ∃ (k : Nat), Hid (k + g = FL) ∧ t11 = .int .i64 (k : Int) ∧ Hid (InV S W4 lo P6 s (.slice ita aT itc) (.slice ioa aO ioc) (.slice (some ⟨ib, io, none⟩) aB ibc) xb wr))
      case atStart => exact ⟨0, by unfold Hid; omega, rfl, hK⟩
      case round =>
        clear hK k0 zi0 zi1 zi2 zo1
        obtain ⟨k, hk, rfl, hK⟩ := hrel
        obtain ⟨zi0, zi1, zi2, zo1⟩ := unhide SKI _ (unhide hK).fr
        obtain ⟨ib', io', eib, hib', k0⟩ := (unhide hK).cellB (unhide HX)
        injection eib with eib
        injection eib with eib1 eib2 eib3
        subst eib1 eib2
        by_cases hltk : k < FL
        · obtain ⟨x, hy⟩ : ∃ p, ys[k]? = some p := ⟨_, List.getElem?_eq_getElem (by rw [unhide hFL]; exact hltk)⟩
          obtain ⟨sa, SN, sc, es, s1, s2, s3⟩ := (unhide hK).sshape (unhide HX) hy
          obtain ⟨fb, fo, efa, hfb, k2⟩ := (unhide hK).cellM (unhide HX) hy
          subst efa
          rw [es] at k2
          unfold maxLen at s2
          have HY := hide hy
          have HES := hide es
          have j0 : (0 : Int) ≤ (k : Int) := by omega
          have j1 : (k : Int) < (FL : Int) := by omega
          obtain ⟨gP, hgP⟩ : ∃ g, Hid (gk = g) := ⟨_, hide rfl⟩
          clear hy es
          go_wp2_with fail
          go_loopg [13] SN (fun g t13 wr => ∃ (n : Nat), Hid (n + g = SN) ∧ t13 = .int .i64 (n : Int) ∧ Hid (InV S W4 lo P6 s (.slice ita aT itc) (.slice ioa aO ioc) (.slice (some ⟨ib, io, none⟩) aB ibc) xb wr))
          case atStart => exact ⟨0, by unfold Hid; omega, rfl, hK⟩
          case round =>
            clear hK k0 k2 zi0 zi1 zi2 zo1
            obtain ⟨n, hn, rfl, hK⟩ := hrel
            by_cases hltn : n < SN
            · obtain ⟨g, off, esa, hg, ⟨u0, c0⟩, ⟨u1, c1⟩, fz0, fz1⟩ := (unhide hK).cellV (unhide HX) (unhide HY) (unhide HES) hltn
              subst esa
              have l0 : (0 : Int) ≤ (n : Int) := by omega
              have l1' : (n : Int) < (SN : Int) := by omega
              have HK2 : Hid (InV S W4 lo P6 s (.slice ita aT itc) (.slice ioa aO ioc) (.slice (some ⟨ib, io, none⟩) aB ibc) xb ((wr.setCell ⟨g, off + n * 2, none⟩ (.int .i64 (6 + (n : Int) % 4))).setCell ⟨g, off + n * 2 + 1, none⟩ (.int .i64 ((n : Int) / 2)))) := (unhide hK).slot (unhide hSS) (unhide HX) (unhide HY) (unhide HES) hltn (6 + (n : Int) % 4, (n : Int) / 2) ⟨WalkArith.wf_i64 (by show _ ∧ _; simp only; omega), WalkArith.wf_i64 (by show _ ∧ _; simp only; omega)⟩
              clear hK
              go_wp2_with fail
              go_roundg (gk - 1)
              case measure => have := unhide hn; omega
              case rel => exact ⟨n + 1, by have := unhide hn; unfold Hid; omega, by go_num, HK2⟩
            · go_wp2_with fail
              go_roundg (gP - 1)
              case measure => have := unhide hk; have := unhide hgP; omega
              case rel => exact ⟨k + 1, by have := unhide hk; have := unhide hgP; unfold Hid; omega, by go_num, hK⟩
        · go_wp2_with fail
          go_roundg (gO - 1)
          case measure => have := unhide hi; have := unhide hgO; omega
          case rel => exact ⟨i + 1, by have := unhide hi; have := unhide hgO; unfold Hid; omega, by go_num, hK⟩
    · go_wp2_with fail
      go_loopg [14] aO (fun g t14 wr => ∃ (j : Nat), Hid (j + g = aO) ∧ t14 = .int .i64 (j : Int) ∧ Hid (InV S W4 lo P6 s (.slice ita aT itc) (.slice ioa aO ioc) (.slice iba aB ibc) xb wr))
      case atStart => exact ⟨0, by unfold Hid; omega, rfl, hK⟩
      case round =>
        clear hK zi0 zi1 zi2 zo1
        obtain ⟨j, hj, rfl, hK⟩ := hrel
        obtain ⟨zi0, zi1, zi2, zo1⟩ := unhide SKI _ (unhide hK).fr
        by_cases hc1 : j < aO
        · by_cases hc2 : j < oO
          · obtain ⟨og, oo, eio, hog, hoc, hof, hol, hoh⟩ := (unhide hK).cellO hc1
            subst eio
            obtain ⟨o, ho⟩ : ∃ o, t.objs[j]? = some o := ⟨_, List.getElem?_eq_getElem (by rw [unhide qoO]; exact hc2)⟩
            obtain ⟨rb, ro, ria, ric, rka, rkc, er, hrb, r0, r1, r2, r3, r4, r5, rx1, rx2, -, -, -, -⟩ := (unhide HOO).six ho
            cases er
            have HTBo := hide ((unhide HTB).os o (List.mem_of_getElem? ho))
            have HTIo := hide ((unhide HTI).o o (List.mem_of_getElem? ho))
            have HC12 : Hid (∀ W, Below w.heap.size w W → Calls Try.prog 12 #[.agg #[.int .i64 o.kind, .slice ria o.its.length ric, .slice rka o.keys.length rkc, .int .i64 o.fn, .int .i64 o.cap, .bool o.shut]] W (CpO W o)) := fun W hW => copyO_any ⟨_, _, rfl, rx1.below hW (Nat.le_refl _), rx2.below hW (Nat.le_refl _)⟩ (unhide HTBo).1 (unhide HTBo).2
            obtain ⟨ril, hril⟩ : ∃ n, Hid (o.its.length = n) := ⟨_, hide rfl⟩
            obtain ⟨rkl, hrkl⟩ : ∃ n, Hid (o.keys.length = n) := ⟨_, hide rfl⟩
            rw [unhide hril, unhide hrkl] at HC12
            rw [unhide hril] at r1
            rw [unhide hrkl] at r2
            have HSX : Hid (∀ W, Fr S W4 W → W.cell? ⟨P6, 1, none⟩ = some (.slice (some ⟨og, oo, none⟩) aO ioc) ∧ W.cell? ⟨w.heap.size + 1, 1, none⟩ = some (.slice (some ⟨rb, ro, none⟩) oO ooc) ∧ W.cell? ⟨rb, ro + j * 6, none⟩ = some (.int .i64 o.kind) ∧ W.cell? ⟨rb, ro + j * 6 + 1, none⟩ = some (.slice ria ril ric) ∧ W.cell? ⟨rb, ro + j * 6 + 2, none⟩ = some (.slice rka rkl rkc) ∧ W.cell? ⟨rb, ro + j * 6 + 3, none⟩ = some (.int .i64 o.fn) ∧ W.cell? ⟨rb, ro + j * 6 + 4, none⟩ = some (.int .i64 o.cap) ∧ W.cell? ⟨rb, ro + j * 6 + 5, none⟩ = some (.bool o.shut)) := fun W hW => by
              have hb := unhide HBW W hW
              obtain ⟨q0, q1, q2, q3⟩ := unhide SKI W hW
              exact ⟨q1, q3, (hb.cell (p := ⟨rb, ro + j * 6, none⟩) hrb).trans r0, (hb.cell (p := ⟨rb, ro + j * 6 + 1, none⟩) hrb).trans r1, (hb.cell (p := ⟨rb, ro + j * 6 + 2, none⟩) hrb).trans r2, (hb.cell (p := ⟨rb, ro + j * 6 + 3, none⟩) hrb).trans r3, (hb.cell (p := ⟨rb, ro + j * 6 + 4, none⟩) hrb).trans r4, (hb.cell (p := ⟨rb, ro + j * 6 + 5, none⟩) hrb).trans r5⟩
            obtain ⟨D, hD⟩ : ∃ W, Hid (wr.drew = W) := ⟨_, hide rfl⟩
            have hfD : Below wr.heap.size wr D := by rw [← unhide hD]; exact bl_drew wr
            have hKD := (unhide hK).below hfD
            have HKD := hide hKD
            have HFDc := hide hfD
            have HSD := hide (unhide HSX D hKD.fr)
            have HC := hide (unhide HC12 D (unhide HBW D hKD.fr))
            have j0 : (0 : Int) ≤ (j : Int) := by omega
            have j1 : (j : Int) < (aO : Int) := by omega
            have j2 : (j : Int) < (oO : Int) := by omega
            have HOC := hide hoc
            have HOF := hide hof
            have hDs := hfD.size
            clear ho r0 r1 r2 r3 r4 r5 rx1 rx2 hKD hfD hoc hof
            go_wp2_with fail
            refine wp_region_held_drew (S := (fun W => W.cell? ⟨P6, 1, none⟩ = some (.slice (some ⟨og, oo, none⟩) aO ioc) ∧ W.cell? ⟨w.heap.size + 1, 1, none⟩ = some (.slice (some ⟨rb, ro, none⟩) oO ooc) ∧ W.cell? ⟨rb, ro + j * 6, none⟩ = some (.int .i64 o.kind) ∧ W.cell? ⟨rb, ro + j * 6 + 1, none⟩ = some (.slice ria ril ric) ∧ W.cell? ⟨rb, ro + j * 6 + 2, none⟩ = some (.slice rka rkl rkc) ∧ W.cell? ⟨rb, ro + j * 6 + 3, none⟩ = some (.int .i64 o.fn) ∧ W.cell? ⟨rb, ro + j * 6 + 4, none⟩ = some (.int .i64 o.cap) ∧ W.cell? ⟨rb, ro + j * 6 + 5, none⟩ = some (.bool o.shut))) (by kernel_rfl) (by rw [unhide hD]; exact unhide HSD) (fun hHeld => ?_)
            clear hHeld
            rw [unhide hD]
            refine wpAnyH_take (i := 0) (oi := _) (v := .pointer (some ⟨P6, 1, none⟩)) rfl (by kernel_rfl) (by kernel_rfl) (by kernel_rfl) (fun _ _ _ h => h) (Or.inl ⟨by rfl, (by intro w' hSw; go_simp)⟩) (unhide HSD) ?_
            go_simp
            refine wpAnyH_take (i := 1) (oi := _) (v := (.slice (some ⟨og, oo, none⟩) aO ioc)) rfl (by kernel_rfl) (by kernel_rfl) (by kernel_rfl) (fun _ _ _ h => h) (Or.inl ⟨by rfl, (by intro w' hSw; obtain ⟨s0, s1, s2, s3, s4, s5, s6, s7⟩ := hSw; go_simp)⟩) (unhide HSD) ?_
            go_simp
            refine wpAnyH_take (i := 2) (oi := _) (v := .int .i64 (j : Int)) rfl (by kernel_rfl) (by kernel_rfl) (by kernel_rfl) (fun _ _ _ h => h) (Or.inl ⟨by rfl, (by intro w' hSw; go_simp)⟩) (unhide HSD) ?_
            go_simp
            refine wpAnyH_take (i := 3) (oi := _) (v := .pointer (some ⟨w.heap.size + 1, 1, none⟩)) rfl (by kernel_rfl) (by kernel_rfl) (by kernel_rfl) (fun _ _ _ h => h) (Or.inl ⟨by rfl, (by intro w' hSw; go_simp)⟩) (unhide HSD) ?_
            go_simp
            refine wpAnyH_take (i := 4) (oi := _) (v := (.slice (some ⟨rb, ro, none⟩) oO ooc)) rfl (by kernel_rfl) (by kernel_rfl) (by kernel_rfl) (fun _ _ _ h => h) (Or.inl ⟨by rfl, (by intro w' hSw; obtain ⟨s0, s1, s2, s3, s4, s5, s6, s7⟩ := hSw; go_simp)⟩) (unhide HSD) ?_
            go_simp
            refine wpAnyH_take (i := 5) (oi := _) (v := .int .i64 (j : Int)) rfl (by kernel_rfl) (by kernel_rfl) (by kernel_rfl) (fun _ _ _ h => h) (Or.inl ⟨by rfl, (by intro w' hSw; go_simp)⟩) (unhide HSD) ?_
            go_simp
            refine wpAnyH_take (i := 6) (oi := _) (v := (.pointer (some ⟨rb, ro + j * 6, none⟩))) rfl (by kernel_rfl) (by kernel_rfl) (by kernel_rfl) (fun _ _ _ h => h) (Or.inl ⟨by rfl, (by intro w' hSw; go_simp)⟩) (unhide HSD) ?_
            go_simp
            refine wpAnyH_take (i := 7) (oi := _) (v := (.agg #[.int .i64 o.kind, .slice ria ril ric, .slice rka rkl rkc, .int .i64 o.fn, .int .i64 o.cap, .bool o.shut])) rfl (by kernel_rfl) (by kernel_rfl) (by kernel_rfl) (fun _ _ _ h => h) (Or.inl ⟨by rfl, (by intro w' hSw; obtain ⟨s0, s1, s2, s3, s4, s5, s6, s7⟩ := hSw; go_simp)⟩) (unhide HSD) ?_
            go_simp
            refine wpAnyH_ready (rs := [8]) (by kernel_rfl) (by simp) ?_
            refine AllReadyH.cons (o := _) rfl (fun K hK' => ?_) AllReadyH.nil
            go_simp
            refine (unhide HC).mono ?_
            rintro e w8 ⟨x, rfl, hO8, hn8, hb8⟩
            obtain ⟨xia, xic, exi, -, -⟩ := hO8.2.2.2.2.1.shape
            obtain ⟨xka, xkc, exk, -, -⟩ := hO8.2.2.2.2.2.shape
            rw [unhide hril] at exi
            rw [unhide hrkl] at exk
            obtain ⟨xk, xiv, xkv, xf, xc, xs⟩ := x
            simp only at exi exk
            subst exi exk
            have hobj := (unhide HKD).obj (unhide hSS) hb8 rfl (i := j) (by rw [unhide qaO]; exact hc1) hO8 hn8 (unhide HTBo) (unhide HTIo)
            have HKF : Hid (InV S W4 lo P6 s (.slice ita aT itc) (.slice (some ⟨og, oo, none⟩) aO ioc) (.slice iba aB ibc) xb ((((((w8.setCell ⟨og, oo + j * 6, none⟩ (.int .i64 xk)).setCell ⟨og, oo + j * 6 + 1, none⟩ (.slice xia ril xic)).setCell ⟨og, oo + j * 6 + 2, none⟩ (.slice xka rkl xkc)).setCell ⟨og, oo + j * 6 + 3, none⟩ (.int .i64 xf)).setCell ⟨og, oo + j * 6 + 4, none⟩ (.int .i64 xc)).setCell ⟨og, oo + j * 6 + 5, none⟩ (.bool xs))) := hobj
            have HS8 := hide (unhide HSX w8 ((unhide HKD).below hb8).fr)
            have HSF := hide (unhide HSX _ (unhide HKF).fr)
            have y0 : ∃ u, w8.cell? ⟨og, oo + j * 6, none⟩ = some u := by
              obtain ⟨u, hu⟩ := unhide HOC 0 (by omega)
              exact ⟨u, ((hb8.cell (p := ⟨og, oo + j * 6 + 0, none⟩) (show og < D.heap.size by omega)).trans (((unhide HFDc).cell (p := ⟨og, oo + j * 6 + 0, none⟩) hog).trans hu))⟩
            have fy0 : w8.frozen? ⟨og, oo + j * 6, none⟩ = false := (hb8.frozen (p := ⟨og, oo + j * 6, none⟩) (show og < D.heap.size by omega)).trans (((unhide HFDc).frozen (p := ⟨og, oo + j * 6, none⟩) hog).trans (unhide HOF _))
            obtain ⟨u0, y0⟩ := y0
            have y1 : ∃ u, w8.cell? ⟨og, oo + j * 6 + 1, none⟩ = some u := by
              obtain ⟨u, hu⟩ := unhide HOC 1 (by omega)
              exact ⟨u, ((hb8.cell (p := ⟨og, oo + j * 6 + 1, none⟩) (show og < D.heap.size by omega)).trans (((unhide HFDc).cell (p := ⟨og, oo + j * 6 + 1, none⟩) hog).trans hu))⟩
            have fy1 : w8.frozen? ⟨og, oo + j * 6 + 1, none⟩ = false := (hb8.frozen (p := ⟨og, oo + j * 6 + 1, none⟩) (show og < D.heap.size by omega)).trans (((unhide HFDc).frozen (p := ⟨og, oo + j * 6 + 1, none⟩) hog).trans (unhide HOF _))
            obtain ⟨u1, y1⟩ := y1
            have y2 : ∃ u, w8.cell? ⟨og, oo + j * 6 + 2, none⟩ = some u := by
              obtain ⟨u, hu⟩ := unhide HOC 2 (by omega)
              exact ⟨u, ((hb8.cell (p := ⟨og, oo + j * 6 + 2, none⟩) (show og < D.heap.size by omega)).trans (((unhide HFDc).cell (p := ⟨og, oo + j * 6 + 2, none⟩) hog).trans hu))⟩
            have fy2 : w8.frozen? ⟨og, oo + j * 6 + 2, none⟩ = false := (hb8.frozen (p := ⟨og, oo + j * 6 + 2, none⟩) (show og < D.heap.size by omega)).trans (((unhide HFDc).frozen (p := ⟨og, oo + j * 6 + 2, none⟩) hog).trans (unhide HOF _))
            obtain ⟨u2, y2⟩ := y2
            have y3 : ∃ u, w8.cell? ⟨og, oo + j * 6 + 3, none⟩ = some u := by
              obtain ⟨u, hu⟩ := unhide HOC 3 (by omega)
              exact ⟨u, ((hb8.cell (p := ⟨og, oo + j * 6 + 3, none⟩) (show og < D.heap.size by omega)).trans (((unhide HFDc).cell (p := ⟨og, oo + j * 6 + 3, none⟩) hog).trans hu))⟩
            have fy3 : w8.frozen? ⟨og, oo + j * 6 + 3, none⟩ = false := (hb8.frozen (p := ⟨og, oo + j * 6 + 3, none⟩) (show og < D.heap.size by omega)).trans (((unhide HFDc).frozen (p := ⟨og, oo + j * 6 + 3, none⟩) hog).trans (unhide HOF _))
            obtain ⟨u3, y3⟩ := y3
            have y4 : ∃ u, w8.cell? ⟨og, oo + j * 6 + 4, none⟩ = some u := by
              obtain ⟨u, hu⟩ := unhide HOC 4 (by omega)
              exact ⟨u, ((hb8.cell (p := ⟨og, oo + j * 6 + 4, none⟩) (show og < D.heap.size by omega)).trans (((unhide HFDc).cell (p := ⟨og, oo + j * 6 + 4, none⟩) hog).trans hu))⟩
            have fy4 : w8.frozen? ⟨og, oo + j * 6 + 4, none⟩ = false := (hb8.frozen (p := ⟨og, oo + j * 6 + 4, none⟩) (show og < D.heap.size by omega)).trans (((unhide HFDc).frozen (p := ⟨og, oo + j * 6 + 4, none⟩) hog).trans (unhide HOF _))
            obtain ⟨u4, y4⟩ := y4
            have y5 : ∃ u, w8.cell? ⟨og, oo + j * 6 + 5, none⟩ = some u := by
              obtain ⟨u, hu⟩ := unhide HOC 5 (by omega)
              exact ⟨u, ((hb8.cell (p := ⟨og, oo + j * 6 + 5, none⟩) (show og < D.heap.size by omega)).trans (((unhide HFDc).cell (p := ⟨og, oo + j * 6 + 5, none⟩) hog).trans hu))⟩
            have fy5 : w8.frozen? ⟨og, oo + j * 6 + 5, none⟩ = false := (hb8.frozen (p := ⟨og, oo + j * 6 + 5, none⟩) (show og < D.heap.size by omega)).trans (((unhide HFDc).frozen (p := ⟨og, oo + j * 6 + 5, none⟩) hog).trans (unhide HOF _))
            obtain ⟨u5, y5⟩ := y5
            have hl8 : og < w8.heap.size := World.block_lt_of_cell? _ _ y0
            clear hO8 hn8 hobj
            refine hK'.out _ _ (unhide HS8) (fun _ => ?_)
            clear hK' K hb8
            go_simp
            refine wpAnyH_take (i := 9) (oi := _) (v := (.pointer (some ⟨og, oo + j * 6, none⟩))) rfl (by kernel_rfl) (by kernel_rfl) (by kernel_rfl) (fun _ _ _ h => h) (Or.inl ⟨by rfl, (by intro w' hSw; go_simp)⟩) (unhide HS8) ?_
            go_simp
            refine wpAnyH_ready (rs := [10]) (by kernel_rfl) (by simp) ?_
            refine AllReadyH.cons (o := _) rfl (fun K hK' => ?_) AllReadyH.nil
            go_simp
            refine hK'.out _ _ (unhide HSF) (fun _ => ?_)
            clear hK' K
            refine wpAnyH_done (by kernel_rfl) ?_ _
            go_wp2_with fail
            go_roundg (gk - 1)
            case measure => have := unhide hj; omega
            case rel => exact ⟨j + 1, by have := unhide hj; unfold Hid; omega, by go_num, HKF⟩
          · obtain ⟨s', xo', h1, h2, h3, h4, h5, h6, h7, h8, h9, h10⟩ := unhide hK
            have hst : StV wr (.agg #[.slice ita aT itc, .slice ioa aO ioc, .slice iba aB ibc, .int .i64 a1, .int .i64 a2, .int .i64 a3, .int .i64 a4]) s' := by
              have := h1.stv
              rw [h4, h5, h6, h7, unhide qa1, unhide qa2, unhide qa3, unhide qa4] at this
              exact this
            have HST := hide hst
            have HB' := hide h2
            have HI' := hide h3
            have HFR := hide h10
            have HCB' := hide (canD_B h2)
            obtain ⟨nT, qnT⟩ : ∃ n, Hid ((canD s').texts.length = n) := ⟨_, hide rfl⟩
            obtain ⟨nO, qnO⟩ : ∃ n, Hid ((canD s').objs.length = n) := ⟨_, hide rfl⟩
            obtain ⟨nB, qnB⟩ : ∃ n, Hid ((canD s').fibs.length = n) := ⟨_, hide rfl⟩
            obtain ⟨n1, qn1⟩ : ∃ n, Hid ((canD s').cur = n) := ⟨_, hide rfl⟩
            obtain ⟨n2, qn2⟩ : ∃ n, Hid ((canD s').steps = n) := ⟨_, hide rfl⟩
            obtain ⟨n3, qn3⟩ : ∃ n, Hid ((canD s').spent = n) := ⟨_, hide rfl⟩
            obtain ⟨n4, qn4⟩ : ∃ n, Hid ((canD s').read = n) := ⟨_, hide rfl⟩
            obtain ⟨vT, qvT⟩ : ∃ n, Hid (s'.texts.length = n) := ⟨_, hide rfl⟩
            obtain ⟨vO, qvO⟩ : ∃ n, Hid (s'.objs.length = n) := ⟨_, hide rfl⟩
            obtain ⟨vB, qvB⟩ : ∃ n, Hid (s'.fibs.length = n) := ⟨_, hide rfl⟩
            obtain ⟨v1, qv1⟩ : ∃ n, Hid (s'.cur = n) := ⟨_, hide rfl⟩
            obtain ⟨v2, qv2⟩ : ∃ n, Hid (s'.steps = n) := ⟨_, hide rfl⟩
            obtain ⟨v3, qv3⟩ : ∃ n, Hid (s'.spent = n) := ⟨_, hide rfl⟩
            obtain ⟨v4, qv4⟩ : ∃ n, Hid (s'.read = n) := ⟨_, hide rfl⟩
            have HC13 := hide (copyS_any hst h2)
            obtain ⟨zs0, zs1, zs2, zs3, zs4, zs5, zs6, zo0, zo1, zo2, zo3, zo4, zo5, zo6, zw0, zw1, zw2, zw3, zw4, zw5, zw6, zi0, zi1, zi2, zi3, zi4, zi5, zi6, zp0, zp1, zp2, zp3, zp4, zp5, zp6, zq0, zq1, zq2, zq3, zq4, zq5, zq6⟩ := unhide SK wr h10
            clear h1 h2 h3 h4 h5 h6 h7 h8 h9 h10 hst hK
            go_wp2_with fail
            refine (unhide HC13).mono ?_
            rintro e w8 hq8
            obtain ⟨cv, rfl, hcv, hb8⟩ := hq8.rd
            obtain ⟨kta, ktc, koa, koc, kba, kbc, rfl, -, -, -, -, -, -, -, -, -⟩ := hcv.shape
            have HC7 := hide (dCanon_any hcv (unhide HB'))
            rw [unhide qvT, unhide qvO, unhide qvB, unhide qv1, unhide qv2, unhide qv3, unhide qv4] at HC7 ⊢
            have HB8 := hide hb8
            clear hq8 hcv hb8 zs0 zs1 zs2 zs3 zs4 zs5 zs6 zo0 zo1 zo2 zo3 zo4 zo5 zo6 zw0 zw1 zw2 zw3 zw4 zw5 zw6 zi0 zi1 zi2 zi3 zi4 zi5 zi6 zp0 zp1 zp2 zp3 zp4 zp5 zp6 zq0 zq1 zq2 zq3 zq4 zq5 zq6
            go_wp2_with fail
            refine (unhide HC7).mono ?_
            rintro e w9 ⟨nv, rfl, hnv, hb9⟩
            obtain ⟨nta, ntc, noa, noc, nba, nbc, rfl, -, -, -, -, -, -, -, -, -⟩ := hnv.shape
            rw [unhide qnT, unhide qnO, unhide qnB, unhide qn1, unhide qn2, unhide qn3, unhide qn4] at hnv ⊢
            have HNV := hide hnv
            obtain ⟨P15, hP15⟩ : ∃ n, Hid (w9.heap.size = n) := ⟨_, hide rfl⟩
            obtain ⟨W9, hW9⟩ : ∃ W, Hid (w9.alloc (.cells #[.slice nta nT ntc, .slice noa nO noc, .slice nba nB nbc, .int .i64 n1, .int .i64 n2, .int .i64 n3, .int .i64 n4] 26) = W) := ⟨_, hide rfl⟩
            have f9 : Below w9.heap.size w9 W9 := by rw [← unhide hW9]; exact (Below.refl _ w9).alloc (Nat.le_refl _) _
            have n15 : W9.heap[P15]? = some (.cells #[.slice nta nT ntc, .slice noa nO noc, .slice nba nB nbc, .int .i64 n1, .int .i64 n2, .int .i64 n3, .int .i64 n4] 26) := by rw [← unhide hW9, ← unhide hP15]; exact heap_alloc_new w9 _
            have HN15 := hide n15
            have HF9 : Hid (Below w9.heap.size w9 W9) := f9
            have hbr9 : Below wr.heap.size wr W9 := bl_past (bl_past (unhide HB8) hb9) f9
            have F9 : Hid (Fr S W4 W9) := (unhide HFR).trans (Fr.of_below hbr9)
            have HC9n := hide (pCanon_any ((unhide HST).below hbr9 (Nat.le_refl _)) (unhide HB') (unhide HI'))
            obtain ⟨zs0, zs1, zs2, zs3, zs4, zs5, zs6, zo0, zo1, zo2, zo3, zo4, zo5, zo6, zw0, zw1, zw2, zw3, zw4, zw5, zw6, zi0, zi1, zi2, zi3, zi4, zi5, zi6, zp0, zp1, zp2, zp3, zp4, zp5, zp6, zq0, zq1, zq2, zq3, zq4, zq5, zq6⟩ := unhide SK W9 (unhide F9)
            clear hnv hb9 f9 n15 hbr9 HC7 HC13 zs0 zs1 zs2 zs3 zs4 zs5 zs6 zo0 zo1 zo2 zo3 zo4 zo5 zo6 zw0 zw1 zw2 zw3 zw4 zw5 zw6 zp0 zp1 zp2 zp3 zp4 zp5 zp6 zq0 zq1 zq2 zq3 zq4 zq5 zq6
            have l15 : P6 < W9.heap.size := World.block_lt_of_cell? _ _ zi0
            rw [← unhide hW9] at zi0 zi1 zi2 zi3 zi4 zi5 zi6 l15
            go_wp2_with fail
            rw [unhide hW9, unhide hP15]
            refine (unhide HC9n).mono ?_
            rintro e w10 hq10
            obtain ⟨cv, rfl, hb10, hr10⟩ := hq10.rd
            obtain ⟨cta, ctc, coa, coc, cba, cbc, rfl, -, -, -, -, -, -, -, -, -⟩ := (hr10 (fun _ => False) w10 (Fr.refl _ _) (fun _ e => e.elim)).shape
            rw [unhide qnT, unhide qnO, unhide qnB, unhide qn1, unhide qn2, unhide qn3, unhide qn4] at hr10 ⊢
            obtain ⟨P16, hP16⟩ : ∃ n, Hid (w10.heap.size = n) := ⟨_, hide rfl⟩
            obtain ⟨W10, hW10⟩ : ∃ W, Hid (w10.alloc (.cells #[.slice cta nT ctc, .slice coa nO coc, .slice cba nB cbc, .int .i64 n1, .int .i64 n2, .int .i64 n3, .int .i64 n4] 26) = W) := ⟨_, hide rfl⟩
            have f10 : Below w10.heap.size w10 W10 := by rw [← unhide hW10]; exact (Below.refl _ w10).alloc (Nat.le_refl _) _
            have n16 : W10.heap[P16]? = some (.cells #[.slice cta nT ctc, .slice coa nO coc, .slice cba nB cbc, .int .i64 n1, .int .i64 n2, .int .i64 n3, .int .i64 n4] 26) := by rw [← unhide hW10, ← unhide hP16]; exact heap_alloc_new w10 _
            have f910 : Below W9.heap.size W9 W10 := bl_past hb10 f10
            have F10 : Hid (Fr S W4 W10) := (unhide F9).trans (Fr.of_below f910)
            have rdC : Hid (∀ W, Below W10.heap.size W10 W → StV W (.agg #[.slice cta nT ctc, .slice coa nO coc, .slice cba nB cbc, .int .i64 n1, .int .i64 n2, .int .i64 n3, .int .i64 n4]) (canD s')) := fun W hW => hr10 (fun _ => False) W (Fr.of_below (bl_past f10 hW)) (fun _ e => e.elim)
            have rdN : Hid (∀ W, Below W10.heap.size W10 W → StV W (.agg #[.slice nta nT ntc, .slice noa nO noc, .slice nba nB nbc, .int .i64 n1, .int .i64 n2, .int .i64 n3, .int .i64 n4]) (canD s')) := fun W hW => (unhide HNV).below (bl_past (bl_past (unhide HF9) f910) hW) (Nat.le_refl _)
            have K1 : Hid (∀ W, Below W10.heap.size W10 W → Calls Try.prog 10 #[.agg #[.slice cta nT ctc, .slice coa nO coc, .slice cba nB cbc, .int .i64 n1, .int .i64 n2, .int .i64 n3, .int .i64 n4], .agg #[.slice nta nT ntc, .slice noa nO noc, .slice nba nB nbc, .int .i64 n1, .int .i64 n2, .int .i64 n3, .int .i64 n4]] W fun e w' => e = .returned (.bool true) ∧ Below W.heap.size W w') := fun W hW => by
              have := smS_any (unhide rdC W hW) (unhide rdN W hW) (unhide HCB')
              rw [Dc_true rfl] at this
              exact this
            have SKT : Hid (∀ W, Below W10.heap.size W10 W → W.cell? ⟨w.heap.size, 0, none⟩ = some (.slice ata aT atc) ∧ W.cell? ⟨w.heap.size, 1, none⟩ = some (.slice aoa aO aoc) ∧ W.cell? ⟨w.heap.size, 2, none⟩ = some (.slice aba aB abc) ∧ W.cell? ⟨w.heap.size, 3, none⟩ = some (.int .i64 a1) ∧ W.cell? ⟨w.heap.size, 4, none⟩ = some (.int .i64 a2) ∧ W.cell? ⟨w.heap.size, 5, none⟩ = some (.int .i64 a3) ∧ W.cell? ⟨w.heap.size, 6, none⟩ = some (.int .i64 a4) ∧ W.cell? ⟨P5, 0, none⟩ = some (.slice wta mT wtc) ∧ W.cell? ⟨P5, 1, none⟩ = some (.slice woa mO woc) ∧ W.cell? ⟨P5, 2, none⟩ = some (.slice wba mB wbc) ∧ W.cell? ⟨P5, 3, none⟩ = some (.int .i64 m1) ∧ W.cell? ⟨P5, 4, none⟩ = some (.int .i64 m2) ∧ W.cell? ⟨P5, 5, none⟩ = some (.int .i64 m3) ∧ W.cell? ⟨P5, 6, none⟩ = some (.int .i64 m4) ∧ W.cell? ⟨P8, 0, none⟩ = some (.slice pta mT ptc) ∧ W.cell? ⟨P8, 1, none⟩ = some (.slice poa mO poc) ∧ W.cell? ⟨P8, 2, none⟩ = some (.slice pba mB pbc) ∧ W.cell? ⟨P8, 3, none⟩ = some (.int .i64 m1) ∧ W.cell? ⟨P8, 4, none⟩ = some (.int .i64 m2) ∧ W.cell? ⟨P8, 5, none⟩ = some (.int .i64 m3) ∧ W.cell? ⟨P8, 6, none⟩ = some (.int .i64 m4) ∧ W.cell? ⟨P15, 0, none⟩ = some (.slice nta nT ntc) ∧ W.cell? ⟨P15, 1, none⟩ = some (.slice noa nO noc) ∧ W.cell? ⟨P15, 2, none⟩ = some (.slice nba nB nbc) ∧ W.cell? ⟨P15, 3, none⟩ = some (.int .i64 n1) ∧ W.cell? ⟨P15, 4, none⟩ = some (.int .i64 n2) ∧ W.cell? ⟨P15, 5, none⟩ = some (.int .i64 n3) ∧ W.cell? ⟨P15, 6, none⟩ = some (.int .i64 n4) ∧ W.cell? ⟨P16, 0, none⟩ = some (.slice cta nT ctc) ∧ W.cell? ⟨P16, 1, none⟩ = some (.slice coa nO coc) ∧ W.cell? ⟨P16, 2, none⟩ = some (.slice cba nB cbc) ∧ W.cell? ⟨P16, 3, none⟩ = some (.int .i64 n1) ∧ W.cell? ⟨P16, 4, none⟩ = some (.int .i64 n2) ∧ W.cell? ⟨P16, 5, none⟩ = some (.int .i64 n3) ∧ W.cell? ⟨P16, 6, none⟩ = some (.int .i64 n4)) := fun W hW => by
              obtain ⟨zs0, zs1, zs2, zs3, zs4, zs5, zs6, zo0, zo1, zo2, zo3, zo4, zo5, zo6, zw0, zw1, zw2, zw3, zw4, zw5, zw6, zi0, zi1, zi2, zi3, zi4, zi5, zi6, zp0, zp1, zp2, zp3, zp4, zp5, zp6, zq0, zq1, zq2, zq3, zq4, zq5, zq6⟩ := unhide SK W ((unhide F10).trans (Fr.of_below hW))
              have a1 := (blk_cells (bkeep1 (bkeep1 (unhide HN15) f910) hW)).1
              have a2 := (blk_cells (bkeep1 n16 hW)).1
              exact ⟨zs0, zs1, zs2, zs3, zs4, zs5, zs6, zw0, zw1, zw2, zw3, zw4, zw5, zw6, zp0, zp1, zp2, zp3, zp4, zp5, zp6, by rw [a1 0]; rfl, by rw [a1 1]; rfl, by rw [a1 2]; rfl, by rw [a1 3]; rfl, by rw [a1 4]; rfl, by rw [a1 5]; rfl, by rw [a1 6]; rfl, by rw [a2 0]; rfl, by rw [a2 1]; rfl, by rw [a2 2]; rfl, by rw [a2 3]; rfl, by rw [a2 4]; rfl, by rw [a2 5]; rfl, by rw [a2 6]; rfl⟩
            clear hq10 hb10 hr10 f10 n16 f910 HC9n zi0 zi1 zi2 zi3 zi4 zi5 zi6 HNV
            go_wp2_with fail
            rw [unhide hW10, unhide hP16]
            obtain ⟨D, hD⟩ : ∃ W, Hid (W10.drew = W) := ⟨_, hide rfl⟩
            have BD : Hid (Below W10.heap.size W10 D) := by rw [← unhide hD]; exact hide (bl_drew W10)
            refine wp_region_held_drew (S := fun W => Below W10.heap.size W10 W) (by kernel_rfl) (bl_drew W10) (fun hH => ?_)
            clear hH
            rw [unhide hD]
            refine wpAnyH_take (i := 0) (oi := _) (v := (.agg #[.slice cta nT ctc, .slice coa nO coc, .slice cba nB cbc, .int .i64 n1, .int .i64 n2, .int .i64 n3, .int .i64 n4])) rfl (by kernel_rfl) (by kernel_rfl) (by kernel_rfl) (fun _ _ _ h => h) (Or.inl ⟨by rfl, (by intro w' hSw; obtain ⟨zs0, zs1, zs2, zs3, zs4, zs5, zs6, zw0, zw1, zw2, zw3, zw4, zw5, zw6, zp0, zp1, zp2, zp3, zp4, zp5, zp6, zn0, zn1, zn2, zn3, zn4, zn5, zn6, zc0, zc1, zc2, zc3, zc4, zc5, zc6⟩ := unhide SKT w' (hSw); go_simp)⟩) (unhide BD) ?_
            go_simp
            refine wpAnyH_take (i := 1) (oi := _) (v := (.agg #[.slice nta nT ntc, .slice noa nO noc, .slice nba nB nbc, .int .i64 n1, .int .i64 n2, .int .i64 n3, .int .i64 n4])) rfl (by kernel_rfl) (by kernel_rfl) (by kernel_rfl) (fun _ _ _ h => h) (Or.inl ⟨by rfl, (by intro w' hSw; obtain ⟨zs0, zs1, zs2, zs3, zs4, zs5, zs6, zw0, zw1, zw2, zw3, zw4, zw5, zw6, zp0, zp1, zp2, zp3, zp4, zp5, zp6, zn0, zn1, zn2, zn3, zn4, zn5, zn6, zc0, zc1, zc2, zc3, zc4, zc5, zc6⟩ := unhide SKT w' (hSw); go_simp)⟩) (unhide BD) ?_
            go_simp
            refine wpAnyH_ready (rs := [2]) (by kernel_rfl) (by simp) ?_
            refine AllReadyH.cons (o := _) rfl (fun K hK => ?_) AllReadyH.nil
            go_simp
            refine (unhide K1 D (unhide BD)).mono ?_
            rintro e w11 ⟨rfl, g1⟩
            have B11 := hide (bl_past (unhide BD) g1)
            clear g1
            refine hK.out _ _ (unhide B11) (fun _ => ?_)
            clear hK K
            go_simp
            refine wpAnyH_take (i := 3) (oi := _) (v := (.bool true)) rfl (by kernel_rfl) (by kernel_rfl) (by kernel_rfl) (fun _ _ _ h => h) (Or.inl ⟨by rfl, (by intro w' hSw; go_simp)⟩) (unhide B11) ?_
            go_simp
            refine wpAnyH_take (i := 4) (oi := _) (v := (.agg #[.slice pta mT ptc, .slice poa mO poc, .slice pba mB pbc, .int .i64 m1, .int .i64 m2, .int .i64 m3, .int .i64 m4])) rfl (by kernel_rfl) (by kernel_rfl) (by kernel_rfl) (fun _ _ _ h => h) (Or.inl ⟨by rfl, (by intro w' hSw; obtain ⟨zs0, zs1, zs2, zs3, zs4, zs5, zs6, zw0, zw1, zw2, zw3, zw4, zw5, zw6, zp0, zp1, zp2, zp3, zp4, zp5, zp6, zn0, zn1, zn2, zn3, zn4, zn5, zn6, zc0, zc1, zc2, zc3, zc4, zc5, zc6⟩ := unhide SKT w' (hSw); go_simp)⟩) (unhide B11) ?_
            go_simp
            refine wpAnyH_take (i := 5) (oi := _) (v := (.agg #[.slice wta mT wtc, .slice woa mO woc, .slice wba mB wbc, .int .i64 m1, .int .i64 m2, .int .i64 m3, .int .i64 m4])) rfl (by kernel_rfl) (by kernel_rfl) (by kernel_rfl) (fun _ _ _ h => h) (Or.inl ⟨by rfl, (by intro w' hSw; obtain ⟨zs0, zs1, zs2, zs3, zs4, zs5, zs6, zw0, zw1, zw2, zw3, zw4, zw5, zw6, zp0, zp1, zp2, zp3, zp4, zp5, zp6, zn0, zn1, zn2, zn3, zn4, zn5, zn6, zc0, zc1, zc2, zc3, zc4, zc5, zc6⟩ := unhide SKT w' (hSw); go_simp)⟩) (unhide B11) ?_
            go_simp
            refine wpAnyH_ready (rs := [6]) (by kernel_rfl) (by simp) ?_
            refine AllReadyH.cons (o := _) rfl (fun K hK => ?_) AllReadyH.nil
            go_simp
            refine (unhide H10a w11 ((unhide F10).trans (Fr.of_below (unhide B11)))).mono ?_
            rintro e w12 ⟨rfl, g1⟩
            have B12 := hide (bl_past (unhide B11) g1)
            clear g1
            refine hK.out _ _ (unhide B12) (fun _ => ?_)
            clear hK K
            go_simp
            refine wpAnyH_take (i := 7) (oi := _) (v := (.bool true)) rfl (by kernel_rfl) (by kernel_rfl) (by kernel_rfl) (fun _ _ _ h => h) (Or.inl ⟨by rfl, (by intro w' hSw; go_simp)⟩) (unhide B12) ?_
            go_simp
            refine wpAnyH_take (i := 8) (oi := _) (v := (.bool true)) rfl (by kernel_rfl) (by kernel_rfl) (by kernel_rfl) (fun _ _ _ h => h) (Or.inl ⟨by rfl, (by intro w' hSw; go_simp)⟩) (unhide B12) ?_
            go_simp
            refine wpAnyH_take (i := 9) (oi := _) (v := (.agg #[.slice ata aT atc, .slice aoa aO aoc, .slice aba aB abc, .int .i64 a1, .int .i64 a2, .int .i64 a3, .int .i64 a4])) rfl (by kernel_rfl) (by kernel_rfl) (by kernel_rfl) (fun _ _ _ h => h) (Or.inl ⟨by rfl, (by intro w' hSw; obtain ⟨zs0, zs1, zs2, zs3, zs4, zs5, zs6, zw0, zw1, zw2, zw3, zw4, zw5, zw6, zp0, zp1, zp2, zp3, zp4, zp5, zp6, zn0, zn1, zn2, zn3, zn4, zn5, zn6, zc0, zc1, zc2, zc3, zc4, zc5, zc6⟩ := unhide SKT w' (hSw); go_simp)⟩) (unhide B12) ?_
            go_simp
            refine wpAnyH_take (i := 11) (oi := _) (v := (.agg #[.slice wta mT wtc, .slice woa mO woc, .slice wba mB wbc, .int .i64 m1, .int .i64 m2, .int .i64 m3, .int .i64 m4])) rfl (by kernel_rfl) (by kernel_rfl) (by kernel_rfl) (fun _ _ _ h => h) (Or.inl ⟨by rfl, (by intro w' hSw; obtain ⟨zs0, zs1, zs2, zs3, zs4, zs5, zs6, zw0, zw1, zw2, zw3, zw4, zw5, zw6, zp0, zp1, zp2, zp3, zp4, zp5, zp6, zn0, zn1, zn2, zn3, zn4, zn5, zn6, zc0, zc1, zc2, zc3, zc4, zc5, zc6⟩ := unhide SKT w' (hSw); go_simp)⟩) (unhide B12) ?_
            go_simp
            refine wpAnyH_ready (rs := [10]) (by kernel_rfl) (by simp) ?_
            refine AllReadyH.cons (o := _) rfl (fun K hK => ?_) AllReadyH.nil
            go_simp
            refine (unhide H9s w12 (unhide HBW w12 ((unhide F10).trans (Fr.of_below (unhide B12))))).mono ?_
            rintro e w13 hq13
            obtain ⟨rv', rfl, hb13, hr13⟩ := hq13.rd
            obtain ⟨rta, rtc, roa, roc, rba, rbc, rfl, -, -, -, -, -, -, -, -, -⟩ := (hr13 (fun _ => False) w13 (Fr.refl _ _) (fun _ e => e.elim)).shape
            rw [unhide qmT, unhide qmO, unhide qmB, unhide qm1, unhide qm2, unhide qm3, unhide qm4] at hr13 ⊢
            have B13 := hide (bl_past (unhide B12) hb13)
            have HR13 : Hid (∀ W, Below w13.heap.size w13 W → StV W (.agg #[.slice rta mT rtc, .slice roa mO roc, .slice rba mB rbc, .int .i64 m1, .int .i64 m2, .int .i64 m3, .int .i64 m4]) (canD s)) := fun W hW => hr13 (fun _ => False) W (Fr.of_below hW) (fun _ e => e.elim)
            clear hq13 hb13 hr13
            refine hK.out _ _ (unhide B13) (fun _ => ?_)
            clear hK K
            go_simp
            refine wpAnyH_ready (rs := [12]) (by kernel_rfl) (by simp) ?_
            refine AllReadyH.cons (o := _) rfl (fun K hK => ?_) AllReadyH.nil
            have K4 := hide (smS_any (unhide HR13 w13 (Below.refl _ _)) (unhide rdW w13 ((unhide F10).trans (Fr.of_below (unhide B13)))) (unhide HCB))
            rw [Dc_true rfl] at K4
            go_simp
            refine (unhide K4).mono ?_
            rintro e w14 ⟨rfl, g1⟩
            have B14 := hide (bl_past (unhide B13) g1)
            clear g1 K4
            refine hK.out _ _ (unhide B14) (fun _ => ?_)
            clear hK K
            go_simp
            refine wpAnyH_ready (rs := [13]) (by kernel_rfl) (by simp) ?_
            refine AllReadyH.cons (o := _) rfl (fun K hK => ?_) AllReadyH.nil
            go_simp
            refine hK.out _ _ (unhide B14) (fun _ => ?_)
            clear hK K
            go_simp
            refine wpAnyH_ready (rs := [14]) (by kernel_rfl) (by simp) ?_
            refine AllReadyH.cons (o := _) rfl (fun K hK => ?_) AllReadyH.nil
            go_simp
            refine hK.out _ _ (unhide B14) (fun _ => ?_)
            clear hK K
            refine wpAnyH_done (by kernel_rfl) ?_ _
            go_wp2_with fail
            go_ret
            exact ⟨rfl, unhide HBW _ ((unhide F10).trans (Fr.of_below (unhide B14)))⟩
        · obtain ⟨s', xo', h1, h2, h3, h4, h5, h6, h7, h8, h9, h10⟩ := unhide hK
          have hst : StV wr (.agg #[.slice ita aT itc, .slice ioa aO ioc, .slice iba aB ibc, .int .i64 a1, .int .i64 a2, .int .i64 a3, .int .i64 a4]) s' := by
            have := h1.stv
            rw [h4, h5, h6, h7, unhide qa1, unhide qa2, unhide qa3, unhide qa4] at this
            exact this
          have HST := hide hst
          have HB' := hide h2
          have HI' := hide h3
          have HFR := hide h10
          have HCB' := hide (canD_B h2)
          obtain ⟨nT, qnT⟩ : ∃ n, Hid ((canD s').texts.length = n) := ⟨_, hide rfl⟩
          obtain ⟨nO, qnO⟩ : ∃ n, Hid ((canD s').objs.length = n) := ⟨_, hide rfl⟩
          obtain ⟨nB, qnB⟩ : ∃ n, Hid ((canD s').fibs.length = n) := ⟨_, hide rfl⟩
          obtain ⟨n1, qn1⟩ : ∃ n, Hid ((canD s').cur = n) := ⟨_, hide rfl⟩
          obtain ⟨n2, qn2⟩ : ∃ n, Hid ((canD s').steps = n) := ⟨_, hide rfl⟩
          obtain ⟨n3, qn3⟩ : ∃ n, Hid ((canD s').spent = n) := ⟨_, hide rfl⟩
          obtain ⟨n4, qn4⟩ : ∃ n, Hid ((canD s').read = n) := ⟨_, hide rfl⟩
          obtain ⟨vT, qvT⟩ : ∃ n, Hid (s'.texts.length = n) := ⟨_, hide rfl⟩
          obtain ⟨vO, qvO⟩ : ∃ n, Hid (s'.objs.length = n) := ⟨_, hide rfl⟩
          obtain ⟨vB, qvB⟩ : ∃ n, Hid (s'.fibs.length = n) := ⟨_, hide rfl⟩
          obtain ⟨v1, qv1⟩ : ∃ n, Hid (s'.cur = n) := ⟨_, hide rfl⟩
          obtain ⟨v2, qv2⟩ : ∃ n, Hid (s'.steps = n) := ⟨_, hide rfl⟩
          obtain ⟨v3, qv3⟩ : ∃ n, Hid (s'.spent = n) := ⟨_, hide rfl⟩
          obtain ⟨v4, qv4⟩ : ∃ n, Hid (s'.read = n) := ⟨_, hide rfl⟩
          have HC13 := hide (copyS_any hst h2)
          obtain ⟨zs0, zs1, zs2, zs3, zs4, zs5, zs6, zo0, zo1, zo2, zo3, zo4, zo5, zo6, zw0, zw1, zw2, zw3, zw4, zw5, zw6, zi0, zi1, zi2, zi3, zi4, zi5, zi6, zp0, zp1, zp2, zp3, zp4, zp5, zp6, zq0, zq1, zq2, zq3, zq4, zq5, zq6⟩ := unhide SK wr h10
          clear h1 h2 h3 h4 h5 h6 h7 h8 h9 h10 hst hK
          go_wp2_with fail
          refine (unhide HC13).mono ?_
          rintro e w8 hq8
          obtain ⟨cv, rfl, hcv, hb8⟩ := hq8.rd
          obtain ⟨kta, ktc, koa, koc, kba, kbc, rfl, -, -, -, -, -, -, -, -, -⟩ := hcv.shape
          have HC7 := hide (dCanon_any hcv (unhide HB'))
          rw [unhide qvT, unhide qvO, unhide qvB, unhide qv1, unhide qv2, unhide qv3, unhide qv4] at HC7 ⊢
          have HB8 := hide hb8
          clear hq8 hcv hb8 zs0 zs1 zs2 zs3 zs4 zs5 zs6 zo0 zo1 zo2 zo3 zo4 zo5 zo6 zw0 zw1 zw2 zw3 zw4 zw5 zw6 zi0 zi1 zi2 zi3 zi4 zi5 zi6 zp0 zp1 zp2 zp3 zp4 zp5 zp6 zq0 zq1 zq2 zq3 zq4 zq5 zq6
          go_wp2_with fail
          refine (unhide HC7).mono ?_
          rintro e w9 ⟨nv, rfl, hnv, hb9⟩
          obtain ⟨nta, ntc, noa, noc, nba, nbc, rfl, -, -, -, -, -, -, -, -, -⟩ := hnv.shape
          rw [unhide qnT, unhide qnO, unhide qnB, unhide qn1, unhide qn2, unhide qn3, unhide qn4] at hnv ⊢
          have HNV := hide hnv
          obtain ⟨P15, hP15⟩ : ∃ n, Hid (w9.heap.size = n) := ⟨_, hide rfl⟩
          obtain ⟨W9, hW9⟩ : ∃ W, Hid (w9.alloc (.cells #[.slice nta nT ntc, .slice noa nO noc, .slice nba nB nbc, .int .i64 n1, .int .i64 n2, .int .i64 n3, .int .i64 n4] 26) = W) := ⟨_, hide rfl⟩
          have f9 : Below w9.heap.size w9 W9 := by rw [← unhide hW9]; exact (Below.refl _ w9).alloc (Nat.le_refl _) _
          have n15 : W9.heap[P15]? = some (.cells #[.slice nta nT ntc, .slice noa nO noc, .slice nba nB nbc, .int .i64 n1, .int .i64 n2, .int .i64 n3, .int .i64 n4] 26) := by rw [← unhide hW9, ← unhide hP15]; exact heap_alloc_new w9 _
          have HN15 := hide n15
          have HF9 : Hid (Below w9.heap.size w9 W9) := f9
          have hbr9 : Below wr.heap.size wr W9 := bl_past (bl_past (unhide HB8) hb9) f9
          have F9 : Hid (Fr S W4 W9) := (unhide HFR).trans (Fr.of_below hbr9)
          have HC9n := hide (pCanon_any ((unhide HST).below hbr9 (Nat.le_refl _)) (unhide HB') (unhide HI'))
          obtain ⟨zs0, zs1, zs2, zs3, zs4, zs5, zs6, zo0, zo1, zo2, zo3, zo4, zo5, zo6, zw0, zw1, zw2, zw3, zw4, zw5, zw6, zi0, zi1, zi2, zi3, zi4, zi5, zi6, zp0, zp1, zp2, zp3, zp4, zp5, zp6, zq0, zq1, zq2, zq3, zq4, zq5, zq6⟩ := unhide SK W9 (unhide F9)
          clear hnv hb9 f9 n15 hbr9 HC7 HC13 zs0 zs1 zs2 zs3 zs4 zs5 zs6 zo0 zo1 zo2 zo3 zo4 zo5 zo6 zw0 zw1 zw2 zw3 zw4 zw5 zw6 zp0 zp1 zp2 zp3 zp4 zp5 zp6 zq0 zq1 zq2 zq3 zq4 zq5 zq6
          have l15 : P6 < W9.heap.size := World.block_lt_of_cell? _ _ zi0
          rw [← unhide hW9] at zi0 zi1 zi2 zi3 zi4 zi5 zi6 l15
          go_wp2_with fail
          rw [unhide hW9, unhide hP15]
          refine (unhide HC9n).mono ?_
          rintro e w10 hq10
          obtain ⟨cv, rfl, hb10, hr10⟩ := hq10.rd
          obtain ⟨cta, ctc, coa, coc, cba, cbc, rfl, -, -, -, -, -, -, -, -, -⟩ := (hr10 (fun _ => False) w10 (Fr.refl _ _) (fun _ e => e.elim)).shape
          rw [unhide qnT, unhide qnO, unhide qnB, unhide qn1, unhide qn2, unhide qn3, unhide qn4] at hr10 ⊢
          obtain ⟨P16, hP16⟩ : ∃ n, Hid (w10.heap.size = n) := ⟨_, hide rfl⟩
          obtain ⟨W10, hW10⟩ : ∃ W, Hid (w10.alloc (.cells #[.slice cta nT ctc, .slice coa nO coc, .slice cba nB cbc, .int .i64 n1, .int .i64 n2, .int .i64 n3, .int .i64 n4] 26) = W) := ⟨_, hide rfl⟩
          have f10 : Below w10.heap.size w10 W10 := by rw [← unhide hW10]; exact (Below.refl _ w10).alloc (Nat.le_refl _) _
          have n16 : W10.heap[P16]? = some (.cells #[.slice cta nT ctc, .slice coa nO coc, .slice cba nB cbc, .int .i64 n1, .int .i64 n2, .int .i64 n3, .int .i64 n4] 26) := by rw [← unhide hW10, ← unhide hP16]; exact heap_alloc_new w10 _
          have f910 : Below W9.heap.size W9 W10 := bl_past hb10 f10
          have F10 : Hid (Fr S W4 W10) := (unhide F9).trans (Fr.of_below f910)
          have rdC : Hid (∀ W, Below W10.heap.size W10 W → StV W (.agg #[.slice cta nT ctc, .slice coa nO coc, .slice cba nB cbc, .int .i64 n1, .int .i64 n2, .int .i64 n3, .int .i64 n4]) (canD s')) := fun W hW => hr10 (fun _ => False) W (Fr.of_below (bl_past f10 hW)) (fun _ e => e.elim)
          have rdN : Hid (∀ W, Below W10.heap.size W10 W → StV W (.agg #[.slice nta nT ntc, .slice noa nO noc, .slice nba nB nbc, .int .i64 n1, .int .i64 n2, .int .i64 n3, .int .i64 n4]) (canD s')) := fun W hW => (unhide HNV).below (bl_past (bl_past (unhide HF9) f910) hW) (Nat.le_refl _)
          have K1 : Hid (∀ W, Below W10.heap.size W10 W → Calls Try.prog 10 #[.agg #[.slice cta nT ctc, .slice coa nO coc, .slice cba nB cbc, .int .i64 n1, .int .i64 n2, .int .i64 n3, .int .i64 n4], .agg #[.slice nta nT ntc, .slice noa nO noc, .slice nba nB nbc, .int .i64 n1, .int .i64 n2, .int .i64 n3, .int .i64 n4]] W fun e w' => e = .returned (.bool true) ∧ Below W.heap.size W w') := fun W hW => by
            have := smS_any (unhide rdC W hW) (unhide rdN W hW) (unhide HCB')
            rw [Dc_true rfl] at this
            exact this
          have SKT : Hid (∀ W, Below W10.heap.size W10 W → W.cell? ⟨w.heap.size, 0, none⟩ = some (.slice ata aT atc) ∧ W.cell? ⟨w.heap.size, 1, none⟩ = some (.slice aoa aO aoc) ∧ W.cell? ⟨w.heap.size, 2, none⟩ = some (.slice aba aB abc) ∧ W.cell? ⟨w.heap.size, 3, none⟩ = some (.int .i64 a1) ∧ W.cell? ⟨w.heap.size, 4, none⟩ = some (.int .i64 a2) ∧ W.cell? ⟨w.heap.size, 5, none⟩ = some (.int .i64 a3) ∧ W.cell? ⟨w.heap.size, 6, none⟩ = some (.int .i64 a4) ∧ W.cell? ⟨P5, 0, none⟩ = some (.slice wta mT wtc) ∧ W.cell? ⟨P5, 1, none⟩ = some (.slice woa mO woc) ∧ W.cell? ⟨P5, 2, none⟩ = some (.slice wba mB wbc) ∧ W.cell? ⟨P5, 3, none⟩ = some (.int .i64 m1) ∧ W.cell? ⟨P5, 4, none⟩ = some (.int .i64 m2) ∧ W.cell? ⟨P5, 5, none⟩ = some (.int .i64 m3) ∧ W.cell? ⟨P5, 6, none⟩ = some (.int .i64 m4) ∧ W.cell? ⟨P8, 0, none⟩ = some (.slice pta mT ptc) ∧ W.cell? ⟨P8, 1, none⟩ = some (.slice poa mO poc) ∧ W.cell? ⟨P8, 2, none⟩ = some (.slice pba mB pbc) ∧ W.cell? ⟨P8, 3, none⟩ = some (.int .i64 m1) ∧ W.cell? ⟨P8, 4, none⟩ = some (.int .i64 m2) ∧ W.cell? ⟨P8, 5, none⟩ = some (.int .i64 m3) ∧ W.cell? ⟨P8, 6, none⟩ = some (.int .i64 m4) ∧ W.cell? ⟨P15, 0, none⟩ = some (.slice nta nT ntc) ∧ W.cell? ⟨P15, 1, none⟩ = some (.slice noa nO noc) ∧ W.cell? ⟨P15, 2, none⟩ = some (.slice nba nB nbc) ∧ W.cell? ⟨P15, 3, none⟩ = some (.int .i64 n1) ∧ W.cell? ⟨P15, 4, none⟩ = some (.int .i64 n2) ∧ W.cell? ⟨P15, 5, none⟩ = some (.int .i64 n3) ∧ W.cell? ⟨P15, 6, none⟩ = some (.int .i64 n4) ∧ W.cell? ⟨P16, 0, none⟩ = some (.slice cta nT ctc) ∧ W.cell? ⟨P16, 1, none⟩ = some (.slice coa nO coc) ∧ W.cell? ⟨P16, 2, none⟩ = some (.slice cba nB cbc) ∧ W.cell? ⟨P16, 3, none⟩ = some (.int .i64 n1) ∧ W.cell? ⟨P16, 4, none⟩ = some (.int .i64 n2) ∧ W.cell? ⟨P16, 5, none⟩ = some (.int .i64 n3) ∧ W.cell? ⟨P16, 6, none⟩ = some (.int .i64 n4)) := fun W hW => by
            obtain ⟨zs0, zs1, zs2, zs3, zs4, zs5, zs6, zo0, zo1, zo2, zo3, zo4, zo5, zo6, zw0, zw1, zw2, zw3, zw4, zw5, zw6, zi0, zi1, zi2, zi3, zi4, zi5, zi6, zp0, zp1, zp2, zp3, zp4, zp5, zp6, zq0, zq1, zq2, zq3, zq4, zq5, zq6⟩ := unhide SK W ((unhide F10).trans (Fr.of_below hW))
            have a1 := (blk_cells (bkeep1 (bkeep1 (unhide HN15) f910) hW)).1
            have a2 := (blk_cells (bkeep1 n16 hW)).1
            exact ⟨zs0, zs1, zs2, zs3, zs4, zs5, zs6, zw0, zw1, zw2, zw3, zw4, zw5, zw6, zp0, zp1, zp2, zp3, zp4, zp5, zp6, by rw [a1 0]; rfl, by rw [a1 1]; rfl, by rw [a1 2]; rfl, by rw [a1 3]; rfl, by rw [a1 4]; rfl, by rw [a1 5]; rfl, by rw [a1 6]; rfl, by rw [a2 0]; rfl, by rw [a2 1]; rfl, by rw [a2 2]; rfl, by rw [a2 3]; rfl, by rw [a2 4]; rfl, by rw [a2 5]; rfl, by rw [a2 6]; rfl⟩
          clear hq10 hb10 hr10 f10 n16 f910 HC9n zi0 zi1 zi2 zi3 zi4 zi5 zi6 HNV
          go_wp2_with fail
          rw [unhide hW10, unhide hP16]
          obtain ⟨D, hD⟩ : ∃ W, Hid (W10.drew = W) := ⟨_, hide rfl⟩
          have BD : Hid (Below W10.heap.size W10 D) := by rw [← unhide hD]; exact hide (bl_drew W10)
          refine wp_region_held_drew (S := fun W => Below W10.heap.size W10 W) (by kernel_rfl) (bl_drew W10) (fun hH => ?_)
          clear hH
          rw [unhide hD]
          refine wpAnyH_take (i := 0) (oi := _) (v := (.agg #[.slice cta nT ctc, .slice coa nO coc, .slice cba nB cbc, .int .i64 n1, .int .i64 n2, .int .i64 n3, .int .i64 n4])) rfl (by kernel_rfl) (by kernel_rfl) (by kernel_rfl) (fun _ _ _ h => h) (Or.inl ⟨by rfl, (by intro w' hSw; obtain ⟨zs0, zs1, zs2, zs3, zs4, zs5, zs6, zw0, zw1, zw2, zw3, zw4, zw5, zw6, zp0, zp1, zp2, zp3, zp4, zp5, zp6, zn0, zn1, zn2, zn3, zn4, zn5, zn6, zc0, zc1, zc2, zc3, zc4, zc5, zc6⟩ := unhide SKT w' (hSw); go_simp)⟩) (unhide BD) ?_
          go_simp
          refine wpAnyH_take (i := 1) (oi := _) (v := (.agg #[.slice nta nT ntc, .slice noa nO noc, .slice nba nB nbc, .int .i64 n1, .int .i64 n2, .int .i64 n3, .int .i64 n4])) rfl (by kernel_rfl) (by kernel_rfl) (by kernel_rfl) (fun _ _ _ h => h) (Or.inl ⟨by rfl, (by intro w' hSw; obtain ⟨zs0, zs1, zs2, zs3, zs4, zs5, zs6, zw0, zw1, zw2, zw3, zw4, zw5, zw6, zp0, zp1, zp2, zp3, zp4, zp5, zp6, zn0, zn1, zn2, zn3, zn4, zn5, zn6, zc0, zc1, zc2, zc3, zc4, zc5, zc6⟩ := unhide SKT w' (hSw); go_simp)⟩) (unhide BD) ?_
          go_simp
          refine wpAnyH_ready (rs := [2]) (by kernel_rfl) (by simp) ?_
          refine AllReadyH.cons (o := _) rfl (fun K hK => ?_) AllReadyH.nil
          go_simp
          refine (unhide K1 D (unhide BD)).mono ?_
          rintro e w11 ⟨rfl, g1⟩
          have B11 := hide (bl_past (unhide BD) g1)
          clear g1
          refine hK.out _ _ (unhide B11) (fun _ => ?_)
          clear hK K
          go_simp
          refine wpAnyH_take (i := 3) (oi := _) (v := (.bool true)) rfl (by kernel_rfl) (by kernel_rfl) (by kernel_rfl) (fun _ _ _ h => h) (Or.inl ⟨by rfl, (by intro w' hSw; go_simp)⟩) (unhide B11) ?_
          go_simp
          refine wpAnyH_take (i := 4) (oi := _) (v := (.agg #[.slice pta mT ptc, .slice poa mO poc, .slice pba mB pbc, .int .i64 m1, .int .i64 m2, .int .i64 m3, .int .i64 m4])) rfl (by kernel_rfl) (by kernel_rfl) (by kernel_rfl) (fun _ _ _ h => h) (Or.inl ⟨by rfl, (by intro w' hSw; obtain ⟨zs0, zs1, zs2, zs3, zs4, zs5, zs6, zw0, zw1, zw2, zw3, zw4, zw5, zw6, zp0, zp1, zp2, zp3, zp4, zp5, zp6, zn0, zn1, zn2, zn3, zn4, zn5, zn6, zc0, zc1, zc2, zc3, zc4, zc5, zc6⟩ := unhide SKT w' (hSw); go_simp)⟩) (unhide B11) ?_
          go_simp
          refine wpAnyH_take (i := 5) (oi := _) (v := (.agg #[.slice wta mT wtc, .slice woa mO woc, .slice wba mB wbc, .int .i64 m1, .int .i64 m2, .int .i64 m3, .int .i64 m4])) rfl (by kernel_rfl) (by kernel_rfl) (by kernel_rfl) (fun _ _ _ h => h) (Or.inl ⟨by rfl, (by intro w' hSw; obtain ⟨zs0, zs1, zs2, zs3, zs4, zs5, zs6, zw0, zw1, zw2, zw3, zw4, zw5, zw6, zp0, zp1, zp2, zp3, zp4, zp5, zp6, zn0, zn1, zn2, zn3, zn4, zn5, zn6, zc0, zc1, zc2, zc3, zc4, zc5, zc6⟩ := unhide SKT w' (hSw); go_simp)⟩) (unhide B11) ?_
          go_simp
          refine wpAnyH_ready (rs := [6]) (by kernel_rfl) (by simp) ?_
          refine AllReadyH.cons (o := _) rfl (fun K hK => ?_) AllReadyH.nil
          go_simp
          refine (unhide H10a w11 ((unhide F10).trans (Fr.of_below (unhide B11)))).mono ?_
          rintro e w12 ⟨rfl, g1⟩
          have B12 := hide (bl_past (unhide B11) g1)
          clear g1
          refine hK.out _ _ (unhide B12) (fun _ => ?_)
          clear hK K
          go_simp
          refine wpAnyH_take (i := 7) (oi := _) (v := (.bool true)) rfl (by kernel_rfl) (by kernel_rfl) (by kernel_rfl) (fun _ _ _ h => h) (Or.inl ⟨by rfl, (by intro w' hSw; go_simp)⟩) (unhide B12) ?_
          go_simp
          refine wpAnyH_take (i := 8) (oi := _) (v := (.bool true)) rfl (by kernel_rfl) (by kernel_rfl) (by kernel_rfl) (fun _ _ _ h => h) (Or.inl ⟨by rfl, (by intro w' hSw; go_simp)⟩) (unhide B12) ?_
          go_simp
          refine wpAnyH_take (i := 9) (oi := _) (v := (.agg #[.slice ata aT atc, .slice aoa aO aoc, .slice aba aB abc, .int .i64 a1, .int .i64 a2, .int .i64 a3, .int .i64 a4])) rfl (by kernel_rfl) (by kernel_rfl) (by kernel_rfl) (fun _ _ _ h => h) (Or.inl ⟨by rfl, (by intro w' hSw; obtain ⟨zs0, zs1, zs2, zs3, zs4, zs5, zs6, zw0, zw1, zw2, zw3, zw4, zw5, zw6, zp0, zp1, zp2, zp3, zp4, zp5, zp6, zn0, zn1, zn2, zn3, zn4, zn5, zn6, zc0, zc1, zc2, zc3, zc4, zc5, zc6⟩ := unhide SKT w' (hSw); go_simp)⟩) (unhide B12) ?_
          go_simp
          refine wpAnyH_take (i := 11) (oi := _) (v := (.agg #[.slice wta mT wtc, .slice woa mO woc, .slice wba mB wbc, .int .i64 m1, .int .i64 m2, .int .i64 m3, .int .i64 m4])) rfl (by kernel_rfl) (by kernel_rfl) (by kernel_rfl) (fun _ _ _ h => h) (Or.inl ⟨by rfl, (by intro w' hSw; obtain ⟨zs0, zs1, zs2, zs3, zs4, zs5, zs6, zw0, zw1, zw2, zw3, zw4, zw5, zw6, zp0, zp1, zp2, zp3, zp4, zp5, zp6, zn0, zn1, zn2, zn3, zn4, zn5, zn6, zc0, zc1, zc2, zc3, zc4, zc5, zc6⟩ := unhide SKT w' (hSw); go_simp)⟩) (unhide B12) ?_
          go_simp
          refine wpAnyH_ready (rs := [10]) (by kernel_rfl) (by simp) ?_
          refine AllReadyH.cons (o := _) rfl (fun K hK => ?_) AllReadyH.nil
          go_simp
          refine (unhide H9s w12 (unhide HBW w12 ((unhide F10).trans (Fr.of_below (unhide B12))))).mono ?_
          rintro e w13 hq13
          obtain ⟨rv', rfl, hb13, hr13⟩ := hq13.rd
          obtain ⟨rta, rtc, roa, roc, rba, rbc, rfl, -, -, -, -, -, -, -, -, -⟩ := (hr13 (fun _ => False) w13 (Fr.refl _ _) (fun _ e => e.elim)).shape
          rw [unhide qmT, unhide qmO, unhide qmB, unhide qm1, unhide qm2, unhide qm3, unhide qm4] at hr13 ⊢
          have B13 := hide (bl_past (unhide B12) hb13)
          have HR13 : Hid (∀ W, Below w13.heap.size w13 W → StV W (.agg #[.slice rta mT rtc, .slice roa mO roc, .slice rba mB rbc, .int .i64 m1, .int .i64 m2, .int .i64 m3, .int .i64 m4]) (canD s)) := fun W hW => hr13 (fun _ => False) W (Fr.of_below hW) (fun _ e => e.elim)
          clear hq13 hb13 hr13
          refine hK.out _ _ (unhide B13) (fun _ => ?_)
          clear hK K
          go_simp
          refine wpAnyH_ready (rs := [12]) (by kernel_rfl) (by simp) ?_
          refine AllReadyH.cons (o := _) rfl (fun K hK => ?_) AllReadyH.nil
          have K4 := hide (smS_any (unhide HR13 w13 (Below.refl _ _)) (unhide rdW w13 ((unhide F10).trans (Fr.of_below (unhide B13)))) (unhide HCB))
          rw [Dc_true rfl] at K4
          go_simp
          refine (unhide K4).mono ?_
          rintro e w14 ⟨rfl, g1⟩
          have B14 := hide (bl_past (unhide B13) g1)
          clear g1 K4
          refine hK.out _ _ (unhide B14) (fun _ => ?_)
          clear hK K
          go_simp
          refine wpAnyH_ready (rs := [13]) (by kernel_rfl) (by simp) ?_
          refine AllReadyH.cons (o := _) rfl (fun K hK => ?_) AllReadyH.nil
          go_simp
          refine hK.out _ _ (unhide B14) (fun _ => ?_)
          clear hK K
          go_simp
          refine wpAnyH_ready (rs := [14]) (by kernel_rfl) (by simp) ?_
          refine AllReadyH.cons (o := _) rfl (fun K hK => ?_) AllReadyH.nil
          go_simp
          refine hK.out _ _ (unhide B14) (fun _ => ?_)
          clear hK K
          refine wpAnyH_done (by kernel_rfl) ?_ _
          go_wp2_with fail
          go_ret
          exact ⟨rfl, unhide HBW _ ((unhide F10).trans (Fr.of_below (unhide B14)))⟩
end Go.Proofs.Ytadgiccfjppnfaa
