/-
  LiveMemory's law.
-/
import Derived.Test.YtiamoinhmkhaoaaAr0
import Derived.Test.YtiamoinhmkhaoaaRgC
import Derived.Test.YtiamoinhmkhaoaaSm3
import Derived.Test.YtiamoinhmkhaoaaAr2
import Derived.Test.YtiamoinhmkhaoaaRf
namespace Go.Proofs.Ytiamoinhmkhaoaa
open Go.RowKit
set_option linter.unusedVariables false
set_option linter.unusedSimpArgs false
theorem vT_len {w : World} {v : Value} {us : List RIn} {ts : List TI} {Z : Nat → Prop} (h : OW enT 8 InT blT Z w v us ts) : (vT ts).length = inW us := by
  have e : ts.map (fun t => (vI t).length) = us.map (fun x => 1 + x.ex.length) := by
    refine List.ext_getElem? (fun i => ?_)
    rw [List.getElem?_map, List.getElem?_map]
    by_cases hi : i < us.length
    · have hu : us[i]? = some us[i] := List.getElem?_eq_getElem hi
      have ht : ts[i]? = some (ts[i]'(by rw [h.len]; exact hi)) := List.getElem?_eq_getElem _
      have := (h.el i _ _ hu ht).len
      rw [hu, ht]
      simp only [Option.map_some, Option.some.injEq, vI, List.length_cons, List.length_map]
      omega
    · rw [show us[i]? = none from List.getElem?_eq_none (Nat.le_of_not_lt hi), show ts[i]? = none from List.getElem?_eq_none (by rw [h.len]; exact Nat.le_of_not_lt hi)]
      rfl
  rw [vT, List.length_flatMap, e]
  rfl
theorem vX_len {b : Nat} {w : World} {v : Value} {us : List Bk} {X : List TB} {Z : Nat → Prop} (h : OW enTB 3 (PB b) blB Z w v us X) : (vX X).length = bkW us ∧ (nX X).length = us.length := by
  have e : X.map (fun x => (vT x.2).length) = us.map (fun b => inW b.ins) := by
    refine List.ext_getElem? (fun i => ?_)
    rw [List.getElem?_map, List.getElem?_map]
    by_cases hi : i < us.length
    · have hu : us[i]? = some us[i] := List.getElem?_eq_getElem hi
      have ht : X[i]? = some (X[i]'(by rw [h.len]; exact hi)) := List.getElem?_eq_getElem _
      rw [hu, ht]
      simp only [Option.map_some, Option.some.injEq]
      exact vT_len (h.el i _ _ hu ht).ow
    · rw [show us[i]? = none from List.getElem?_eq_none (Nat.le_of_not_lt hi), show X[i]? = none from List.getElem?_eq_none (by rw [h.len]; exact Nat.le_of_not_lt hi)]
      rfl
  refine ⟨?_, by rw [nX, List.length_map, h.len]⟩
  rw [vX, List.length_flatMap, e]
  rfl
theorem inW_one (l : List RIn) (x : RIn) : inW (l ++ [x]) = inW l + (1 + x.ex.length) := by simp [inW]
theorem bkI_W (bl : List Bk) : bkI bl ≤ bkW bl := by
  have h1 : ∀ l : List RIn, l.length ≤ inW l := fun l => by
    induction l with
    | nil => simp
    | cons x r ih => simp only [inW, List.map_cons, List.sum_cons, List.length_cons] at ih ⊢; omega
  induction bl with
  | nil => simp [bkW, bkI]
  | cons b r ih =>
    have := h1 b.ins
    simp only [bkW, bkI, List.map_cons, List.sum_cons] at ih ⊢
    omega

set_option linter.unusedVariables false
set_option linter.unusedSimpArgs false
theorem Rd.all {D : Nat → Prop} {w : World} {sz : Nat} {v : Value} {n : Nat} {xs : List Value} (h : Rx w sz v n xs) (hD : ∀ k, D k) : Rd D w sz v n xs := ⟨h, fun _ k _ => hD k⟩
theorem NV.of_ow {T U R : Type} {en : T → List Value} {er : R → List Value} {sz : Nat} {P : World → U → T → Prop} {bl : T → Nat → Prop} {Z D : Nat → Prop} {Q : (Nat → Prop) → World → U → R → Prop} (g : T → R) (hg : ∀ t, en t = er (g t)) {w : World} {v : Value} {us : List U} {xs : List T} (h : OW en sz P bl Z w v us xs) (hD : ∀ k, D k) (hp : ∀ u x, P w u x → Q D w u (g x)) : NV er sz Q D w us v := by
  refine ⟨xs.map g, by rw [List.length_map]; exact h.len, Rd.all ?_ hD, fun i u r hu hr => ?_⟩
  · have e : flt er (xs.map g) = flt en xs := by
      simp only [flt, List.flatMap_map]
      congr 1
      funext t
      exact (hg t).symm
    rw [e]
    exact Rx.of_ro h.row
  · rw [List.getElem?_map] at hr
    cases hx : xs[i]? with
    | none => rw [hx] at hr; cases hr
    | some t =>
      rw [hx] at hr
      cases hr
      exact hp u t (h.el i u t hu hx)
def Tr : Nat → Prop := fun _ => True
theorem InsV.of_ow {Z : Nat → Prop} {w : World} {v : Value} {us : List RIn} {ts : List TI} (h : OW enT 8 InT blT Z w v us ts) : InsV Tr w us v :=
  NV.of_ow (D := Tr) Prod.fst (fun _ => rfl) h (fun _ => trivial) (fun u x hp => InP.mv.wide hp.inP (fun _ _ _ => trivial))
theorem BksV.of_ow {b : Nat} {Z : Nat → Prop} {w : World} {v : Value} {bl : List Bk} {Ts : List TB} (h : OW enTB 3 (PB b) blB Z w v bl Ts) : BksV Tr w bl v :=
  NV.of_ow (D := Tr) Prod.fst (fun _ => rfl) h (fun _ => trivial) (fun u x hp => ⟨hp.pc, InsV.of_ow hp.ow, Rd.all (Rx.of_ro hp.nx) (fun _ => trivial)⟩)

theorem BksV.bound {D : Nat → Prop} {w : World} {l : List Bk} {v : Value} (h : BksV D w l v) (n : Nat) (hn : w.heap.size ≤ n) : BksV (fun k => D k ∧ k < n) w l v :=
  BksV.mv _ _ (fun _ => False) _ _ _ _ h (Fr.refl _ w) (fun k hk e => ⟨fun q => q, e, by omega⟩)
theorem OkB.s {b : Bk} (h : OkB b) : OkS b := ⟨h.2.1, h.2.2.1, h.2.2.2⟩
theorem OkB.l {b : Bk} (h : OkB b) : OkL b := ⟨h.2.1, h.2.2.1, h.2.2.2⟩
theorem kepL_le (S : Rset) : ∀ l : List RIn, (kepL S l).length ≤ l.length ∧ inW (kepL S l) ≤ inW l
  | [] => ⟨Nat.le_refl _, Nat.le_refl _⟩
  | x :: l => by
    obtain ⟨h1, h2⟩ := kepL_le S l
    unfold kepL
    split
    · refine ⟨Nat.le_trans h1 (by simp), ?_⟩
      simp only [inW, List.map_cons, List.sum_cons] at h2 ⊢
      omega
    · refine ⟨by simp only [List.length_cons]; omega, ?_⟩
      simp only [inW, List.map_cons, List.sum_cons] at h2 ⊢
      omega
theorem OkB.kep {bl : List Bk} {b : Nat} {u : Bk} (h : OkB u) : OkB (kepB bl b u) := by
  obtain ⟨h1, h2, h3, h4⟩ := h
  exact ⟨fun x hx => h1 x (kepL_mem hx), Nat.le_trans (kepL_le _ u.ins).1 h2, h3, fun x hx => h4 x (kepL_mem hx)⟩
theorem kepC_ok {bl : List Bk} (h : ∀ b ∈ bl, OkB b) : ∀ b ∈ kepC bl, OkB b := fun b hb => by
  obtain ⟨i, hi, rfl⟩ := List.getElem_of_mem hb
  have hil : i < bl.length := by rw [kepC_len] at hi; exact hi
  have q := kepC_at (List.getElem?_eq_getElem hil)
  rw [List.getElem?_eq_getElem hi] at q
  rw [Option.some.inj q]
  exact (h _ (List.getElem_mem hil)).kep (bl := bl) (b := i)
theorem bkW_map : ∀ (bl : List Bk) (f : Nat → Bk → Bk), (∀ i b, inW (f i b).ins ≤ inW b.ins) → bkW (bl.mapIdx f) ≤ bkW bl
  | [], f, h => by simp [bkW]
  | b :: r, f, h => by
    have ih := bkW_map r (fun i => f (i + 1)) (fun i b => h (i + 1) b)
    have h0 := h 0 b
    rw [List.mapIdx_cons]
    simp only [bkW, List.map_cons, List.sum_cons] at ih ⊢
    omega
theorem kepC_W (bl : List Bk) : bkW (kepC bl) ≤ bkW bl := bkW_map bl _ (fun i b => (kepL_le _ b.ins).2)
theorem AnsC.at {w w' : World} {fn regs : Int} {bl : List Bk} {e : Ending} (h : AnsC w fn regs bl e w') : ∃ a c Ts, e = .returned (.agg #[.int .i64 fn, .int .i64 regs, .slice a bl.length c]) ∧ bl.length ≤ c ∧ c ≤ 9223372036854775807 ∧ Below w.heap.size w w' ∧ OW enTB 3 (PB 0) blB (fun k => w.heap.size ≤ k) w' (.slice a bl.length c) bl Ts := by
  obtain ⟨v, Ts, rfl, hb, ho⟩ := h
  obtain ⟨a, c, rfl, h1, h2⟩ := ho.row.shape
  exact ⟨a, c, Ts, rfl, h1, h2, hb, ho⟩
/-- Two codes in a row. -/
theorem twoC {WE WZ : World} {fn regs : Int} {a1 a2 : Option Addr} {c1 c2 L : Nat} {ul : List Bk} {T1 T2 : List TB} {B1 : Nat} {Z1 Z2 : Nat → Prop} (hxz : WZ.heap[WE.heap.size]? = some (.cells #[.int .i64 fn, .int .i64 regs, .slice a1 L c1, .int .i64 fn, .int .i64 regs, .slice a2 L c2] 24))
    (h1 : OW enTB 3 (PB 0) blB Z1 WZ (.slice a1 L c1) ul T1) (h2 : OW enTB 3 (PB 0) blB Z2 WZ (.slice a2 L c2) ul T2) (hb1 : ∀ q, ((Value.slice a1 L c1).ownBlock = some q ∨ ∃ x ∈ T1, blB x q) → q < B1) (hb2 : ∀ q, ((Value.slice a2 L c2).ownBlock = some q ∨ ∃ x ∈ T2, blB x q) → B1 ≤ q ∧ q < WE.heap.size) (hB : B1 ≤ WE.heap.size) :
    OWC (fun _ => True) WZ (.slice (some ⟨WE.heap.size, 0, none⟩) [((⟨fn, regs, .slice a1 L c1⟩ : CdR), T1), ((⟨fn, regs, .slice a2 L c2⟩ : CdR), T2)].length 2) [ul, ul] [((⟨fn, regs, .slice a1 L c1⟩ : CdR), T1), ((⟨fn, regs, .slice a2 L c2⟩ : CdR), T2)] := by
  have hbd1 : ∀ q, blCd ((⟨fn, regs, .slice a1 L c1⟩ : CdR), T1) q → q < B1 := fun q hq => hb1 q hq
  have hbd2 : ∀ q, blCd ((⟨fn, regs, .slice a2 L c2⟩ : CdR), T2) q → B1 ≤ q ∧ q < WE.heap.size := fun q hq => hb2 q hq
  have hsZ : WE.heap.size < WZ.heap.size := (blk_cells hxz).2.2
  refine ⟨rfl, ⟨rfl, .inr ⟨WE.heap.size, 0, 2, _, 24, rfl, hxz, Nat.le_refl _, by unfold maxLen; omega, Nat.le_refl _, fun j hj => ?_⟩⟩, fun _ _ => trivial, fun i u x hu hx => ?_, fun i x k hx hk => ?_, fun i j x y k hij hx hy hk hk2 => ?_⟩
  · match j, hj with
    | 0, _ => rfl
    | 1, _ => rfl
    | 2, _ => rfl
    | 3, _ => rfl
    | 4, _ => rfl
    | 5, _ => rfl
  · match i, hu, hx with
    | 0, hu, hx => simp at hu hx; subst hu hx; exact ⟨_, h1⟩
    | 1, hu, hx => simp at hu hx; subst hu hx; exact ⟨_, h2⟩
    | (n + 2), hu, hx => simp at hu
  · have h1 : k < WE.heap.size := by
      match i, hx with
      | 0, hx => simp at hx; subst hx; have := hbd1 k hk; omega
      | 1, hx => simp at hx; subst hx; exact (hbd2 k hk).2
      | (n + 2), hx => simp at hx
    refine ⟨trivial, by omega, fun e => ?_⟩
    have e' : WE.heap.size = k := by cases e; rfl
    omega
  · match i, j, hij, hx, hy with
    | 0, 0, hij, _, _ => exact hij rfl
    | 1, 1, hij, _, _ => exact hij rfl
    | 0, 1, _, hx, hy => simp at hx hy; subst hx hy; have := hbd1 k hk; have := hbd2 k hk2; omega
    | 1, 0, _, hx, hy => simp at hx hy; subst hx hy; have := hbd2 k hk; have := hbd1 k hk2; omega
    | (n + 2), _, _, hx, _ => simp at hx
    | 0, (n + 2), _, _, hy => simp at hy
    | 1, (n + 2), _, _, hy => simp at hy
theorem twoC_apart {WE WZ : World} {fn regs : Int} {a1 a2 : Option Addr} {c1 c2 L : Nat} {ul : List Bk} {T1 T2 : List TB} {B1 : Nat} {Z1 Z2 : Nat → Prop} (hxz : WZ.heap[WE.heap.size]? = some (.cells #[.int .i64 fn, .int .i64 regs, .slice a1 L c1, .int .i64 fn, .int .i64 regs, .slice a2 L c2] 24))
    (h1 : OW enTB 3 (PB 0) blB Z1 WZ (.slice a1 L c1) ul T1) (h2 : OW enTB 3 (PB 0) blB Z2 WZ (.slice a2 L c2) ul T2) (hb1 : ∀ q, ((Value.slice a1 L c1).ownBlock = some q ∨ ∃ x ∈ T1, blB x q) → q < B1) (hb2 : ∀ q, ((Value.slice a2 L c2).ownBlock = some q ∨ ∃ x ∈ T2, blB x q) → B1 ≤ q ∧ q < WE.heap.size) (hB : B1 ≤ WE.heap.size)
    (hO : ∀ b ∈ ul, OkB b) (hW : bkW ul ≤ 1048576) (hL : ul.length ≤ 1048576) :
    Calls Try.prog 12 #[.slice (some ⟨WE.heap.size, 0, none⟩) 2 2] WZ fun e w' => e = .returned (.bool true) ∧ Fr (fun q => WE.heap.size = q ∨ ∃ c ∈ [((⟨fn, regs, .slice a1 L c1⟩ : CdR), T1), ((⟨fn, regs, .slice a2 L c2⟩ : CdR), T2)], blCd c q) WZ w' := by
  have hvl1 := vX_len h1
  have hvl2 := vX_len h2
  refine apartRegs_any (twoC hxz h1 h2 hb1 hb2 hB) (fun u hu b hb => ?_) (by simp) ?_ ?_
  · have hb' : b ∈ ul := by
      simp at hu
      rw [hu] at hb
      exact hb
    obtain ⟨q1, q2, q3, q4⟩ := hO b hb'
    exact ⟨q3, fun x hx => ⟨(q4 x hx).1, (q4 x hx).2.2⟩⟩
  · simp only [vC, List.flatMap_cons, List.flatMap_nil, List.append_nil, List.length_append]
    omega
  · simp only [nC, List.flatMap_cons, List.flatMap_nil, List.append_nil, List.length_append]
    omega

set_option linter.unusedVariables false
set_option linter.unusedSimpArgs false

structure LmS (w : World) (cs : List (Nat × Array Value × TypeId)) (bl kl : List Bk) (B : Nat) (cv wv iv : Value) (V : World) : Prop where
  bx : BX w cs V
  c : BksV (fun k => k < B) V bl cv
  wt : BksV (fun k => k < B) V kl wv
  i : BksV (fun k => k < B) V bl iv
theorem LmS.on {w : World} {cs : List (Nat × Array Value × TypeId)} {bl kl : List Bk} {B : Nat} {cv wv iv : Value} {V V' : World} (h : LmS w cs bl kl B cv wv iv V) (b : Below V.heap.size V V') : LmS w cs bl kl B cv wv iv V' :=
  ⟨h.bx.go b, BksV.mv.bel h.c b, BksV.mv.bel h.wt b, BksV.mv.bel h.i b⟩
theorem LmS.fr {w : World} {cs : List (Nat × Array Value × TypeId)} {bl kl : List Bk} {B : Nat} {cv wv iv : Value} {V V' : World} {Q : Nat → Prop} (h : LmS w cs bl kl B cv wv iv V) (f : Fr Q V V') (hw : w.heap.size ≤ B) (hq : ∀ k, k < B → ¬ Q k) (hc : ∀ (i : Nat) (e : Nat × Array Value × TypeId), cs[i]? = some e → ¬ Q e.1) : LmS w cs bl kl B cv wv iv V' :=
  ⟨h.bx.fr f hc (fun b hb => hq b (by omega)), BksV.mv _ _ _ _ _ _ _ h.c f (fun k _ hk => ⟨hq k hk, hk⟩), BksV.mv _ _ _ _ _ _ _ h.wt f (fun k _ hk => ⟨hq k hk, hk⟩), BksV.mv _ _ _ _ _ _ _ h.i f (fun k _ hk => ⟨hq k hk, hk⟩)⟩
theorem BksV.lt {D : Nat → Prop} {w : World} {l : List Bk} {v : Value} (h : BksV D w l v) (n : Nat) (hn : w.heap.size ≤ n) : BksV (fun k => k < n) w l v :=
  BksV.mv _ _ (fun _ => False) _ _ _ _ h (Fr.refl _ w) (fun k hk e => ⟨fun q => q, by omega⟩)
set_option maxRecDepth 100000 in
set_option maxHeartbeats 12800000 in
theorem memLaw {w : World} {fn regs : Int} {bl : List Bk} {v : Value} (h : BksV (fun k => k < w.heap.size) w bl v) (hO : ∀ b ∈ bl, OkB b) (hN : bl.length ≤ 1048576) (hW : bkW bl ≤ 1048576) :
    Calls Try.prog 4 #[.agg #[.int .i64 fn, .int .i64 regs, v]] w fun e w' => e = .returned (.bool true) ∧ Below w.heap.size w w' := by
  obtain ⟨a, c, rfl, ha1, ha2⟩ := NV.shape h
  obtain ⟨L, hL⟩ : ∃ L, Hid (bl.length = L) := ⟨_, hide rfl⟩
  rw [unhide hL] at h hN ha1 ⊢
  have HLM : Hid ((kepC bl).length = L) := by unfold Hid; rw [kepC_len]; exact unhide hL
  have HOT : Hid (∀ b ∈ kepC bl, OkB b) := kepC_ok hO
  have HO := hide hO
  have HOL : Hid (∀ b ∈ bl, OkL b) := fun b hb => (hO b hb).l
  have HWB : Hid (bkW (kepC bl) ≤ 1048576) := Nat.le_trans (kepC_W bl) hW
  obtain ⟨W0, hW0⟩ : ∃ W0, Hid (w.alloc (.cells #[.int .i64 fn, .int .i64 regs, .slice a L c] 24) = W0) := ⟨_, hide rfl⟩
  have H0 := hide ((BX.nil w).add #[.int .i64 fn, .int .i64 regs, .slice a L c] 24)
  have HI := hide (BksV.mv.bel h (box1n w (.cells #[.int .i64 fn, .int .i64 regs, .slice a L c] 24)))
  rw [unhide hW0] at H0 HI
  have hW0' := unhide hW0
  have HC5 := hide (refRun_any (fn := fn) (regs := regs) (unhide HI) (unhide HOL) (by rw [unhide hL]; exact hN))
  unfold maxLen at ha2
  clear h hO hW
  have x0 := (unhide H0).ce 0 rfl 0
  have x1 := (unhide H0).ce 0 rfl 1
  have x2 := (unhide H0).ce 0 rfl 2
  have xl := (unhide H0).lt (i := 0) rfl
  simp at x0 x1 x2 xl
  go_enter Try.func4, Try.ntmps4
  go_wp2_with fail
  clear hW0' hW0 x0 x1 x2 xl
  refine (unhide HC5).mono ?_
  rintro e W1 hA
  obtain ⟨aw, cw, Tw, rfl, q1, q2, b1, ow⟩ := hA.at
  have kw := BksV.of_ow ow
  rw [unhide HLM] at kw q1 ow ⊢
  have H1 := hide (((unhide H0).go b1).add #[.int .i64 fn, .int .i64 regs, .slice aw L cw] 24)
  obtain ⟨W2, hW2⟩ : ∃ W2, Hid (W1.alloc (.cells #[.int .i64 fn, .int .i64 regs, .slice aw L cw] 24) = W2) := ⟨_, hide rfl⟩
  have b2 : Below W1.heap.size W1 W2 := by rw [← unhide hW2]; exact box1n W1 _
  have HKW := hide (BksV.lt (BksV.mv.bel kw b2) W2.heap.size (Nat.le_refl _))
  have HI2 := hide (BksV.mv.bel (BksV.mv.bel (unhide HI) b1) b2)
  rw [unhide hW2] at H1
  simp only [List.nil_append, List.cons_append] at H1
  have HC11 := hide (copyRegs_any (fn := fn) (regs := regs) (unhide HI2) (unhide HOL) (by rw [unhide hL]; exact hN))
  have x0 := (unhide H1).ce 0 rfl 0
  have x1 := (unhide H1).ce 0 rfl 1
  have x2 := (unhide H1).ce 0 rfl 2
  have xl := (unhide H1).lt (i := 0) rfl
  simp at x0 x1 x2 xl
  have hW2' := unhide hW2
  clear b1 b2 kw ow hA HI H0 HC5
  go_wp2_with fail
  refine (unhide HC11).mono ?_
  rintro e W3 hA
  obtain ⟨ai, ci, Ti, rfl, q3, q4, b3, oi⟩ := hA.at
  have ki := BksV.of_ow oi
  rw [unhide hL] at ki q3 oi ⊢
  clear HC11 x0 x1 x2 xl hW2' hW2
  have H3 := hide (((unhide H1).go b3).add #[.int .i64 fn, .int .i64 regs, .slice ai L ci] 24)
  obtain ⟨W4, hW4⟩ : ∃ W4, Hid (W3.alloc (.cells #[.int .i64 fn, .int .i64 regs, .slice ai L ci] 24) = W4) := ⟨_, hide rfl⟩
  have b4 : Below W3.heap.size W3 W4 := by rw [← unhide hW4]; exact box1n W3 _
  have hsw1 : w.heap.size < W4.heap.size ∧ W1.heap.size < W4.heap.size := by have h0 := (unhide H1).lt (i := 0) rfl; have h1 := (unhide H1).lt (i := 1) rfl; have h2 := b3.size; have h3 := b4.size; simp at h0 h1; omega
  have hsw : w.heap.size ≤ W4.heap.size := by omega
  have hs34 : W3.heap.size < W4.heap.size := by rw [← unhide hW4]; simp
  have HKW4 := hide (BksV.lt (BksV.mv.bel (unhide HKW) (bl_past b3 b4)) W4.heap.size (Nat.le_refl _))
  have HKI4 := hide (BksV.lt (BksV.mv.bel ki b4) W4.heap.size (Nat.le_refl _))
  have HI4 := hide (BksV.lt (BksV.mv.bel (unhide HI2) (bl_past b3 b4)) W4.heap.size (Nat.le_refl _))
  rw [unhide hW4] at H3
  simp only [List.nil_append, List.cons_append] at H3
  have HC7 := hide (run_any (fn := fn) (regs := regs) (unhide HKI4) (unhide HOL) (by rw [unhide hL]; exact hN))
  have x0 := (unhide H3).ce 2 rfl 0
  have x1 := (unhide H3).ce 2 rfl 1
  have x2 := (unhide H3).ce 2 rfl 2
  have xl := (unhide H3).lt (i := 2) rfl
  simp at x0 x1 x2 xl
  have hW4' := unhide hW4
  clear b3 b4 ki oi hA HI2 H1 HKW
  go_wp2_with fail
  refine (unhide HC7).mono ?_
  rintro e W5 hA
  obtain ⟨a1, c1, T1, rfl, q5, q6, b5, o1⟩ := hA.at
  rw [unhide HLM] at q5 o1 ⊢
  clear HC7 x0 x1 x2 xl hW4' hW4
  have H5 := hide (((unhide H3).go b5).add #[.int .i64 fn, .int .i64 regs, .slice a1 L c1] 24)
  obtain ⟨W6, hW6⟩ : ∃ W6, Hid (W5.alloc (.cells #[.int .i64 fn, .int .i64 regs, .slice a1 L c1] 24) = W6) := ⟨_, hide rfl⟩
  have b6 : Below W5.heap.size W5 W6 := by rw [← unhide hW6]; exact box1n W5 _
  have hs56 : W5.heap.size < W6.heap.size := by rw [← unhide hW6]; simp
  have hs45 := b5.size
  rw [unhide hW6] at H5
  simp only [List.nil_append, List.cons_append] at H5
  have bb : Below W4.heap.size W4 W6 := bl_past b5 b6
  have HKW6 := hide (BksV.mv.bel (unhide HKW4) bb)
  have HKI6 := hide (BksV.mv.bel (unhide HKI4) bb)
  have HI6 := hide (BksV.mv.bel (unhide HI4) bb)
  have HO1 := hide (o1.below (stayB 0) b6)
  have HT1 : Hid (∀ q, ((.slice a1 L c1 : Value).ownBlock = some q ∨ ∃ x ∈ T1, blB x q) → W4.heap.size ≤ q ∧ q < W5.heap.size) := fun q hq => o1.in hq
  have HC7 := hide (run_any (fn := fn) (regs := regs) (unhide HKI6) (unhide HOL) (by rw [unhide hL]; exact hN))
  have x0 := (unhide H5).ce 2 rfl 0
  have x1 := (unhide H5).ce 2 rfl 1
  have x2 := (unhide H5).ce 2 rfl 2
  have xl := (unhide H5).lt (i := 2) rfl
  simp at x0 x1 x2 xl
  have hW6' := unhide hW6
  clear b5 b6 bb o1 hA H3 HKW4 HKI4 HI4
  go_wp2_with fail
  refine (unhide HC7).mono ?_
  rintro e W7 hA
  obtain ⟨a2, c2, T2, rfl, q7, q8, b7, o2⟩ := hA.at
  rw [unhide HLM] at q7 o2 ⊢
  clear HC7 x0 x1 x2 xl hW6' hW6
  have H7 := hide (((unhide H5).go b7).add #[.int .i64 fn, .int .i64 regs, .slice a2 L c2] 24)
  obtain ⟨W8, hW8⟩ : ∃ W8, Hid (W7.alloc (.cells #[.int .i64 fn, .int .i64 regs, .slice a2 L c2] 24) = W8) := ⟨_, hide rfl⟩
  have b8 : Below W7.heap.size W7 W8 := by rw [← unhide hW8]; exact box1n W7 _
  have hs78 : W7.heap.size < W8.heap.size := by rw [← unhide hW8]; simp
  have hs67 := b7.size
  rw [unhide hW8] at H7
  simp only [List.nil_append, List.cons_append] at H7
  have bb : Below W6.heap.size W6 W8 := bl_past b7 b8
  have HO18 := hide ((unhide HO1).below (stayB 0) bb)
  have HO28 := hide (o2.below (stayB 0) b8)
  have HT2 : Hid (∀ q, ((.slice a2 L c2 : Value).ownBlock = some q ∨ ∃ x ∈ T2, blB x q) → W6.heap.size ≤ q ∧ q < W7.heap.size) := fun q hq => o2.in hq
  have HS8 : Hid (LmS w [(w.heap.size, #[.int .i64 fn, .int .i64 regs, .slice a L c], (24 : TypeId)), (W1.heap.size, #[.int .i64 fn, .int .i64 regs, .slice aw L cw], 24), (W3.heap.size, #[.int .i64 fn, .int .i64 regs, .slice ai L ci], 24), (W5.heap.size, #[.int .i64 fn, .int .i64 regs, .slice a1 L c1], 24), (W7.heap.size, #[.int .i64 fn, .int .i64 regs, .slice a2 L c2], 24)] bl (kepC bl) W4.heap.size (.slice a L c) (.slice aw L cw) (.slice ai L ci) W8) := ⟨unhide H7, BksV.mv.bel (unhide HI6) bb, BksV.mv.bel (unhide HKW6) bb, BksV.mv.bel (unhide HKI6) bb⟩
  have HC8 := hide (sameR_yes (fn := fn) (regs := regs) (BksV.of_ow (unhide HO18)) (unhide HS8).wt (by rw [unhide HLM]; exact hN) (fun b hb => (unhide HOT b hb).s))
  have x0 := (unhide H7).ce 3 rfl 0
  have x1 := (unhide H7).ce 3 rfl 1
  have x2 := (unhide H7).ce 3 rfl 2
  have xl := (unhide H7).lt (i := 3) rfl
  have y0 := (unhide H7).ce 1 rfl 0
  have y1 := (unhide H7).ce 1 rfl 1
  have y2 := (unhide H7).ce 1 rfl 2
  have yl := (unhide H7).lt (i := 1) rfl
  simp at x0 x1 x2 xl y0 y1 y2 yl
  have hW8' := unhide hW8
  clear b7 b8 bb o2 hA H5 HKW6 HKI6 HI6 HO1 H7
  go_wp2_with fail
  refine (unhide HC8).mono ?_
  rintro e W9 ⟨rfl, b9⟩
  clear HC8 x0 x1 x2 xl y0 y1 y2 yl hW8' hW8
  have HS9 := hide ((unhide HS8).on b9)
  have HO19 := hide ((unhide HO18).below (stayB 0) b9)
  have HO29 := hide ((unhide HO28).below (stayB 0) b9)
  have HX9 := hide (unhide HS9).bx
  have HC8 := hide (sameR_yes (fn := fn) (regs := regs) (BksV.of_ow (unhide HO29)) (unhide HS9).wt (by rw [unhide HLM]; exact hN) (fun b hb => (unhide HOT b hb).s))
  have x0 := (unhide HX9).ce 4 rfl 0
  have x1 := (unhide HX9).ce 4 rfl 1
  have x2 := (unhide HX9).ce 4 rfl 2
  have xl := (unhide HX9).lt (i := 4) rfl
  have y0 := (unhide HX9).ce 1 rfl 0
  have y1 := (unhide HX9).ce 1 rfl 1
  have y2 := (unhide HX9).ce 1 rfl 2
  have yl := (unhide HX9).lt (i := 1) rfl
  simp at x0 x1 x2 xl y0 y1 y2 yl
  have hs89 := b9.size
  clear b9 HS8 HO18 HO28
  go_wp2_with fail
  refine (unhide HC8).mono ?_
  rintro e WA ⟨rfl, bA⟩
  clear HC8 x0 x1 x2 xl y0 y1 y2 yl HX9
  have HSA := hide ((unhide HS9).on bA)
  have HO1A := hide ((unhide HO19).below (stayB 0) bA)
  have HO2A := hide ((unhide HO29).below (stayB 0) bA)
  have hs9A := bA.size
  clear bA HS9 HO19 HO29
  go_wp2_with fail
  have HSD : Hid (LmS w _ bl (kepC bl) W4.heap.size (.slice a L c) (.slice aw L cw) (.slice ai L ci) WA.drew) := hide ((unhide HSA).on (bl_drew WA))
  have HO1D := hide ((unhide HO1A).below (stayB 0) (bl_drew WA))
  have HO2D := hide ((unhide HO2A).below (stayB 0) (bl_drew WA))
  have hsD : WA.heap.size = WA.drew.heap.size := rfl
  refine wp_region_held_drew (S := LmS w [(w.heap.size, #[.int .i64 fn, .int .i64 regs, .slice a L c], (24 : TypeId)), (W1.heap.size, #[.int .i64 fn, .int .i64 regs, .slice aw L cw], 24), (W3.heap.size, #[.int .i64 fn, .int .i64 regs, .slice ai L ci], 24), (W5.heap.size, #[.int .i64 fn, .int .i64 regs, .slice a1 L c1], 24), (W7.heap.size, #[.int .i64 fn, .int .i64 regs, .slice a2 L c2], 24)] bl (kepC bl) W4.heap.size (.slice a L c) (.slice aw L cw) (.slice ai L ci)) (by kernel_rfl) (unhide HSD) (fun hHeld => ?_)
  clear hHeld HSA HO1A HO2A
  obtain ⟨WE, hWE⟩ : ∃ WE, Hid (WA.drew = WE) := ⟨_, hide rfl⟩
  rw [unhide hWE] at HSD HO1D HO2D hsD ⊢
  clear hWE
  refine wpAnyH_take (i := 0) (oi := _) (v := .agg #[.int .i64 fn, .int .i64 regs, .slice a1 L c1]) rfl (by kernel_rfl) (by kernel_rfl) (by kernel_rfl) (fun _ _ _ h => h) (Or.inl ⟨by rfl, (by intro w' hSw; have z0 := hSw.bx.ce 3 rfl 0; have z1 := hSw.bx.ce 3 rfl 1; have z2 := hSw.bx.ce 3 rfl 2; have zl := hSw.bx.lt (i := 3) rfl; simp at z0 z1 z2 zl; go_simp; first | done | rfl)⟩) (unhide HSD) ?_
  go_simp
  refine wpAnyH_take (i := 1) (oi := _) (v := .agg #[.int .i64 fn, .int .i64 regs, .slice a2 L c2]) rfl (by kernel_rfl) (by kernel_rfl) (by kernel_rfl) (fun _ _ _ h => h) (Or.inl ⟨by rfl, (by intro w' hSw; have z0 := hSw.bx.ce 4 rfl 0; have z1 := hSw.bx.ce 4 rfl 1; have z2 := hSw.bx.ce 4 rfl 2; have zl := hSw.bx.lt (i := 4) rfl; simp at z0 z1 z2 zl; go_simp; first | done | rfl)⟩) (unhide HSD) ?_
  go_simp
  refine wpAnyH_ready (rs := [2]) (by kernel_rfl) (by simp) ?_
  refine AllReadyH.cons (o := _) rfl (fun K hK => ?_) AllReadyH.nil
  go_simp
  obtain ⟨WZ, hWZ⟩ : ∃ WZ, Hid (WE.alloc (.cells #[.int .i64 fn, .int .i64 regs, .slice a1 L c1, .int .i64 fn, .int .i64 regs, .slice a2 L c2] 24) = WZ) := ⟨_, hide rfl⟩
  have bZ : Below WE.heap.size WE WZ := by rw [← unhide hWZ]; exact box1n WE _
  have hxz : WZ.heap[WE.heap.size]? = some (.cells #[.int .i64 fn, .int .i64 regs, .slice a1 L c1, .int .i64 fn, .int .i64 regs, .slice a2 L c2] 24) := by rw [← unhide hWZ]; exact heap_alloc_new WE _
  have HC12 := hide (twoC_apart hxz ((unhide HO1D).below (stayB 0) bZ) ((unhide HO2D).below (stayB 0) bZ) (fun q hq => (unhide HT1 q hq).2) (fun q hq => by have := unhide HT2 q hq; omega) (by omega) (unhide HOT) (unhide HWB) (by rw [unhide HLM]; exact hN))
  have HSZ := hide ((unhide HSD).on bZ)
  rw [unhide hWZ]
  refine hK.out _ _ (unhide HSZ) (fun hHeld => ?_)
  clear hHeld hK K hxz hWZ
  refine wpAnyH_ready (rs := [3]) (by kernel_rfl) (by simp) ?_
  refine AllReadyH.cons (o := _) rfl (fun K hK => ?_) AllReadyH.nil
  go_simp
  refine (unhide HC12).mono ?_
  rintro e WF ⟨rfl, fF⟩
  have HSF : Hid (LmS w [(w.heap.size, #[.int .i64 fn, .int .i64 regs, .slice a L c], (24 : TypeId)), (W1.heap.size, #[.int .i64 fn, .int .i64 regs, .slice aw L cw], 24), (W3.heap.size, #[.int .i64 fn, .int .i64 regs, .slice ai L ci], 24), (W5.heap.size, #[.int .i64 fn, .int .i64 regs, .slice a1 L c1], 24), (W7.heap.size, #[.int .i64 fn, .int .i64 regs, .slice a2 L c2], 24)] bl (kepC bl) W4.heap.size (.slice a L c) (.slice aw L cw) (.slice ai L ci) WF) := by
    have ht1 := unhide HT1
    have ht2 := unhide HT2
    have hno : ∀ k, (WE.heap.size = k ∨ ∃ c ∈ [((⟨fn, regs, .slice a1 L c1⟩ : CdR), T1), ((⟨fn, regs, .slice a2 L c2⟩ : CdR), T2)], blCd c k) → (W4.heap.size ≤ k ∧ k < W5.heap.size) ∨ (W6.heap.size ≤ k ∧ k < W7.heap.size) ∨ k = WE.heap.size := fun k hk => by
      rcases hk with e | ⟨c, hc, e⟩
      · exact .inr (.inr e.symm)
      · simp at hc
        rcases hc with rfl | rfl
        · exact .inl (ht1 k e)
        · exact .inr (.inl (ht2 k e))
    refine (unhide HSZ).fr fF hsw (fun k hk e => ?_) (fun i e he q => ?_)
    · rcases hno k e with r | r | r <;> omega
    · have h1 := hno _ q
      match i, he with
      | 0, he => simp at he; subst he; simp only at h1; omega
      | 1, he => simp at he; subst he; simp only at h1; omega
      | 2, he => simp at he; subst he; simp only at h1; omega
      | 3, he => simp at he; subst he; simp only at h1; omega
      | 4, he => simp at he; subst he; simp only at h1; omega
      | (n + 5), he => simp at he
  clear fF HC12 HSZ bZ HO1D HO2D
  refine hK.out _ _ (unhide HSF) (fun hHeld => ?_)
  clear hHeld hK K
  refine wpAnyH_take (i := 4) (oi := _) (v := .bool true) rfl (by kernel_rfl) (by kernel_rfl) (by kernel_rfl) (fun _ _ _ h => h) (Or.inl ⟨by rfl, (by intro w' hSw; go_simp; first | done | rfl)⟩) (unhide HSF) ?_
  go_simp
  refine wpAnyH_take (i := 5) (oi := _) (v := .agg #[.int .i64 fn, .int .i64 regs, .slice ai L ci]) rfl (by kernel_rfl) (by kernel_rfl) (by kernel_rfl) (fun _ _ _ h => h) (Or.inl ⟨by rfl, (by intro w' hSw; have z0 := hSw.bx.ce 2 rfl 0; have z1 := hSw.bx.ce 2 rfl 1; have z2 := hSw.bx.ce 2 rfl 2; have zl := hSw.bx.lt (i := 2) rfl; simp at z0 z1 z2 zl; go_simp; first | done | rfl)⟩) (unhide HSF) ?_
  go_simp
  refine wpAnyH_take (i := 6) (oi := _) (v := .agg #[.int .i64 fn, .int .i64 regs, .slice a L c]) rfl (by kernel_rfl) (by kernel_rfl) (by kernel_rfl) (fun _ _ _ h => h) (Or.inl ⟨by rfl, (by intro w' hSw; have z0 := hSw.bx.ce 0 rfl 0; have z1 := hSw.bx.ce 0 rfl 1; have z2 := hSw.bx.ce 0 rfl 2; have zl := hSw.bx.lt (i := 0) rfl; simp at z0 z1 z2 zl; go_simp; first | done | rfl)⟩) (unhide HSF) ?_
  go_simp
  have HC8 := hide (sameR_yes (fn := fn) (regs := regs) (unhide HSF).i (unhide HSF).c (by rw [unhide hL]; exact hN) (fun b hb => (unhide HO b hb).s))
  refine wpAnyH_ready (rs := [7]) (by kernel_rfl) (by simp) ?_
  refine AllReadyH.cons (o := _) rfl (fun K hK => ?_) AllReadyH.nil
  go_simp
  refine (unhide HC8).mono ?_
  rintro e WG ⟨rfl, bG⟩
  have HSG := hide ((unhide HSF).on bG)
  refine hK.out _ _ (unhide HSG) (fun hHeld => ?_)
  clear hHeld hK K bG HC8 HSF
  refine wpAnyH_take (i := 8) (oi := _) (v := .bool true) rfl (by kernel_rfl) (by kernel_rfl) (by kernel_rfl) (fun _ _ _ h => h) (Or.inl ⟨by rfl, (by intro w' hSw; go_simp; first | done | rfl)⟩) (unhide HSG) ?_
  go_simp
  refine wpAnyH_take (i := 9) (oi := _) (v := .bool true) rfl (by kernel_rfl) (by kernel_rfl) (by kernel_rfl) (fun _ _ _ h => h) (Or.inl ⟨by rfl, (by intro w' hSw; go_simp; first | done | rfl)⟩) (unhide HSG) ?_
  go_simp
  refine wpAnyH_take (i := 10) (oi := _) (v := .agg #[.int .i64 fn, .int .i64 regs, .slice ai L ci]) rfl (by kernel_rfl) (by kernel_rfl) (by kernel_rfl) (fun _ _ _ h => h) (Or.inl ⟨by rfl, (by intro w' hSw; have z0 := hSw.bx.ce 2 rfl 0; have z1 := hSw.bx.ce 2 rfl 1; have z2 := hSw.bx.ce 2 rfl 2; have zl := hSw.bx.lt (i := 2) rfl; simp at z0 z1 z2 zl; go_simp; first | done | rfl)⟩) (unhide HSG) ?_
  go_simp
  refine wpAnyH_take (i := 12) (oi := _) (v := .agg #[.int .i64 fn, .int .i64 regs, .slice aw L cw]) rfl (by kernel_rfl) (by kernel_rfl) (by kernel_rfl) (fun _ _ _ h => h) (Or.inl ⟨by rfl, (by intro w' hSw; have z0 := hSw.bx.ce 1 rfl 0; have z1 := hSw.bx.ce 1 rfl 1; have z2 := hSw.bx.ce 1 rfl 2; have zl := hSw.bx.lt (i := 1) rfl; simp at z0 z1 z2 zl; go_simp; first | done | rfl)⟩) (unhide HSG) ?_
  go_simp
  have HC7 := hide (run_any (fn := fn) (regs := regs) (unhide HSG).i (unhide HOL) (by rw [unhide hL]; exact hN))
  refine wpAnyH_ready (rs := [11]) (by kernel_rfl) (by simp) ?_
  refine AllReadyH.cons (o := _) rfl (fun K hK => ?_) AllReadyH.nil
  go_simp
  refine (unhide HC7).mono ?_
  rintro e WH hA
  obtain ⟨a3, c3, T3, rfl, q9, qa, bH, o3⟩ := hA.at
  rw [unhide HLM] at q9 o3 ⊢
  have HSH := hide ((unhide HSG).on bH)
  have HC8 := hide (sameR_yes (fn := fn) (regs := regs) (BksV.of_ow o3) (unhide HSH).wt (by rw [unhide HLM]; exact hN) (fun b hb => (unhide HOT b hb).s))
  refine hK.out _ _ (unhide HSH) (fun hHeld => ?_)
  clear hHeld hK K bH HC7 HSG hA o3
  refine wpAnyH_ready (rs := [13]) (by kernel_rfl) (by simp) ?_
  refine AllReadyH.cons (o := _) rfl (fun K hK => ?_) AllReadyH.nil
  go_simp
  refine (unhide HC8).mono ?_
  rintro e WI ⟨rfl, bI⟩
  have HSI := hide ((unhide HSH).on bI)
  refine hK.out _ _ (unhide HSI) (fun hHeld => ?_)
  clear hHeld hK K bI HC8 HSH
  refine wpAnyH_take (i := 14) (oi := _) (v := .bool true) rfl (by kernel_rfl) (by kernel_rfl) (by kernel_rfl) (fun _ _ _ h => h) (Or.inl ⟨by rfl, (by intro w' hSw; go_simp; first | done | rfl)⟩) (unhide HSI) ?_
  go_simp
  refine wpAnyH_take (i := 15) (oi := _) (v := .bool true) rfl (by kernel_rfl) (by kernel_rfl) (by kernel_rfl) (fun _ _ _ h => h) (Or.inl ⟨by rfl, (by intro w' hSw; go_simp; first | done | rfl)⟩) (unhide HSI) ?_
  go_simp
  refine wpAnyH_done (by kernel_rfl) ?_ _
  have HFF := hide (unhide HSI).bx.b
  clear HSI HSD
  go_wp2_with fail
  go_ret
  exact ⟨rfl, unhide HFF⟩
end Go.Proofs.Ytiamoinhmkhaoaa
