/-
  Codes and rows of numbers that were answered, as they are read.
-/
import Derived.Test.YtpbdmbmafjkinaaDoorAf
import Derived.Test.YtpbdmbmafjkinaaDoorSm3
import Derived.Test.YtpbdmbmafjkinaaDoorRgC
namespace Go.Proofs.YtpbdmbmafjkinaaDoor
open Go.RowKit
set_option linter.unusedVariables false
set_option linter.unusedSimpArgs false
theorem Rd.all {D : Nat → Prop} {w : World} {sz : Nat} {v : Value} {n : Nat} {xs : List Value} (h : Rx w sz v n xs) (hD : ∀ k, D k) : Rd D w sz v n xs := ⟨h, fun _ k _ => hD k⟩
theorem NV.of_ow {T U R : Type} {en : T → List Value} {er : R → List Value} {sz : Nat} {P : World → U → T → Prop} {bl : T → Nat → Prop} {Z D : Nat → Prop} {Q : (Nat → Prop) → World → U → R → Prop} (g : T → R) (hg : ∀ t, en t = er (g t)) {w : World} {v : Value} {us : List U} {xs : List T} (h : OW en sz P bl Z w v us xs) (hD : ∀ k, D k) (hp : ∀ u x, P w u x → Q D w u (g x)) : NV er sz Q D w us v := by
  refine ⟨xs.map g, by rw [List.length_map]; exact h.len, Rd.all ?_ hD, fun i u r hu hr => ?_⟩
  · have e : flt er (xs.map g) = flt en xs := by
      simp only [flt, List.flatMap_map]
      congr 1
      funext t
      exact (hg t).symm
    rw [e]
    exact Rx.of_ro h.row
  · rw [List.getElem?_map] at hr
    cases hx : xs[i]? with
    | none => rw [hx] at hr; cases hr
    | some t =>
      rw [hx] at hr
      cases hr
      exact hp u t (h.el i u t hu hx)
def Tr : Nat → Prop := fun _ => True
theorem InsV.of_ow {Z : Nat → Prop} {w : World} {v : Value} {us : List RIn} {ts : List TI} (h : OW enT 8 InT blT Z w v us ts) : InsV Tr w us v :=
  NV.of_ow (D := Tr) Prod.fst (fun _ => rfl) h (fun _ => trivial) (fun u x hp => InP.mv.wide hp.inP (fun _ _ _ => trivial))
theorem BksV.of_ow {b : Nat} {Z : Nat → Prop} {w : World} {v : Value} {bl : List Bk} {Ts : List TB} (h : OW enTB 3 (PB b) blB Z w v bl Ts) : BksV Tr w bl v :=
  NV.of_ow (D := Tr) Prod.fst (fun _ => rfl) h (fun _ => trivial) (fun u x hp => ⟨hp.pc, InsV.of_ow hp.ow, Rd.all (Rx.of_ro hp.nx) (fun _ => trivial)⟩)

theorem BksV.bound {D : Nat → Prop} {w : World} {l : List Bk} {v : Value} (h : BksV D w l v) (n : Nat) (hn : w.heap.size ≤ n) : BksV (fun k => D k ∧ k < n) w l v :=
  BksV.mv _ _ (fun _ => False) _ _ _ _ h (Fr.refl _ w) (fun k hk e => ⟨fun q => q, e, by omega⟩)
theorem OkB.s {b : Bk} (h : OkB b) : OkS b := ⟨h.2.1, h.2.2.1, h.2.2.2⟩
theorem OkB.l {b : Bk} (h : OkB b) : OkL b := ⟨h.2.1, h.2.2.1, h.2.2.2⟩
theorem kepL_le (S : Rset) : ∀ l : List RIn, (kepL S l).length ≤ l.length ∧ inW (kepL S l) ≤ inW l
  | [] => ⟨Nat.le_refl _, Nat.le_refl _⟩
  | x :: l => by
    obtain ⟨h1, h2⟩ := kepL_le S l
    unfold kepL
    split
    · refine ⟨Nat.le_trans h1 (by simp), ?_⟩
      simp only [inW, List.map_cons, List.sum_cons] at h2 ⊢
      omega
    · refine ⟨by simp only [List.length_cons]; omega, ?_⟩
      simp only [inW, List.map_cons, List.sum_cons] at h2 ⊢
      omega
theorem OkB.kep {bl : List Bk} {b : Nat} {u : Bk} (h : OkB u) : OkB (kepB bl b u) := by
  obtain ⟨h1, h2, h3, h4⟩ := h
  exact ⟨fun x hx => h1 x (kepL_mem hx), Nat.le_trans (kepL_le _ u.ins).1 h2, h3, fun x hx => h4 x (kepL_mem hx)⟩
theorem kepC_ok {bl : List Bk} (h : ∀ b ∈ bl, OkB b) : ∀ b ∈ kepC bl, OkB b := fun b hb => by
  obtain ⟨i, hi, rfl⟩ := List.getElem_of_mem hb
  have hil : i < bl.length := by rw [kepC_len] at hi; exact hi
  have q := kepC_at (List.getElem?_eq_getElem hil)
  rw [List.getElem?_eq_getElem hi] at q
  rw [Option.some.inj q]
  exact (h _ (List.getElem_mem hil)).kep (bl := bl) (b := i)
theorem bkW_map : ∀ (bl : List Bk) (f : Nat → Bk → Bk), (∀ i b, inW (f i b).ins ≤ inW b.ins) → bkW (bl.mapIdx f) ≤ bkW bl
  | [], f, h => by simp [bkW]
  | b :: r, f, h => by
    have ih := bkW_map r (fun i => f (i + 1)) (fun i b => h (i + 1) b)
    have h0 := h 0 b
    rw [List.mapIdx_cons]
    simp only [bkW, List.map_cons, List.sum_cons] at ih ⊢
    omega
theorem kepC_W (bl : List Bk) : bkW (kepC bl) ≤ bkW bl := bkW_map bl _ (fun i b => (kepL_le _ b.ins).2)
theorem AnsC.at {w w' : World} {fn regs : Int} {bl : List Bk} {e : Ending} (h : AnsC w fn regs bl e w') : ∃ a c Ts, e = .returned (.agg #[.int .i64 fn, .int .i64 regs, .slice a bl.length c]) ∧ bl.length ≤ c ∧ c ≤ 9223372036854775807 ∧ Below w.heap.size w w' ∧ OW enTB 3 (PB 0) blB (fun k => w.heap.size ≤ k) w' (.slice a bl.length c) bl Ts := by
  obtain ⟨v, Ts, rfl, hb, ho⟩ := h
  obtain ⟨a, c, rfl, h1, h2⟩ := ho.row.shape
  exact ⟨a, c, Ts, rfl, h1, h2, hb, ho⟩
def toI (l : List Nat) : List Int := l.map (fun n : Nat => (n : Int))
theorem toI_len (l : List Nat) : (toI l).length = l.length := by unfold toI; rw [List.length_map]
theorem flt_toI (l : List Nat) : flt enN l = flt enI (toI l) := by
  unfold toI
  induction l with
  | nil => rfl
  | cons p r ih => simp only [flt, List.flatMap_cons, List.map_cons] at ih ⊢; rw [ih]; rfl
theorem sameN_yes {w : World} {av bv : Value} {l : List Nat} (ha : Ro w 1 av l.length (flt enN l)) (hb : Ro w 1 bv l.length (flt enN l)) (hN : l.length ≤ 8796093021952) :
    Calls Tryd.prog 10 #[av, bv] w fun e w' => e = .returned (.bool true) ∧ Below w.heap.size w w' := by
  refine sameI_yes (l := toI l) ?_ ?_ (by rw [toI_len]; exact hN)
  · rw [toI_len, ← flt_toI]; exact Rx.of_ro ha
  · rw [toI_len, ← flt_toI]; exact Rx.of_ro hb
theorem NR.lt {X1 X : World} {v : Value} {l : List Nat} (h : NR X1 v l X) {k : Nat} (hk : v.ownBlock = some k) : k < X.heap.size := h.row.lt k hk
theorem NR.row2 {X1 X : World} {v : Value} {l : List Nat} (h : NR X1 v l X) : ∃ Q : List Int, Q.length = l.length ∧ Ro X 1 v l.length (flt enI Q) := ⟨toI l, toI_len l, by rw [← flt_toI]; exact h.row⟩
end Go.Proofs.YtpbdmbmafjkinaaDoor
