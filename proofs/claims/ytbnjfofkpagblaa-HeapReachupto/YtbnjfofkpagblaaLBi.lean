/-
  What is handed to both Loads: rooms, and objects over them.
-/
import Derived.Test.YtbnjfofkpagblaaLAl
namespace Go.Proofs.Ytbnjfofkpagblaa
open Go.RowKit
set_option linter.unusedVariables false
set_option linter.unusedSimpArgs false
theorem OW.push' {T U : Type} {en : T → List Value} {sz : Nat} {P : World → U → T → Prop} {bl : T → Nat → Prop} {Z : Nat → Prop} {w1 Wa w2 : World} {v v' : Value} {us : List U} {xs : List T} {u : U} {x : T} {m : Nat} (hP : Stays P bl) (h : OW en sz P bl Z w1 v us xs) (hx : P w1 u x) (hn : ∀ k, bl x k → Z k ∧ k < w1.heap.size ∧ v.ownBlock ≠ some k) (hd : ∀ k, bl x k → ∀ y ∈ xs, ¬ bl y k) (ha : Below w1.heap.size w1 Wa) (hZ : Z Wa.heap.size)
    (hr : Ro w2 sz v' m (flt en xs ++ en x)) (hm : m = us.length + 1) (hg : Wa.grownBy w2 v.ownBlock) (hat : v'.ownBlock = v.ownBlock ∨ v'.ownBlock = some Wa.heap.size) :
    OW en sz P bl Z w2 v' (us ++ [u]) (xs ++ [x]) ∧ Fr (fun k => v.ownBlock = some k) w1 w2 := by
  subst hm
  have hln := h.len
  have hsa := ha.size
  have f3 : Fr (fun k => v.ownBlock = some k) w1 w2 := (Fr.of_below (S := fun k => v.ownBlock = some k) ha).trans ((Fr.refl _ Wa).grown hg (fun k e => .inr e))
  have hnew : ∀ k, v'.ownBlock = some k → v.ownBlock = some k ∨ k = Wa.heap.size := fun k hk => by
    rcases hat with q | q
    · exact .inl (q ▸ hk)
    · rw [q] at hk; cases hk; exact .inr rfl
  have key : ∀ (i : Nat) (y : T), (xs ++ [x])[i]? = some y → (i < xs.length ∧ xs[i]? = some y) ∨ (i = xs.length ∧ y = x) := fun i y hy => by
    by_cases q : i < xs.length
    · rw [List.getElem?_append_left q] at hy; exact .inl ⟨q, hy⟩
    · have hi : i = xs.length := by have := (List.getElem?_eq_some_iff.1 hy).1; simp at this; omega
      subst hi
      rw [List.getElem?_append_right (Nat.le_refl _), Nat.sub_self] at hy
      cases hy
      exact .inr ⟨rfl, rfl⟩
  refine ⟨⟨by simp [h.len], by rw [List.length_append, flt_append, flt_one]; exact hr, fun k hk => ?_, fun i g y hf hy => ?_, fun i y k hy hk => ?_, fun i j y z k hij hy hz hk => ?_⟩, f3⟩
  · rcases hnew k hk with q | q
    · exact h.rb k q
    · rw [q]; exact hZ
  · by_cases q : i < us.length
    · rw [List.getElem?_append_left q] at hf
      rw [List.getElem?_append_left (by omega)] at hy
      exact hP _ w1 w2 g y (h.el i g y hf hy) f3 (fun k hk e => (h.eb i y k hy hk).2.2 e)
    · have hi : i = us.length := by have := (List.getElem?_eq_some_iff.1 hf).1; simp at this; omega
      subst hi
      rw [List.getElem?_append_right (Nat.le_refl _), Nat.sub_self] at hf
      rw [List.getElem?_append_right (by omega), hln, Nat.sub_self] at hy
      cases hf; cases hy
      exact hP _ w1 w2 _ _ hx f3 (fun k hk e => (hn k hk).2.2 e)
  · rcases key i y hy with ⟨q1, q2⟩ | ⟨q1, rfl⟩
    · obtain ⟨z1, z2, z3⟩ := h.eb i y k q2 hk
      refine ⟨z1, Nat.lt_of_lt_of_le z2 f3.size, fun e => ?_⟩
      rcases hnew k e with r | r
      · exact z3 r
      · omega
    · obtain ⟨z1, z2, z3⟩ := hn k hk
      refine ⟨z1, Nat.lt_of_lt_of_le z2 f3.size, fun e => ?_⟩
      rcases hnew k e with r | r
      · exact z3 r
      · omega
  · rcases key i y hy with ⟨q1, q2⟩ | ⟨q1, rfl⟩ <;> rcases key j z hz with ⟨r1, r2⟩ | ⟨r1, rfl⟩
    · exact h.ap i j y z k hij q2 r2 hk
    · exact fun e => hd k e y (List.mem_of_getElem? q2) hk
    · exact fun e => hd k hk z (List.mem_of_getElem? r2) e
    · omega
set_option linter.unusedVariables false
set_option linter.unusedSimpArgs false
/-- An object over a room: its keys are its own. -/
def ObK (w : World) (o : Ob) (x : Obv) : Prop := x.kind = o.kind ∧ x.fn = o.fn ∧ x.cap = o.cap ∧ x.shut = o.shut ∧ Ro w 1 x.kv o.keys.length (flt enL o.keys)
def blK (x : Obv) (k : Nat) : Prop := x.kv.ownBlock = some k
theorem staysK : Stays ObK blK := fun S w w' u x h f hk => ⟨h.1, h.2.1, h.2.2.1, h.2.2.2.1, h.2.2.2.2.fr f hk⟩
abbrev OKs := OW enO 6 ObK blK
/-- Rooms, and objects beside them. -/
structure BI (B : Nat) (w : World) (rv iv : Value) (ls : List (List (Int × Int))) (R : List Value) (os : List Ob) (xs : List Obv) : Prop where
  r : OR (fun k => B ≤ k) w rv ls R
  o : OKs (fun k => B ≤ k) w iv os xs
  ap : ∀ k, (iv.ownBlock = some k ∨ ∃ x ∈ xs, blK x k) → ¬ (rv.ownBlock = some k ∨ ∃ q ∈ R, blV q k)
/-- Their blocks. -/
def bim (rv iv : Value) (R : List Value) (xs : List Obv) (k : Nat) : Prop := (rv.ownBlock = some k ∨ ∃ q ∈ R, blV q k) ∨ (iv.ownBlock = some k ∨ ∃ x ∈ xs, blK x k)
section
variable {B : Nat} {w w' : World} {rv iv : Value} {ls : List (List (Int × Int))} {R : List Value} {os : List Ob} {xs : List Obv}
theorem BI.nil (B : Nat) (w : World) : BI B w (.slice none 0 0) (.slice none 0 0) [] [] [] [] := ⟨OW.nil _, OW.nil _, by
  rintro k (e | ⟨x, hx, _⟩)
  · simp [Value.ownBlock] at e
  · simp at hx⟩
theorem BI.lt (h : BI B w rv iv ls R os xs) {k : Nat} (hk : bim rv iv R xs k) : B ≤ k ∧ k < w.heap.size := by
  rcases hk with hk | hk
  · exact h.r.in hk
  · exact h.o.in hk
theorem BI.keep {S : Nat → Prop} (h : BI B w rv iv ls R os xs) (f : Fr S w w') (hS : ∀ k, bim rv iv R xs k → ¬ S k) : BI B w' rv iv ls R os xs :=
  ⟨h.r.fr staysR f (fun k _ hk => hS k (.inl hk)), h.o.fr staysK f (fun k _ hk => hS k (.inr hk)), h.ap⟩
/-- A room more. -/
theorem BI.addR {Wa : World} {l : List (Int × Int)} {q rv' : Value} {m : Nat} (h : BI B w rv iv ls R os xs) (hB : B ≤ w.heap.size) (hb : Below w.heap.size w Wa) (hq : PR Wa l q) (hn : ∀ k, blV q k → w.heap.size ≤ k ∧ k < Wa.heap.size)
    (hr : Ro w' 1 rv' m (flt enV R ++ enV q)) (hm : m = ls.length + 1) (hg : Wa.grownBy w' rv.ownBlock) (hat : rv'.ownBlock = rv.ownBlock ∨ rv'.ownBlock = some Wa.heap.size) :
    BI B w' rv' iv (ls ++ [l]) (R ++ [q]) os xs ∧ Fr (fun k => rv.ownBlock = some k) w w' ∧ ∀ k, bim rv' iv (R ++ [q]) xs k → bim rv iv R xs k ∨ blV q k ∨ k = Wa.heap.size := by
  obtain ⟨h1, h2⟩ := h.r.push staysR hb hq hn (fun k hk => by omega) hr hm hg hat
  have hbs := hb.size
  have ho := h.o.fr staysK h2 (fun k _ hk e => h.ap k hk (.inl e))
  have hnew : ∀ k, (rv'.ownBlock = some k ∨ ∃ p ∈ R ++ [q], blV p k) → (rv.ownBlock = some k ∨ ∃ p ∈ R, blV p k) ∨ blV q k ∨ k = Wa.heap.size := fun k hk => by
    rcases hk with hk | ⟨p, hp, hk⟩
    · rcases hat with e | e
      · exact .inl (.inl (e ▸ hk))
      · rw [e] at hk; cases hk; exact .inr (.inr rfl)
    · rcases List.mem_append.1 hp with hp | hp
      · exact .inl (.inr ⟨p, hp, hk⟩)
      · simp at hp; subst hp; exact .inr (.inl hk)
  refine ⟨⟨h1, ho, fun k hk e => ?_⟩, h2, fun k hk => ?_⟩
  · have hlt := (h.o.in hk).2
    rcases hnew k e with q | q | q
    · exact h.ap k hk q
    · have := (hn k q).1; omega
    · omega
  · rcases hk with hk | hk
    · rcases hnew k hk with q | q
      · exact .inl (.inl q)
      · exact .inr q
    · exact .inl (.inr hk)
/-- An object more. -/
theorem BI.addO {Wa : World} {o : Ob} {x : Obv} {iv' : Value} {m : Nat} (h : BI B w rv iv ls R os xs) (hx : ObK w o x) (hn : ∀ k, blK x k → B ≤ k ∧ k < w.heap.size ∧ ¬ bim rv iv R xs k) (ha : Below w.heap.size w Wa) (hBw : B ≤ Wa.heap.size)
    (hr : Ro w' 6 iv' m (flt enO xs ++ enO x)) (hm : m = os.length + 1) (hg : Wa.grownBy w' iv.ownBlock) (hat : iv'.ownBlock = iv.ownBlock ∨ iv'.ownBlock = some Wa.heap.size) :
    BI B w' rv iv' ls R (os ++ [o]) (xs ++ [x]) ∧ Fr (fun k => iv.ownBlock = some k) w w' := by
  obtain ⟨h1, h2⟩ := OW.push' staysK h.o hx (fun k hk => ⟨(hn k hk).1, (hn k hk).2.1, fun e => (hn k hk).2.2 (.inr (.inl e))⟩) (fun k hk y hy e => (hn k hk).2.2 (.inr (.inr ⟨y, hy, e⟩))) ha hBw hr hm hg hat
  have has := ha.size
  have hrr := h.r.fr staysR h2 (fun k _ hk e => h.ap k (.inl e) hk)
  refine ⟨⟨hrr, h1, fun k hk e => ?_⟩, h2⟩
  have hlt := (h.r.in e).2
  rcases hk with hk | ⟨y, hy, hk⟩
  · rcases hat with q | q
    · exact h.ap k (.inl (q ▸ hk)) e
    · rw [q] at hk; cases hk; omega
  · rcases List.mem_append.1 hy with hy | hy
    · exact h.ap k (.inr ⟨y, hy, hk⟩) e
    · simp at hy; subst hy; exact (hn k hk).2.2 (.inl e)
end
/-- Each object's items lie at the head of its room. -/
def TieR (os : List Ob) (xs : List Obv) (R : List Value) : Prop := ∀ (i : Nat) (o : Ob) (x : Obv) (q : Value), os[i]? = some o → xs[i]? = some x → R[i]? = some q → ∃ g off cap, q = .slice (some ⟨g, off, none⟩) (o.its.length + 64) cap ∧ x.iv = .slice (some ⟨g, off, none⟩) o.its.length cap
theorem BI.osv {B : Nat} {w : World} {rv iv : Value} {R : List Value} {os : List Ob} {xs : List Obv} (h : BI B w rv iv (os.map (·.its)) R os xs) (ht : TieR os xs R) : OsV w iv os := by
  have hl := h.o.len
  refine ⟨xs, hl, ?_, fun i o x ho hx => ?_⟩
  · have := Rx.of_ro h.o.row
    rw [hl]
    exact this
  · obtain ⟨e1, e2, e3, e4, e5⟩ := h.o.el i o x ho hx
    have hRl := h.r.len
    have hi := (List.getElem?_eq_some_iff.1 ho).1
    have hq : R[i]? = some (R[i]'(by rw [hRl]; simpa using hi)) := List.getElem?_eq_getElem _
    obtain ⟨g, off, cap, eq, ex⟩ := ht i o x _ ho hx hq
    have hp : PR w o.its (R[i]'(by rw [hRl]; simpa using hi)) := h.r.el i o.its _ (by rw [List.getElem?_map, ho]; rfl) hq
    rw [eq] at hp
    have hr := upto_room hp
    rw [← ex] at hr
    exact ⟨e1, e2, e3, e4, Rx.of_ro hr, Rx.of_ro e5⟩
end Go.Proofs.Ytbnjfofkpagblaa
