/-
  A row that is made one's own, thing by thing.
-/
import Derived.Test.YtpbdmbmafjkinaaDoorMp
namespace Go.Proofs.YtpbdmbmafjkinaaDoor
open Go.RowKit
set_option linter.unusedVariables false
set_option linter.unusedSimpArgs false
/-- A whole thing of a row is set. -/
theorem Ro.putAt {T : Type} {en : T → List Value} {sz : Nat} (hz : ∀ x, (en x).length = sz) {w : World} {v : Value} {n : Nat} {xs : List T} (h : Ro w sz v n (flt en xs)) (hl : xs.length = n) {g off cap : Nat} (e : v = .slice (some ⟨g, off, none⟩) n cap) {i : Nat} (hi : i < n) (x : T) :
    Ro (w.setCells g (off + i * sz) (en x)) sz v n (flt en (xs.set i x)) ∧ Fr (fun b => b = g) w (w.setCells g (off + i * sz) (en x)) := by
  obtain ⟨a0, c0, e0, hnc, _⟩ := h.shape
  rw [e] at e0
  cases e0
  have hb : i * sz + sz ≤ n * sz := by rw [← Nat.succ_mul]; exact Nat.mul_le_mul_right _ hi
  have hcap : n * sz ≤ cap * sz := Nat.mul_le_mul_right _ hnc
  obtain ⟨r1, r2⟩ := h.sets e (o := off + i * sz) (m := n) (vs := en x) (ys := flt en (xs.set i x)) (by omega) (by rw [hz]; omega) hnc (by rw [flt_length hz, List.length_set, hl]) (fun j hj => by
    rw [flt_set hz xs i x (by omega) j, hz]
    by_cases q : i * sz ≤ j ∧ j < i * sz + sz
    · rw [if_pos q, if_pos (by omega), show off + j - (off + i * sz) = j - i * sz by omega]
    · rw [if_neg q, if_neg (by omega)]) (fun j hj q => by omega)
  rw [← e] at r1
  exact ⟨r1, ⟨r2.os, r2.tape, r2.output, r2.size, fun k hk hn => r2.block k hk (fun q => hn (by cases q; rfl))⟩⟩
/-- A row whose first i things are one's own; the others are as they were at first. -/
structure RI {T U : Type} (en : T → List Value) (sz : Nat) (P : World → U → T → Prop) (bl : T → Nat → Prop) (B : Nat) (us : List U) (X0 : List T) (i : Nat) (w : World) (v : Value) : Prop where
  len : X0.length = us.length
  row : Ro w sz v us.length (flt en X0)
  rb : ∀ k, v.ownBlock = some k → B ≤ k
  el : ∀ (j : Nat) (u : U) (x : T), j < i → us[j]? = some u → X0[j]? = some x → P w u x
  eb : ∀ (j : Nat) (x : T) (k : Nat), j < i → X0[j]? = some x → bl x k → B ≤ k ∧ k < w.heap.size ∧ v.ownBlock ≠ some k
  ap : ∀ (j l : Nat) (x y : T) (k : Nat), j < i → l < i → j ≠ l → X0[j]? = some x → X0[l]? = some y → bl x k → ¬ bl y k
section
variable {T U : Type} {en : T → List Value} {sz : Nat} {P : World → U → T → Prop} {bl : T → Nat → Prop} {B : Nat}
theorem RI.start {w w' : World} {us : List U} {X0 : List T} {v : Value} (hl : X0.length = us.length) (h : Gx w sz en X0 v w') (hB : B ≤ w.heap.size) : RI en sz P bl B us X0 0 w' v :=
  ⟨hl, by rw [← hl]; exact h.1, fun k hk => Nat.le_trans hB (h.2.2 k hk), fun j u x hj => by omega, fun j x k hj => by omega, fun j l x y k hj => by omega⟩
theorem RI.fr {w w' : World} {us : List U} {X0 : List T} {v : Value} {i : Nat} {S : Nat → Prop} (hP : Stays P bl) (h : RI en sz P bl B us X0 i w v) (f : Fr S w w') (hS : ∀ k, k < w.heap.size → B ≤ k → ¬ S k) : RI en sz P bl B us X0 i w' v :=
  ⟨h.len, h.row.fr f (fun k hk => hS k (h.row.lt k hk) (h.rb k hk)), h.rb, fun j u x hj hu hx => hP S w w' u x (h.el j u x hj hu hx) f (fun k hk => hS k (h.eb j x k hj hx hk).2.1 (h.eb j x k hj hx hk).1), fun j x k hj hx hk => ⟨(h.eb j x k hj hx hk).1, Nat.lt_of_lt_of_le (h.eb j x k hj hx hk).2.1 f.size, (h.eb j x k hj hx hk).2.2⟩, h.ap⟩
theorem RI.below {w w' : World} {us : List U} {X0 : List T} {v : Value} {i : Nat} (hP : Stays P bl) (h : RI en sz P bl B us X0 i w v) (f : Below w.heap.size w w') : RI en sz P bl B us X0 i w' v :=
  h.fr hP (Fr.of_below (S := fun _ => False) f) (fun _ _ _ e => e)
/-- A cell of the next thing is set. -/
theorem RI.put {w : World} {us : List U} {X0 : List T} {v : Value} {i : Nat} (hP : Stays P bl) (hz : ∀ x, (en x).length = sz) (h : RI en sz P bl B us X0 i w v) {g off n cap : Nat} (e : v = .slice (some ⟨g, off, none⟩) n cap) {c : Nat} {x x' : T} {y : Value} (hx : X0[i]? = some x) (hc : c < sz) (hen : en x' = (en x).set c y) :
    RI en sz P bl B us (X0.set i x') i (w.setCell ⟨g, off + i * sz + c, none⟩ y) v ∧ Fr (fun b => b = g) w (w.setCell ⟨g, off + i * sz + c, none⟩ y) := by
  obtain ⟨a0, c0, e0, _⟩ := h.row.shape
  have en' : n = us.length := by rw [e] at e0; cases e0; rfl
  subst en'
  obtain ⟨r1, r2⟩ := h.row.put1 hz e hx hc hen
  have hoth : ∀ j, j < i → (X0.set i x')[j]? = X0[j]? := fun j hj => List.getElem?_set_ne (by omega)
  refine ⟨⟨by simp [h.len], r1, h.rb, fun j u z hj hu hz' => ?_, fun j z k hj hz' hk => ?_, fun j l z z' k hj hl hjl hz1 hz2 hk => ?_⟩, r2⟩
  · rw [hoth j hj] at hz'
    exact hP _ w _ u z (h.el j u z hj hu hz') r2 (fun k hk e2 => (h.eb j z k hj hz' hk).2.2 (by rw [e, e2]; rfl))
  · rw [hoth j hj] at hz'
    obtain ⟨b1, b2, b3⟩ := h.eb j z k hj hz' hk
    exact ⟨b1, Nat.lt_of_lt_of_le b2 r2.size, b3⟩
  · rw [hoth j hj] at hz1
    rw [hoth l hl] at hz2
    exact h.ap j l z z' k hj hl hjl hz1 hz2 hk
/-- The next thing is one's own now. -/
theorem RI.done {w : World} {us : List U} {X0 : List T} {v : Value} {i Q : Nat} (h : RI en sz P bl B us X0 i w v) {u : U} {x : T} (hu : us[i]? = some u) (hx : X0[i]? = some x) (hp : P w u x) (hb : ∀ k, bl x k → Q ≤ k ∧ k < w.heap.size) (hQ : B ≤ Q) (hv : ∀ k, v.ownBlock = some k → k < Q) (hq : ∀ (j : Nat) (y : T) (k : Nat), j < i → X0[j]? = some y → bl y k → k < Q) : RI en sz P bl B us X0 (i + 1) w v := by
  refine ⟨h.len, h.row, h.rb, fun j u' z hj hu' hz => ?_, fun j z k hj hz hk => ?_, fun j l z z' k hj hl hjl hz1 hz2 hk => ?_⟩
  · by_cases q : j < i
    · exact h.el j u' z q hu' hz
    · obtain rfl : j = i := by omega
      rw [hu] at hu'; cases hu'
      rw [hx] at hz; cases hz
      exact hp
  · by_cases q : j < i
    · exact h.eb j z k q hz hk
    · obtain rfl : j = i := by omega
      rw [hx] at hz; cases hz
      have := hb k hk
      exact ⟨by omega, this.2, fun e => by have := hv k e; omega⟩
  · intro e
    by_cases q : j < i
    · by_cases q2 : l < i
      · exact h.ap j l z z' k q q2 hjl hz1 hz2 hk e
      · obtain rfl : l = i := by omega
        rw [hx] at hz2; cases hz2
        have := (hb k e).1
        have := hq j z k q hz1 hk
        omega
    · obtain rfl : j = i := by omega
      rw [hx] at hz1; cases hz1
      have := (hb k hk).1
      have := hq l z' k (by omega) hz2 e
      omega
theorem RI.ow {w : World} {us : List U} {X0 : List T} {v : Value} {i : Nat} (h : RI en sz P bl B us X0 i w v) (hi : us.length ≤ i) : OW en sz P bl (fun k => B ≤ k) w v us X0 := by
  have key : ∀ (j : Nat) (x : T), X0[j]? = some x → j < i := fun j x hx => by
    have := (List.getElem?_eq_some_iff.1 hx).1
    have := h.len
    omega
  exact ⟨h.len, h.row, h.rb, fun j u x hu hx => h.el j u x (key j x hx) hu hx, fun j x k hx hk => h.eb j x k (key j x hx) hx hk, fun j l x y k hjl hx hy hk => h.ap j l x y k (key j x hx) (key l y hy) hjl hx hy hk⟩
end
end Go.Proofs.YtpbdmbmafjkinaaDoor
