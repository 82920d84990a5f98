/-
  OverRegs: a code of one's own is written over.
-/
import Derived.Test.YtpbdmbmafjkinaaDoorPri
import Derived.Test.YtpbdmbmafjkinaaDoorRgC
namespace Go.Proofs.YtpbdmbmafjkinaaDoor
open Go.RowKit
set_option linter.unusedVariables false
set_option linter.unusedSimpArgs false
/-- Things with blocks of their own, apart from each other and from the row. -/
structure AO {T : Type} (bl : T → Nat → Prop) (B : Nat) (v : Value) (xs : List T) : Prop where
  eb : ∀ (i : Nat) (x : T) (k : Nat), xs[i]? = some x → bl x k → k < B ∧ v.ownBlock ≠ some k
  ap : ∀ (i j : Nat) (x y : T) (k : Nat), i ≠ j → xs[i]? = some x → xs[j]? = some y → bl x k → ¬ bl y k
/-- The first i things are written over; of those from iu on the own blocks are as they were. -/
structure SP {T : Type} (en : T → List Value) (sz : Nat) (bl : T → Nat → Prop) (w0 : World) (v : Value) (xs : List T) (i iu : Nat) (w : World) : Prop where
  fr : Fr (fun q => v.ownBlock = some q ∨ ∃ x ∈ xs, bl x q) w0 w
  row : ∃ ys : List T, ys.length = xs.length ∧ Ro w sz v xs.length (flt en ys) ∧ ∀ j, i ≤ j → ys[j]? = xs[j]?
  un : ∀ (j : Nat) (x : T) (q : Nat), iu ≤ j → xs[j]? = some x → bl x q → w.heap[q]? = w0.heap[q]?
section
variable {T : Type} {en : T → List Value} {sz : Nat} {bl : T → Nat → Prop} {w0 w w' : World} {v : Value} {xs : List T} {i iu : Nat}
theorem AO.none (B : Nat) (v : Value) (xs : List T) : AO (fun _ _ => False) B v xs := ⟨fun _ _ _ _ h => h.elim, fun _ _ _ _ _ _ _ _ h => h.elim⟩
theorem AO.of_ow {U : Type} {P : World → U → T → Prop} {Z : Nat → Prop} {us : List U} (h : OW en sz P bl Z w v us xs) : AO bl w.heap.size v xs :=
  ⟨fun i x k hx hk => (h.eb i x k hx hk).2, fun i j x y k => h.ap i j x y k⟩
theorem AO.mono {B B' : Nat} (h : AO bl B v xs) (hb : B ≤ B') : AO bl B' v xs := ⟨fun i x k hx hk => ⟨Nat.lt_of_lt_of_le (h.eb i x k hx hk).1 hb, (h.eb i x k hx hk).2⟩, h.ap⟩
theorem SP.start (h : Ro w0 sz v xs.length (flt en xs)) : SP en sz bl w0 v xs 0 0 w0 := ⟨Fr.refl _ _, ⟨xs, rfl, h, fun _ _ => rfl⟩, fun _ _ _ _ _ _ => rfl⟩
/-- What is not written over can be read as it was. -/
theorem SP.same (h : SP en sz bl w0 v xs i iu w) : Fr (fun q => w.heap[q]? ≠ w0.heap[q]?) w0 w :=
  ⟨h.fr.os, h.fr.tape, h.fr.output, h.fr.size, fun k _ hn => Classical.not_not.1 hn⟩
theorem SP.on (a : AO bl w0.heap.size v xs) (h : SP en sz bl w0 v xs i iu w) (f : Below w.heap.size w w') : SP en sz bl w0 v xs i iu w' := by
  obtain ⟨ys, h1, h2, h3⟩ := h.row
  have hs := h.fr.size
  refine ⟨h.fr.comp (Fr.of_below (S := fun _ => False) f) (fun _ _ e => e.elim), ⟨ys, h1, h2.fr (Fr.of_below (S := fun _ => False) f) (fun _ _ e => e), h3⟩, fun j x q hj hx hq => ?_⟩
  exact (f.block q (by have := (a.eb j x q hx hq).1; omega)).trans (h.un j x q hj hx hq)
theorem SP.inner (a : AO bl w0.heap.size v xs) (h : SP en sz bl w0 v xs i i w) {x : T} (hx : xs[i]? = some x) {S : Nat → Prop} (f : Fr S w w') (hS : ∀ q, q < w.heap.size → S q → bl x q) : SP en sz bl w0 v xs i (i + 1) w' := by
  obtain ⟨ys, h1, h2, h3⟩ := h.row
  have hs := h.fr.size
  refine ⟨h.fr.comp f (fun q hq e => .inr ⟨x, List.mem_of_getElem? hx, hS q (by omega) e⟩), ⟨ys, h1, h2.fr f (fun q hq e => (a.eb i x q hx (hS q (h2.lt q hq) e)).2 hq), h3⟩, fun j y q hj hy hq => ?_⟩
  have hl := (a.eb j y q hy hq).1
  exact (f.block q (by omega) (fun e => a.ap j i y x q (by omega) hy hx hq (hS q (by omega) e))).trans (h.un j y q (by omega) hy hq)
/-- Where a thing lies. -/
theorem SP.cells (hz : ∀ x, (en x).length = sz) (h : SP en sz bl w0 v xs i iu w) {j : Nat} (hj : i ≤ j) {x : T} (hx : xs[j]? = some x) :
    ∃ g off cap, v = .slice (some ⟨g, off, none⟩) xs.length cap ∧ xs.length ≤ cap ∧ cap ≤ maxLen ∧ g < w.heap.size ∧ (∀ c u, (en x)[c]? = some u → w.cell? ⟨g, off + j * sz + c, none⟩ = some u) ∧ ∀ c, w.frozen? ⟨g, c, none⟩ = false := by
  obtain ⟨ys, h1, h2, h3⟩ := h.row
  have hy : ys[j]? = some x := (h3 j hj).trans hx
  have hr := Rx.of_ro h2
  rw [← h1] at hr
  obtain ⟨b, off, cap, e, q1, q2, q3, q4⟩ := hr.elem hz hy
  rw [h1] at e q1
  exact ⟨b, off, cap, e, q1, q2, q3, q4, fun c => h2.free e c⟩
/-- One thing is written over. -/
theorem SP.put (hz : ∀ x, (en x).length = sz) (a : AO bl w0.heap.size v xs) (h : SP en sz bl w0 v xs i iu w) {g off n cap : Nat} (e : v = .slice (some ⟨g, off, none⟩) n cap) (hi : i < xs.length) (x' : T) :
    SP en sz bl w0 v xs (i + 1) iu (w.setCells g (off + i * sz) (en x')) := by
  obtain ⟨ys, h1, h2, h3⟩ := h.row
  obtain ⟨a0, c0, e0, _⟩ := h2.shape
  have hn : n = xs.length := by rw [e] at e0; cases e0; rfl
  subst hn
  obtain ⟨r1, r2⟩ := h2.putAt hz h1 e hi x'
  refine ⟨h.fr.comp r2 (fun q hq e2 => .inl (by have e2' : q = g := e2; rw [e, e2']; rfl)), ⟨ys.set i x', by rw [List.length_set]; exact h1, r1, fun j hj => by rw [List.getElem?_set_ne (by omega)]; exact h3 j (by omega)⟩, fun j x q hj hx hq => ?_⟩
  have hl := a.eb j x q hx hq
  have hs := h.fr.size
  exact (r2.block q (by omega) (fun e2 => hl.2 (by have e2' : q = g := e2; rw [e, e2']; rfl))).trans (h.un j x q hj hx hq)
end
/-- A code that was handed in: its blocks are its own, all apart. -/
theorem XP.take {T : Nat → Nat} {B : Nat} {bl : List Bk} {w : World} {X : List TB} (h : XP T B bl w X) (n : Nat) : XP T B bl w (X.take n) := by
  have key : ∀ (i : Nat) (x : TB), (X.take n)[i]? = some x → X[i]? = some x := fun i x hx => by
    rw [List.getElem?_take] at hx
    split at hx
    · exact hx
    · cases hx
  exact ⟨fun j b x hb hx => h.el j b x hb (key j x hx), fun x k hx hk => h.bt x k (List.mem_of_mem_take hx) hk, fun i j x y k hij hx hy => h.ap i j x y k hij (key i x hx) (key j y hy)⟩

set_option linter.unusedVariables false
set_option linter.unusedSimpArgs false
abbrev no {A : Type} : A → Nat → Prop := fun _ _ => False
theorem SP.frn {A : Type} {en : A → List Value} {sz : Nat} {w0 w : World} {v : Value} {xs : List A} {i iu : Nat} (h : SP en sz no w0 v xs i iu w) : Fr (fun q => v.ownBlock = some q) w0 w :=
  h.fr.mono (fun k _ e => e.elim id (fun ⟨_, _, q⟩ => q.elim))
def blR (r : ShR) (k : Nat) : Prop := r.v.ownBlock = some k
/-- A thing is as it was at a time. -/
theorem SP.keep {A U : Type} {en : A → List Value} {sz : Nat} {bl : A → Nat → Prop} {P : World → U → A → Prop} (hP : Stays P bl) {w0 w : World} {v : Value} {xs : List A} {i iu j : Nat} (h : SP en sz bl w0 v xs i iu w) (hj : iu ≤ j) {u : U} {x : A} (hx : xs[j]? = some x) (hp : P w0 u x) : P w u x :=
  hP _ w0 w u x hp h.same (fun k hk e => e (h.un j x k hj hx hk))
end Go.Proofs.YtpbdmbmafjkinaaDoor
