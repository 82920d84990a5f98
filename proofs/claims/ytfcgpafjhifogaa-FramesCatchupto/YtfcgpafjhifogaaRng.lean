/-
  A range over a function whose body changes what the function reads: what is handed over is told by the round's number.
-/
import Derived.RangeFuncNested
import Derived.RangeFuncBound
import Derived.RangeFuncCalls
import Derived.RangeFuncLeaves
import Derived.Shelf.Abstract
import Derived.Shelf.RegionOpen
import Derived.WalkKit
import Derived.OwnWalkIn
import Derived.TacticsInMore
import Derived.LoopNIn
import Derived.LoopIn
import Derived.Test.YtfcgpafjhifogaaPRow
namespace Go.Proofs.Ytfcgpafjhifogaa
open Go.RowKit Go.Shelf
set_option linter.unusedVariables false
variable {F : Fence} {n : Nat} {P : Program}

/-- An iterator that hands encs k over in its round k, where V holds of the world; it ends at a k of which E holds. -/
def Hands (F : Fence) (n : Nat) (P : Program) (g : Nat) (lb : Array Value) (encs : Nat → Array Value) (A E : Nat → Prop) (V : Nat → World → Prop) : Prop :=
  ∀ (l : Nat) (J Jx : Nat → World → Prop) (W : World), (∀ k X, J k X → V k X) → (∀ k X Y, J k X → Below X.heap.size X Y → J k Y) → (∀ k X Y, Jx k X → Below X.heap.size X Y → Jx k Y) →
    (∀ k X, J k X → A k → YieldAt F (n - 1) P l (encs k) X fun e Y => (e = .returned (.bool true) ∧ J (k + 1) Y) ∨ (e = .returned (.bool false) ∧ Jx (k + 1) Y)) →
    J 0 W → CallsIn F n P g (#[.func (.yield l) #[] #[]] ++ lb) W fun e Y => (∃ v, e = .returned v) ∧ ((∃ k, E k ∧ J k Y) ∨ ∃ k, Jx k Y)

/-- The loop's two blocks. -/
def two2 (D : Nat) : Nat → Prop := fun x => x = D ∨ x = D + 1
/-- They lie as they lay. -/
def Stay (D : Nat) (X Y : World) : Prop := Y.heap[D]? = X.heap[D]? ∧ Y.heap[D + 1]? = X.heap[D + 1]?

/-- How a round may end. -/
def postR (D : Nat) (I : Nat → World → Prop) (Ix : Code → Nat → World → Prop) (k : Nat) (W : World) : Exit → Act → World → Prop
  | .normal, _, Y => Stay D W Y ∧ I k Y
  | .ret, _, Y => Stay D W Y ∧ Ix .ret k Y
  | .exit i, _, Y => Stay D W Y ∧ Ix (.exit i) k Y
  | .goto t, _, Y => Stay D W Y ∧ Ix (.goto t) k Y
  | .panic _, _, _ => False
  | .outgrown, _, _ => False

theorem fr_put (D : Nat) (X : World) (o : Obj) : Fr (two2 D) X (X.putObj (D + 1) o) :=
  ⟨rfl, rfl, rfl, by simp, fun k _ hk => World.putObj_heap_other (fun e => hk (.inr e))⟩
theorem lt_of_some {X : World} {k : Nat} {o : Obj} (h : X.heap[k]? = some o) : k < X.heap.size := (Array.getElem?_eq_some_iff.1 h).1

/-- The loop's record. -/
def lrec (fn : FuncId) (tmps : Array Value) (ps : Array Tmp) (assign body : Code) (D : Nat) (st : LoopState) (pe : Option Code) : Loop := { state := st, pending := pe, fn := fn, tmps := tmps, params := ps, assign := assign, body := body, defers := D }

theorem wpIn_hands {g : Operand} {ps : Array Tmp} {assign body : Code} {Q : Exit → Act → World → Prop} {a : Act} {w : World}
    (hro : F.round = none) (h1 : 1 ≤ n) {gf : Nat} {lb : Array Value} (hg : a.eval g = .func (.func gf) #[] lb) (hFg : F.fn gf) (eg : ∀ args w, (callFunc gf args).run P w = .ok (.enter gf args) w)
    {encs : Nat → Array Value} {A E : Nat → Prop} {V : Nat → World → Prop} (hseq : Hands F (n - 1) P gf lb encs A E V) (hps : ∀ k, (encs k).size = ps.size)
    (I : Nat → World → Prop) (Ix : Code → Nat → World → Prop) (hIV : ∀ k X, I k X → V k X)
    (hI : ∀ k X Y, I k X → Fr (two2 w.heap.size) X Y → I k Y) (hIx : ∀ c k X Y, Ix c k X → Fr (two2 w.heap.size) X Y → Ix c k Y) (h0 : I 0 w) (a₁ : Nat → Act)
    (hassign : ∀ (l k : Nat) (X : World) (K : Act → World → Prop), K (a₁ k) X → assign.wpIn (F.inRound l) (n - 1 - 1) P (Exit.then K (fun _ _ _ => False)) { tmps := (ps.zip (encs k)).foldl (fun t (p, v) => t.setIfInBounds p v) a.tmps, defers := [] } X)
    (hbody : ∀ (l k : Nat) (X : World), I k X → A k → w.heap.size + 1 < X.heap.size → body.wpIn (F.inRound l) (n - 1 - 1) P (postR w.heap.size I Ix (k + 1) X) (a₁ k) X)
    (hdone : ∀ (k : Nat) (X : World), E k → I k X → X.heap[w.heap.size]? = some (.deferred (some [])) → Q .normal { a with defers := { target := .collected w.heap.size, args := #[] } :: a.defers } X)
    (hstop : ∀ (c : Code) (k : Nat) (X : World), Ix c k X → X.heap[w.heap.size]? = some (.deferred (some [])) → c.wpIn F n P Q { a with defers := { target := .collected w.heap.size, args := #[] } :: a.defers } X) :
    (Code.rangeFunc g ps assign body).wpIn F n P Q a w := by
  refine wpIn_rangeFunc fun fn hfn => ?_
  rw [hro]
  let D := w.heap.size
  let L := lrec fn a.tmps ps assign body D
  let W1 : World := (w.alloc (.deferred (some []))).alloc (.loop (L .ready none))
  have hs1 : (w.alloc (.deferred (some []))).heap.size = D + 1 := by simp [D]
  have r1 : W1.heap[D + 1]? = some (.loop (L .ready none)) := by
    have := World.alloc_heap_new (w.alloc (.deferred (some []))) (.loop (L .ready none))
    rw [hs1] at this
    exact this
  have r0 : W1.heap[D]? = some (.deferred (some [])) := (Below.heap_alloc _ _ _ (by rw [hs1]; omega)).trans (World.alloc_heap_new w _)
  have i1 : I 0 W1 := hI 0 w W1 h0 (((Fr.refl _ w).alloc _).alloc _)
  refine ⟨D + 1, [{ target := .collected D, args := #[] }], W1, { target := .fn (.func gf) lb, args := #[.func (.yield (D + 1)) #[] #[]] }, W1, gf, #[.func (.yield (D + 1)) #[] #[]] ++ lb, W1, run_enterLoop_outer _ _ _ _ _, by simp only [resolve, hg]; simp [go_sem], fun f' hf' => by simp [Target.leads] at hf'; subst hf'; exact hFg, by simp [invoke, go_sem, eg], fun _ => h1, ?_⟩
  have keep : ∀ {X Y : World} {k : Nat} {o : Obj}, Below X.heap.size X Y → X.heap[k]? = some o → Y.heap[k]? = some o := fun hb hx =>
    ((Fr.of_below (S := fun _ => False) hb).block _ (lt_of_some hx) (fun e => e)).trans hx
  refine (hseq (D + 1) (fun k X => I k X ∧ X.heap[D + 1]? = some (.loop (L .ready none)) ∧ X.heap[D]? = some (.deferred (some [])))
    (fun k X => ∃ c, Ix c k X ∧ X.heap[D + 1]? = some (.loop (L .done (some c))) ∧ X.heap[D]? = some (.deferred (some []))) W1
    (fun k X h => hIV k X h.1) (fun k X Y h hb => ⟨hI k X Y h.1 (Fr.of_below hb), keep hb h.2.1, keep hb h.2.2⟩)
    (fun k X Y ⟨c, q, u, v⟩ hb => ⟨c, hIx c k X Y q (Fr.of_below hb), keep hb u, keep hb v⟩) ?round ⟨i1, r1, r0⟩).mono ?after
  case round =>
    rintro k X ⟨hi, hl, hd⟩ hA
    refine ⟨fn, _, assign, body, run_yield (args := encs k) hl (hps k), roundIn_of_wpIn hfn (hassign (D + 1) k X _ ⟨_, run_beginRound hl rfl, ?_⟩)⟩
    have hlt := lt_of_some hl
    have b1 : (X.putObj (D + 1) (.loop (L .busy none))).heap[D + 1]? = some (.loop (L .busy none)) := World.putObj_heap_same hlt
    have b0 : (X.putObj (D + 1) (.loop (L .busy none))).heap[D]? = some (.deferred (some [])) := (World.putObj_heap_other (by omega)).trans hd
    have body1 := hbody (D + 1) k (X.putObj (D + 1) (.loop (L .busy none))) (hI k _ _ hi (fr_put D X _)) hA (by rw [World.putObj_size]; exact hlt)
    have fin : ∀ (j : Option Code) (Y : World), Stay D (X.putObj (D + 1) (.loop (L .busy none))) Y →
        (Instr.endRound (D + 1) j).run P Y = .ok (.bool j.isNone) (Y.putObj (D + 1) (.loop (L (if j.isNone then .ready else .done) j))) ∧
        (Y.putObj (D + 1) (.loop (L (if j.isNone then .ready else .done) j))).heap[D + 1]? = some (.loop (L (if j.isNone then .ready else .done) j)) ∧
        (Y.putObj (D + 1) (.loop (L (if j.isNone then .ready else .done) j))).heap[D]? = some (.deferred (some [])) := fun j Y hs => by
      have y1 := hs.2.trans b1
      exact ⟨run_endRound j y1, World.putObj_heap_same (lt_of_some y1), (World.putObj_heap_other (by omega)).trans (hs.1.trans b0)⟩
    refine wpIn_mono body1 ?_
    intro e a3 Y hp
    cases e with
    | normal =>
      obtain ⟨q1, q2, q3⟩ := fin none Y hp.1
      exact ⟨_, _, q1, .inl ⟨rfl, hI _ _ _ hp.2 (fr_put D Y _), q2, q3⟩⟩
    | ret =>
      obtain ⟨q1, q2, q3⟩ := fin (some .ret) Y hp.1
      exact ⟨_, _, q1, .inr ⟨rfl, .ret, hIx _ _ _ _ hp.2 (fr_put D Y _), q2, q3⟩⟩
    | exit i =>
      obtain ⟨q1, q2, q3⟩ := fin (some (.exit i)) Y hp.1
      exact ⟨_, _, q1, .inr ⟨rfl, .exit i, hIx _ _ _ _ hp.2 (fr_put D Y _), q2, q3⟩⟩
    | goto t =>
      obtain ⟨q1, q2, q3⟩ := fin (some (.goto t)) Y hp.1
      exact ⟨_, _, q1, .inr ⟨rfl, .goto t, hIx _ _ _ _ hp.2 (fr_put D Y _), q2, q3⟩⟩
    | panic ch => exact hp.elim
    | outgrown => exact hp.elim
  case after =>
    rintro e Y ⟨⟨v, rfl⟩, ⟨k, hE, hi, hl, hd⟩ | ⟨k, c, hi, hl, hd⟩⟩
    · exact ⟨none, _, run_endLoop hl (by simp [L, lrec]), hdone k _ hE (hI _ _ _ hi (fr_put D Y _)) ((World.putObj_heap_other (by omega)).trans hd)⟩
    · exact ⟨some c, _, run_endLoop hl (by simp [L, lrec]), hstop c k _ (hIx _ _ _ _ hi (fr_put D Y _)) ((World.putObj_heap_other (by omega)).trans hd)⟩
end Go.Proofs.Ytfcgpafjhifogaa
