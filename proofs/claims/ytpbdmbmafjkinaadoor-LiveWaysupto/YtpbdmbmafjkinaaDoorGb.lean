/-
  What is wanted ahead of a list of instructions.
-/
import Derived.RangeFuncNested
import Derived.RangeFuncBound
import Derived.RangeFuncCalls
import Derived.RangeFuncLeaves
import Derived.Shelf.Abstract
import Derived.Shelf.RegionOpen
import Derived.WalkKit
import Derived.OwnWalkIn
import Derived.TacticsInMore
import Derived.LoopNIn
import Derived.LoopIn
import Derived.Test.YtpbdmbmafjkinaaDoorPB
import Derived.Test.YtpbdmbmafjkinaaDoorSe3
namespace Go.Proofs.YtpbdmbmafjkinaaDoor
open Go.RowKit Go.Shelf
set_option linter.unusedVariables false
variable {F : Fence} {n : Nat} {P : Program}

/-- An iterator that hands encs k over in its round k, where V holds of the world; it ends at a k of which E holds. -/
def Hands (F : Fence) (n : Nat) (P : Program) (g : Nat) (lb : Array Value) (encs : Nat → Array Value) (A E : Nat → Prop) (V : Nat → World → Prop) : Prop :=
  ∀ (l : Nat) (J Jx : Nat → World → Prop) (W : World), (∀ k X, J k X → V k X) → (∀ k X Y, J k X → Below X.heap.size X Y → J k Y) → (∀ k X Y, Jx k X → Below X.heap.size X Y → Jx k Y) →
    (∀ k X, J k X → A k → YieldAt F (n - 1) P l (encs k) X fun e Y => (e = .returned (.bool true) ∧ J (k + 1) Y) ∨ (e = .returned (.bool false) ∧ Jx (k + 1) Y)) →
    J 0 W → CallsIn F n P g (#[.func (.yield l) #[] #[]] ++ lb) W fun e Y => (∃ v, e = .returned v) ∧ ((∃ k, E k ∧ J k Y) ∨ ∃ k, Jx k Y)

/-- The loop's two blocks. -/
def two2 (D : Nat) : Nat → Prop := fun x => x = D ∨ x = D + 1
/-- They lie as they lay. -/
def Stay (D : Nat) (X Y : World) : Prop := Y.heap[D]? = X.heap[D]? ∧ Y.heap[D + 1]? = X.heap[D + 1]?

/-- How a round may end. -/
def postR (D : Nat) (I : Nat → World → Prop) (Ix : Code → Nat → World → Prop) (k : Nat) (W : World) : Exit → Act → World → Prop
  | .normal, _, Y => Stay D W Y ∧ I k Y
  | .ret, _, Y => Stay D W Y ∧ Ix .ret k Y
  | .exit i, _, Y => Stay D W Y ∧ Ix (.exit i) k Y
  | .goto t, _, Y => Stay D W Y ∧ Ix (.goto t) k Y
  | .panic _, _, _ => False
  | .outgrown, _, _ => False

theorem fr_put (D : Nat) (X : World) (o : Obj) : Fr (two2 D) X (X.putObj (D + 1) o) :=
  ⟨rfl, rfl, rfl, by simp, fun k _ hk => World.putObj_heap_other (fun e => hk (.inr e))⟩
theorem lt_of_some {X : World} {k : Nat} {o : Obj} (h : X.heap[k]? = some o) : k < X.heap.size := (Array.getElem?_eq_some_iff.1 h).1

/-- The loop's record. -/
def lrec (fn : FuncId) (tmps : Array Value) (ps : Array Tmp) (assign body : Code) (D : Nat) (st : LoopState) (pe : Option Code) : Loop := { state := st, pending := pe, fn := fn, tmps := tmps, params := ps, assign := assign, body := body, defers := D }

theorem wpIn_hands {g : Operand} {ps : Array Tmp} {assign body : Code} {Q : Exit → Act → World → Prop} {a : Act} {w : World}
    (hro : F.round = none) (h1 : 1 ≤ n) {gf : Nat} {lb : Array Value} (hg : a.eval g = .func (.func gf) #[] lb) (hFg : F.fn gf) (eg : ∀ args w, (callFunc gf args).run P w = .ok (.enter gf args) w)
    {encs : Nat → Array Value} {A E : Nat → Prop} {V : Nat → World → Prop} (hseq : Hands F (n - 1) P gf lb encs A E V) (hps : ∀ k, (encs k).size = ps.size)
    (I : Nat → World → Prop) (Ix : Code → Nat → World → Prop) (hIV : ∀ k X, I k X → V k X)
    (hI : ∀ k X Y, I k X → Fr (two2 w.heap.size) X Y → I k Y) (hIx : ∀ c k X Y, Ix c k X → Fr (two2 w.heap.size) X Y → Ix c k Y) (h0 : I 0 w) (a₁ : Nat → Act)
    (hassign : ∀ (l k : Nat) (X : World) (K : Act → World → Prop), K (a₁ k) X → assign.wpIn (F.inRound l) (n - 1 - 1) P (Exit.then K (fun _ _ _ => False)) { tmps := (ps.zip (encs k)).foldl (fun t (p, v) => t.setIfInBounds p v) a.tmps, defers := [] } X)
    (hbody : ∀ (l k : Nat) (X : World), I k X → A k → w.heap.size + 1 < X.heap.size → body.wpIn (F.inRound l) (n - 1 - 1) P (postR w.heap.size I Ix (k + 1) X) (a₁ k) X)
    (hdone : ∀ (k : Nat) (X : World), E k → I k X → X.heap[w.heap.size]? = some (.deferred (some [])) → Q .normal { a with defers := { target := .collected w.heap.size, args := #[] } :: a.defers } X)
    (hstop : ∀ (c : Code) (k : Nat) (X : World), Ix c k X → X.heap[w.heap.size]? = some (.deferred (some [])) → c.wpIn F n P Q { a with defers := { target := .collected w.heap.size, args := #[] } :: a.defers } X) :
    (Code.rangeFunc g ps assign body).wpIn F n P Q a w := by
  refine wpIn_rangeFunc fun fn hfn => ?_
  rw [hro]
  let D := w.heap.size
  let L := lrec fn a.tmps ps assign body D
  let W1 : World := (w.alloc (.deferred (some []))).alloc (.loop (L .ready none))
  have hs1 : (w.alloc (.deferred (some []))).heap.size = D + 1 := by simp [D]
  have r1 : W1.heap[D + 1]? = some (.loop (L .ready none)) := by
    have := World.alloc_heap_new (w.alloc (.deferred (some []))) (.loop (L .ready none))
    rw [hs1] at this
    exact this
  have r0 : W1.heap[D]? = some (.deferred (some [])) := (Below.heap_alloc _ _ _ (by rw [hs1]; omega)).trans (World.alloc_heap_new w _)
  have i1 : I 0 W1 := hI 0 w W1 h0 (((Fr.refl _ w).alloc _).alloc _)
  refine ⟨D + 1, [{ target := .collected D, args := #[] }], W1, { target := .fn (.func gf) lb, args := #[.func (.yield (D + 1)) #[] #[]] }, W1, gf, #[.func (.yield (D + 1)) #[] #[]] ++ lb, W1, run_enterLoop_outer _ _ _ _ _, by simp only [resolve, hg]; simp [go_sem], fun f' hf' => by simp [Target.leads] at hf'; subst hf'; exact hFg, by simp [invoke, go_sem, eg], fun _ => h1, ?_⟩
  have keep : ∀ {X Y : World} {k : Nat} {o : Obj}, Below X.heap.size X Y → X.heap[k]? = some o → Y.heap[k]? = some o := fun hb hx =>
    ((Fr.of_below (S := fun _ => False) hb).block _ (lt_of_some hx) (fun e => e)).trans hx
  refine (hseq (D + 1) (fun k X => I k X ∧ X.heap[D + 1]? = some (.loop (L .ready none)) ∧ X.heap[D]? = some (.deferred (some [])))
    (fun k X => ∃ c, Ix c k X ∧ X.heap[D + 1]? = some (.loop (L .done (some c))) ∧ X.heap[D]? = some (.deferred (some []))) W1
    (fun k X h => hIV k X h.1) (fun k X Y h hb => ⟨hI k X Y h.1 (Fr.of_below hb), keep hb h.2.1, keep hb h.2.2⟩)
    (fun k X Y ⟨c, q, u, v⟩ hb => ⟨c, hIx c k X Y q (Fr.of_below hb), keep hb u, keep hb v⟩) ?round ⟨i1, r1, r0⟩).mono ?after
  case round =>
    rintro k X ⟨hi, hl, hd⟩ hA
    refine ⟨fn, _, assign, body, run_yield (args := encs k) hl (hps k), roundIn_of_wpIn hfn (hassign (D + 1) k X _ ⟨_, run_beginRound hl rfl, ?_⟩)⟩
    have hlt := lt_of_some hl
    have b1 : (X.putObj (D + 1) (.loop (L .busy none))).heap[D + 1]? = some (.loop (L .busy none)) := World.putObj_heap_same hlt
    have b0 : (X.putObj (D + 1) (.loop (L .busy none))).heap[D]? = some (.deferred (some [])) := (World.putObj_heap_other (by omega)).trans hd
    have body1 := hbody (D + 1) k (X.putObj (D + 1) (.loop (L .busy none))) (hI k _ _ hi (fr_put D X _)) hA (by rw [World.putObj_size]; exact hlt)
    have fin : ∀ (j : Option Code) (Y : World), Stay D (X.putObj (D + 1) (.loop (L .busy none))) Y →
        (Instr.endRound (D + 1) j).run P Y = .ok (.bool j.isNone) (Y.putObj (D + 1) (.loop (L (if j.isNone then .ready else .done) j))) ∧
        (Y.putObj (D + 1) (.loop (L (if j.isNone then .ready else .done) j))).heap[D + 1]? = some (.loop (L (if j.isNone then .ready else .done) j)) ∧
        (Y.putObj (D + 1) (.loop (L (if j.isNone then .ready else .done) j))).heap[D]? = some (.deferred (some [])) := fun j Y hs => by
      have y1 := hs.2.trans b1
      exact ⟨run_endRound j y1, World.putObj_heap_same (lt_of_some y1), (World.putObj_heap_other (by omega)).trans (hs.1.trans b0)⟩
    refine wpIn_mono body1 ?_
    intro e a3 Y hp
    cases e with
    | normal =>
      obtain ⟨q1, q2, q3⟩ := fin none Y hp.1
      exact ⟨_, _, q1, .inl ⟨rfl, hI _ _ _ hp.2 (fr_put D Y _), q2, q3⟩⟩
    | ret =>
      obtain ⟨q1, q2, q3⟩ := fin (some .ret) Y hp.1
      exact ⟨_, _, q1, .inr ⟨rfl, .ret, hIx _ _ _ _ hp.2 (fr_put D Y _), q2, q3⟩⟩
    | exit i =>
      obtain ⟨q1, q2, q3⟩ := fin (some (.exit i)) Y hp.1
      exact ⟨_, _, q1, .inr ⟨rfl, .exit i, hIx _ _ _ _ hp.2 (fr_put D Y _), q2, q3⟩⟩
    | goto t =>
      obtain ⟨q1, q2, q3⟩ := fin (some (.goto t)) Y hp.1
      exact ⟨_, _, q1, .inr ⟨rfl, .goto t, hIx _ _ _ _ hp.2 (fr_put D Y _), q2, q3⟩⟩
    | panic ch => exact hp.elim
    | outgrown => exact hp.elim
  case after =>
    rintro e Y ⟨⟨v, rfl⟩, ⟨k, hE, hi, hl, hd⟩ | ⟨k, c, hi, hl, hd⟩⟩
    · exact ⟨none, _, run_endLoop hl (by simp [L, lrec]), hdone k _ hE (hI _ _ _ hi (fr_put D Y _)) ((World.putObj_heap_other (by omega)).trans hd)⟩
    · exact ⟨some c, _, run_endLoop hl (by simp [L, lrec]), hstop c k _ (hIx _ _ _ _ hi (fr_put D Y _)) ((World.putObj_heap_other (by omega)).trans hd)⟩

set_option linter.unusedVariables false
variable {F : Fence} {n : Nat} {P : Program}
theorem wpIn_hands3 {g : Operand} {ps : Array Tmp} {assign body : Code} {Q : Exit → Act → World → Prop} {a : Act} {w : World}
    (hro : F.round = none) (h1 : 1 ≤ n) {gf : Nat} {lb : Array Value} (hg : a.eval g = .func (.func gf) #[] lb) (hFg : F.fn gf) (eg : ∀ args w, (callFunc gf args).run P w = .ok (.enter gf args) w)
    {encs : Nat → Array Value} {A E : Nat → Prop} {V : Nat → World → Prop} (hseq : Hands F (n - 1) P gf lb encs A E V) (hps : ∀ k, (encs k).size = ps.size)
    (I : Nat → World → Prop) (Ix : Code → Nat → World → Prop) (hIV : ∀ k X, I k X → V k X)
    (hI : ∀ k X Y, I k X → Fr (two2 w.heap.size) X Y → I k Y) (hIx : ∀ c k X Y, Ix c k X → Fr (two2 w.heap.size) X Y → Ix c k Y) (h0 : I 0 w)
    (hround : ∀ (l k : Nat) (X : World), I k X → A k → w.heap.size + 1 < X.heap.size → assign.wpIn (F.inRound l) (n - 1 - 1) P (Exit.then (fun a1 X1 => Stay w.heap.size X X1 ∧ ∀ Y, Fr (two2 w.heap.size) X1 Y → w.heap.size + 1 < Y.heap.size → body.wpIn (F.inRound l) (n - 1 - 1) P (postR w.heap.size I Ix (k + 1) Y) a1 Y) (fun _ _ _ => False)) { tmps := (ps.zip (encs k)).foldl (fun t (p, v) => t.setIfInBounds p v) a.tmps, defers := [] } X)
    (hdone : ∀ (k : Nat) (X : World), E k → I k X → X.heap[w.heap.size]? = some (.deferred (some [])) → Q .normal { a with defers := { target := .collected w.heap.size, args := #[] } :: a.defers } X)
    (hstop : ∀ (c : Code) (k : Nat) (X : World), Ix c k X → X.heap[w.heap.size]? = some (.deferred (some [])) → c.wpIn F n P Q { a with defers := { target := .collected w.heap.size, args := #[] } :: a.defers } X) :
    (Code.rangeFunc g ps assign body).wpIn F n P Q a w := by
  refine wpIn_rangeFunc fun fn hfn => ?_
  rw [hro]
  let D := w.heap.size
  let L := lrec fn a.tmps ps assign body D
  let W1 : World := (w.alloc (.deferred (some []))).alloc (.loop (L .ready none))
  have hs1 : (w.alloc (.deferred (some []))).heap.size = D + 1 := by simp [D]
  have r1 : W1.heap[D + 1]? = some (.loop (L .ready none)) := by
    have := World.alloc_heap_new (w.alloc (.deferred (some []))) (.loop (L .ready none))
    rw [hs1] at this
    exact this
  have r0 : W1.heap[D]? = some (.deferred (some [])) := (Below.heap_alloc _ _ _ (by rw [hs1]; omega)).trans (World.alloc_heap_new w _)
  have i1 : I 0 W1 := hI 0 w W1 h0 (((Fr.refl _ w).alloc _).alloc _)
  refine ⟨D + 1, [{ target := .collected D, args := #[] }], W1, { target := .fn (.func gf) lb, args := #[.func (.yield (D + 1)) #[] #[]] }, W1, gf, #[.func (.yield (D + 1)) #[] #[]] ++ lb, W1, run_enterLoop_outer _ _ _ _ _, by simp only [resolve, hg]; simp [go_sem], fun f' hf' => by simp [Target.leads] at hf'; subst hf'; exact hFg, by simp [invoke, go_sem, eg], fun _ => h1, ?_⟩
  have keep : ∀ {X Y : World} {k : Nat} {o : Obj}, Below X.heap.size X Y → X.heap[k]? = some o → Y.heap[k]? = some o := fun hb hx =>
    ((Fr.of_below (S := fun _ => False) hb).block _ (lt_of_some hx) (fun e => e)).trans hx
  refine (hseq (D + 1) (fun k X => I k X ∧ X.heap[D + 1]? = some (.loop (L .ready none)) ∧ X.heap[D]? = some (.deferred (some [])))
    (fun k X => ∃ c, Ix c k X ∧ X.heap[D + 1]? = some (.loop (L .done (some c))) ∧ X.heap[D]? = some (.deferred (some []))) W1
    (fun k X h => hIV k X h.1) (fun k X Y h hb => ⟨hI k X Y h.1 (Fr.of_below hb), keep hb h.2.1, keep hb h.2.2⟩)
    (fun k X Y ⟨c, q, u, v⟩ hb => ⟨c, hIx c k X Y q (Fr.of_below hb), keep hb u, keep hb v⟩) ?round ⟨i1, r1, r0⟩).mono ?after
  case round =>
    rintro k X ⟨hi, hl, hd⟩ hA
    refine ⟨fn, _, assign, body, run_yield (args := encs k) hl (hps k), roundIn_of_wpIn hfn (wpIn_mono (hround (D + 1) k X hi hA (lt_of_some hl)) ?_)⟩
    intro e0 a1 X1 hx
    cases e0 <;> first | exact hx.elim | skip
    obtain ⟨hst, hbody⟩ := hx
    have hl := hst.2.trans hl
    have hd := hst.1.trans hd
    refine ⟨_, run_beginRound hl rfl, ?_⟩
    have hlt := lt_of_some hl
    have b1 : (X1.putObj (D + 1) (.loop (L .busy none))).heap[D + 1]? = some (.loop (L .busy none)) := World.putObj_heap_same hlt
    have b0 : (X1.putObj (D + 1) (.loop (L .busy none))).heap[D]? = some (.deferred (some [])) := (World.putObj_heap_other (by omega)).trans hd
    have body1 := hbody (X1.putObj (D + 1) (.loop (L .busy none))) (fr_put D X1 _) (by rw [World.putObj_size]; exact hlt)
    have fin : ∀ (j : Option Code) (Y : World), Stay D (X1.putObj (D + 1) (.loop (L .busy none))) Y →
        (Instr.endRound (D + 1) j).run P Y = .ok (.bool j.isNone) (Y.putObj (D + 1) (.loop (L (if j.isNone then .ready else .done) j))) ∧
        (Y.putObj (D + 1) (.loop (L (if j.isNone then .ready else .done) j))).heap[D + 1]? = some (.loop (L (if j.isNone then .ready else .done) j)) ∧
        (Y.putObj (D + 1) (.loop (L (if j.isNone then .ready else .done) j))).heap[D]? = some (.deferred (some [])) := fun j Y hs => by
      have y1 := hs.2.trans b1
      exact ⟨run_endRound j y1, World.putObj_heap_same (lt_of_some y1), (World.putObj_heap_other (by omega)).trans (hs.1.trans b0)⟩
    refine wpIn_mono body1 ?_
    intro e a3 Y hp
    cases e with
    | normal =>
      obtain ⟨q1, q2, q3⟩ := fin none Y hp.1
      exact ⟨_, _, q1, .inl ⟨rfl, hI _ _ _ hp.2 (fr_put D Y _), q2, q3⟩⟩
    | ret =>
      obtain ⟨q1, q2, q3⟩ := fin (some .ret) Y hp.1
      exact ⟨_, _, q1, .inr ⟨rfl, .ret, hIx _ _ _ _ hp.2 (fr_put D Y _), q2, q3⟩⟩
    | exit i =>
      obtain ⟨q1, q2, q3⟩ := fin (some (.exit i)) Y hp.1
      exact ⟨_, _, q1, .inr ⟨rfl, .exit i, hIx _ _ _ _ hp.2 (fr_put D Y _), q2, q3⟩⟩
    | goto t =>
      obtain ⟨q1, q2, q3⟩ := fin (some (.goto t)) Y hp.1
      exact ⟨_, _, q1, .inr ⟨rfl, .goto t, hIx _ _ _ _ hp.2 (fr_put D Y _), q2, q3⟩⟩
    | panic ch => exact hp.elim
    | outgrown => exact hp.elim
  case after =>
    rintro e Y ⟨⟨v, rfl⟩, ⟨k, hE, hi, hl, hd⟩ | ⟨k, c, hi, hl, hd⟩⟩
    · exact ⟨none, _, run_endLoop hl (by simp [L, lrec]), hdone k _ hE (hI _ _ _ hi (fr_put D Y _)) ((World.putObj_heap_other (by omega)).trans hd)⟩
    · exact ⟨some c, _, run_endLoop hl (by simp [L, lrec]), hstop c k _ (hIx _ _ _ _ hi (fr_put D Y _)) ((World.putObj_heap_other (by omega)).trans hd)⟩

set_option linter.unusedVariables false
set_option linter.unusedSimpArgs false
attribute [local go_sem] Oper.semAt_some
def ir0 : InR := ⟨0, 0, 0, .slice none 0 0, 0, 0, 0, .slice none 0 0⟩
/-- What is handed over: the instructions from the last one on. -/
def encB (xs : List InR) (N k : Nat) : Array Value := #[.int .i64 ((N - 1 - k : Nat) : Int), inV (xs.getD (N - 1 - k) ir0)]
/-- The box holds the list. -/
def Vb (Bl : Nat) (lv : Value) (xs : List InR) (_ : Nat) (X : World) : Prop := X.cell? ⟨Bl, 0, none⟩ = some lv ∧ Rx X 8 lv xs.length (flt enIn xs)
set_option maxRecDepth 100000 in
set_option maxHeartbeats 1600000 in
theorem back1_hands (n : Nat) (Bl : Nat) (lv : Value) (xs : List InR) (hXN : xs.length ≤ 1048576) : Hands Fence.wide n Tryd.prog 63 #[.pointer (some ⟨Bl, 0, none⟩)] (encB xs xs.length) (fun k => k < xs.length) (fun k => k = xs.length) (Vb Bl lv xs) := by
  intro lp J Jx W hV hB hBx hY h0
  have HY := hide hY
  have HV := hide hV
  clear hV hB hBx hY
  obtain ⟨c0, r0⟩ := unhide HV 0 W h0
  obtain ⟨a, cap, rfl, hlc, hcm⟩ : ∃ a cap, lv = .slice a xs.length cap ∧ xs.length ≤ cap ∧ cap ≤ maxLen := by obtain ⟨_, a, c, e, h1, h2, _⟩ := r0; exact ⟨a, c, e, h1, h2⟩
  obtain ⟨N, hN⟩ : ∃ N, Hid (xs.length = N) := ⟨_, hide rfl⟩
  unfold maxLen at hcm
  rw [unhide hN] at c0 HV HY hXN hlc ⊢
  have hw1 : IntKind.i64.wrap ((N : Int) - 1) = (N : Int) - 1 := by go_arith
  have H0 := hide h0
  clear r0 h0
  refine callsIn_of_wp Tryd.func63 rfl trivial ?_ rfl
  simp only [Tryd.ntmps63, List.size_toArray, List.length_cons, List.length_nil, Nat.reduceAdd, Nat.reduceSub, Array.replicate_succ, Array.replicate_zero, List.push_toArray, List.append_toArray, List.nil_append, List.cons_append]
  gi_wp2_with fail
  gi_loopw [3] (fun i wr => ∃ k : Nat, Hid (k ≤ N) ∧ i = .int .i64 ((N : Int) - 1 - (k : Int)) ∧ Hid (J k wr)) (fun i _ => (intOf i + 1).toNat)
  case atStart => exact ⟨0, Nat.zero_le _, by simp, H0⟩
  case round =>
    obtain ⟨k, hk, rfl, HJ⟩ := hrel
    clear c0 H0
    by_cases hlt : k < N
    · obtain ⟨c1, r1⟩ := unhide HV k wr (unhide HJ)
      obtain ⟨M, hM⟩ : ∃ M, Hid (N - 1 - k = M) := ⟨_, hide rfl⟩
      have hM' := unhide hM
      have eM : (N : Int) - 1 - (k : Int) = (M : Int) := by omega
      obtain ⟨x, hx⟩ : ∃ x, xs[M]? = some x := ⟨_, List.getElem?_eq_getElem (by rw [unhide hN]; omega)⟩
      obtain ⟨b, off, c', e, _, _, hb, hcs⟩ := Rx.elem zIn r1 hx
      rw [unhide hN] at e
      cases e
      have q0 : wr.cell? ⟨b, off + M * 8, none⟩ = some (.int .i64 x.op) := hcs 0 _ rfl
      have q1 : wr.cell? ⟨b, off + M * 8 + 1, none⟩ = some (.int .i64 x.code) := hcs 1 _ rfl
      have q2 : wr.cell? ⟨b, off + M * 8 + 2, none⟩ = some (.int .i64 x.dst) := hcs 2 _ rfl
      have q3 : wr.cell? ⟨b, off + M * 8 + 3, none⟩ = some x.av := hcs 3 _ rfl
      have q4 : wr.cell? ⟨b, off + M * 8 + 4, none⟩ = some (.int .i64 x.n) := hcs 4 _ rfl
      have q5 : wr.cell? ⟨b, off + M * 8 + 5, none⟩ = some (.int .i64 x.pc) := hcs 5 _ rfl
      have q6 : wr.cell? ⟨b, off + M * 8 + 6, none⟩ = some (.int .i64 x.need) := hcs 6 _ rfl
      have q7 : wr.cell? ⟨b, off + M * 8 + 7, none⟩ = some x.ev := hcs 7 _ rfl
      obtain ⟨fn, tmps, assign, body, hy, hR⟩ := unhide HY k wr (unhide HJ) hlt
      unfold encB inV at hy
      rw [List.getD_eq_getElem?_getD, hM', hx, Option.getD_some] at hy
      have i0 : (0 : Int) ≤ (M : Int) := by omega
      have i1 : (M : Int) < (N : Int) := by omega
      have hw2 : IntKind.i64.wrap ((M : Int) - 1) = (M : Int) - 1 := by go_arith
      have HR := hide hR
      rw [eM]
      clear r1 hx hR hcs
      gi_wp2_with fail
      refine ⟨(fun q => by cases q), (unhide HR).mono ?_⟩
      rintro e W3 (⟨rfl, hJ3⟩ | ⟨rfl, hJx3⟩)
      · have HJ3 := hide hJ3
        clear hJ3 HR hy q0 q1 q2 q3 q4 q5 q6 q7 c1
        gi_wp2_with fail
        go_roundw
        case rel => exact ⟨k + 1, hlt, by rw [show ((N : Int) - 1 - ((k + 1 : Nat) : Int)) = (M : Int) - 1 by omega], HJ3⟩
        case measure => simp [intOf] <;> omega
      · have HJ3 := hide hJx3
        clear hJx3 HR hy q0 q1 q2 q3 q4 q5 q6 q7 c1
        gi_wp2_with fail
        refine bodyPost_ret (results_none rfl _ _ _) rfl ?_
        exact ⟨⟨_, rfl⟩, .inr ⟨k + 1, unhide HJ3⟩⟩
    · have hkN : k = N := by have := unhide hk; omega
      have i0 : ¬ ((0 : Int) ≤ (N : Int) - 1 - (k : Int)) := by omega
      gi_wp2_with fail
      go_end0
      exact ⟨⟨_, rfl⟩, .inl (by have := unhide HJ; rw [hkN] at this; exact this)⟩
theorem back_box (w : World) (a : Option Addr) (n c : Nat) : Calls Tryd.prog 44 #[.slice a n c] w fun e w' => e = .returned (.func (.func 63) #[] #[.pointer (some ⟨w.heap.size, 0, none⟩)]) ∧ w' = w.alloc (.cells #[.slice a n c] 45) := by
  go_enter Tryd.func44, Tryd.ntmps44
  go_wp2
  go_ret
  exact ⟨rfl, rfl⟩

set_option linter.unusedVariables false
set_option linter.unusedSimpArgs false
attribute [local go_sem] Oper.semAt_some
theorem Fr.past {S T : Nat → Prop} {a b c : World} (h : Fr S a b) (f : Fr T b c) (hT : ∀ k, k < a.heap.size → T k → S k) : Fr S a c :=
  ⟨f.os.trans h.os, f.tape.trans h.tape, f.output.trans h.output, Nat.le_trans h.size f.size,
    fun i hi hn => (f.block i (Nat.lt_of_lt_of_le hi h.size) (fun q => hn (hT i hi q))).trans (h.block i hi hn)⟩
/-- Behind k rounds. -/
structure GI (w : World) (b : Nat) (S : Rset) (l : List RIn) (lv : Value) (k : Nat) (X : World) : Prop where
  fr : Fr (fun q => q = b) w X
  b0 : X.heap[w.heap.size]? = some (.cells #[.pointer (some ⟨b, 0, none⟩)] 87)
  b1 : X.heap[w.heap.size + 1]? = some (.cells #[lv] 45)
  sb : SB X b (backL S (l.drop (l.length - k)))
  kl : k ≤ l.length
theorem GI.keep {w : World} {b : Nat} {S : Rset} {l : List RIn} {lv : Value} {k : Nat} {X Y : World} {Z : Nat → Prop} (h : GI w b S l lv k X) (hb : b < w.heap.size) (f : Fr Z X Y) (hZ : ∀ q, q < w.heap.size + 2 → ¬ Z q) : GI w b S l lv k Y := by
  have hk : ∀ q o, q < w.heap.size + 2 → X.heap[q]? = some o → Y.heap[q]? = some o := fun q o hq ho => (f.block q (Array.getElem?_eq_some_iff.1 ho).1 (hZ q hq)).trans ho
  exact ⟨h.fr.past f (fun q hq e => absurd e (hZ q (by omega))), hk _ _ (by omega) h.b0, hk _ _ (by omega) h.b1, h.sb.fr f (hZ b (by omega)), h.kl⟩
set_option maxRecDepth 100000 in
set_option maxHeartbeats 6400000 in
theorem goBack_any {w : World} {b : Nat} {S : Rset} {D : Nat → Prop} {l : List RIn} {lv : Value} (h : InsV D w l lv) (hD : ∀ k, D k → k ≠ b) (hb : SB w b S) (hL : l.length ≤ 1048576) :
    Calls Tryd.prog 24 #[.pointer (some ⟨b, 0, none⟩), lv] w (SetP b (backL S l) w) := by
  obtain ⟨n, hn⟩ : ∃ n : Nat, 4 ≤ n := ⟨4, Nat.le_refl _⟩
  refine (callsIn_wide (n := n)).1 ?_
  obtain ⟨rs, hrl, hrd, hre⟩ := h
  obtain ⟨a, cap, rfl, hlc, hcm⟩ := hrd.1.shape
  obtain ⟨N, hN⟩ : ∃ N, Hid (l.length = N) := ⟨_, hide rfl⟩
  rw [unhide hN] at hL hlc hrl hrd ⊢
  have hbl := hb.lt
  have HB := hide hb
  have HRD := hide hrd
  have HRE := hide hre
  have HD := hide hD
  have HRL := hide hrl
  clear hb hrd hre hD hrl
  refine callsIn_of_wp_marks Tryd.func24 rfl trivial ?_ rfl
  simp only [Tryd.ntmps24, List.size_toArray, List.length_cons, List.length_nil, Nat.reduceAdd, Nat.reduceSub, Array.replicate_succ, Array.replicate_zero, List.push_toArray, List.append_toArray, List.nil_append, List.cons_append]
  gi_wp2_with fail
  refine ⟨trivial, (fun q => by cases q), (callsIn_wide.2 (back_box _ _ _ _)).mono ?_⟩
  rintro e w1 ⟨rfl, ew⟩
  rw [ew]
  clear ew w1
  gi_wp2_with fail
  obtain ⟨W0, eW⟩ : ∃ W0, Hid (((w.alloc (Obj.cells #[.pointer (some ⟨b, 0, none⟩)] 87)).alloc (Obj.cells #[Value.slice a N cap] 45)) = W0) := ⟨_, hide rfl⟩
  have q8 : Below w.heap.size w W0 := by rw [← unhide eW]; exact bl_two w _ _
  have q1 : W0.heap[w.heap.size]? = some (.cells #[.pointer (some ⟨b, 0, none⟩)] 87) := by rw [← unhide eW]; exact (Below.heap_alloc _ _ _ (by simp)).trans (heap_alloc_new w _)
  have q2 : W0.heap[w.heap.size + 1]? = some (.cells #[Value.slice a N cap] 45) := by rw [← unhide eW]; have := heap_alloc_new (w.alloc (Obj.cells #[.pointer (some ⟨b, 0, none⟩)] 87)) (.cells #[Value.slice a N cap] 45); simpa using this
  have hs0 : W0.heap.size = w.heap.size + 2 := by rw [← unhide eW]; simp
  have hG : GI w b S l (.slice a N cap) 0 W0 := ⟨Fr.of_below q8, q1, q2, by rw [Nat.sub_zero, List.drop_length]; exact (unhide HB).below q8, Nat.zero_le _⟩
  rw [unhide eW]
  clear eW q1 q2 q8
  have hseq := back1_hands (n - 1) (w.heap.size + 1) (.slice a N cap) rs (by rw [unhide HRL]; exact hL)
  refine wpIn_hands3 rfl (by omega) (gf := 63) (lb := #[.pointer (some ⟨w.heap.size + 1, 0, none⟩)]) (by first | rfl | (simp [go_sem]; done)) trivial (enters_of Tryd.func63 (by kernel_rfl) rfl) hseq (fun _ => rfl)
    (GI w b S l (.slice a N cap)) (fun _ _ _ => False) (fun k X q => ⟨(blk_cells q.b1).1 0, by rw [unhide HRL]; exact ((unhide HRD).mv (D' := D) q.fr (fun k hk hd => ⟨unhide HD k hd, hd⟩)).1⟩)
    (fun k X Y q f => q.keep hbl f (fun b hb e => by unfold two2 at e; omega)) (fun c k X Y q f => q) hG ?round ?done ?stop
  case round =>
    rintro l2 k X hG hk hXl
    have hkN : k < N := by rw [unhide HRL] at hk; exact hk
    obtain ⟨M, hM⟩ : ∃ M, Hid (N - 1 - k = M) := ⟨_, hide rfl⟩
    have hM' := unhide hM
    obtain ⟨y, hy⟩ : ∃ y, rs[M]? = some y := ⟨_, List.getElem?_eq_getElem (by rw [unhide HRL]; omega)⟩
    obtain ⟨x, hx⟩ : ∃ x, l[M]? = some x := ⟨_, List.getElem?_eq_getElem (by rw [unhide hN]; omega)⟩
    simp only [encB, unhide HRL, List.getD_eq_getElem?_getD, hM', hy, Option.getD_some]
    have hP := unhide HRE M x y hx hy
    have HP := hide hP
    have HY := hide hy
    have HX := hide hx
    have HG := hide hG
    clear hG hk hP hy hx
    unfold inV
    obtain ⟨yop, ycode, ydst, yav, yn, ypc, yneed, yev⟩ := y
    obtain ⟨aa, ac, ea1, _, _⟩ := (unhide HP).2.2.2.2.2.2.1.1.shape
    obtain ⟨ea, ec, ea2, _, _⟩ := NV.shape (unhide HP).2.2.2.2.2.2.2
    simp only at ea1 ea2
    subst ea1 ea2
    obtain ⟨AL, hAL⟩ : ∃ z, Hid (x.args.length = z) := ⟨_, hide rfl⟩
    obtain ⟨EL, hEL⟩ : ∃ z, Hid (x.ex.length = z) := ⟨_, hide rfl⟩
    rw [unhide hAL, unhide hEL] at HP HY ⊢
    simp only
    gi_wp2_with fail
    obtain ⟨X1, hX1⟩ : ∃ X1, Hid (X.alloc (Obj.cells #[Value.int IntKind.i64 yop, Value.int IntKind.i64 ycode, Value.int IntKind.i64 ydst, Value.slice aa AL ac, Value.int IntKind.i64 yn, Value.int IntKind.i64 ypc, Value.int IntKind.i64 yneed, Value.slice ea EL ec] 51) = X1) := ⟨_, hide rfl⟩
    obtain ⟨q, hq⟩ : ∃ q, Hid (X.heap.size = q) := ⟨_, hide rfl⟩
    have hqX : w.heap.size + 4 ≤ q := by have := unhide hq; omega
    have HX1 : Hid (Fr (fun _ => False) X X1 ∧ X1.heap[q]? = some (Obj.cells #[Value.int IntKind.i64 yop, Value.int IntKind.i64 ycode, Value.int IntKind.i64 ydst, Value.slice aa AL ac, Value.int IntKind.i64 yn, Value.int IntKind.i64 ypc, Value.int IntKind.i64 yneed, Value.slice ea EL ec] 51)) := by
      rw [← unhide hX1, ← unhide hq]
      exact ⟨(Fr.refl _ _).alloc _, heap_alloc_new X _⟩
    rw [unhide hX1, unhide hq]
    refine ⟨⟨(unhide HX1).1.block _ (by omega) (fun e => e), (unhide HX1).1.block _ (by omega) (fun e => e)⟩, fun Y hXY hYs => ?_⟩
    have hFY : Fr (two2 W0.heap.size) X Y := ((unhide HX1).1.mono (fun _ _ e => e.elim)).trans hXY
    have hG := (unhide HG).keep hbl hFY (fun b hb e => by unfold two2 at e; omega)
    have hBQ : Y.heap[q]? = some (Obj.cells #[Value.int IntKind.i64 yop, Value.int IntKind.i64 ycode, Value.int IntKind.i64 ydst, Value.slice aa AL ac, Value.int IntKind.i64 yn, Value.int IntKind.i64 ypc, Value.int IntKind.i64 yneed, Value.slice ea EL ec] 51) := (hXY.block q (Array.getElem?_eq_some_iff.1 (unhide HX1).2).1 (by unfold two2; omega)).trans (unhide HX1).2
    obtain ⟨cq, _, lq⟩ := blk_cells hBQ
    obtain ⟨cp, _, lp⟩ := blk_cells hG.b0
    have d0 := cp 0
    have e0 := cq 0
    have e1 := cq 1
    have e2 := cq 2
    have e3 := cq 3
    have e4 := cq 4
    have e5 := cq 5
    have e6 := cq 6
    have e7 := cq 7
    simp at d0 e0 e1 e2 e3 e4 e5 e6 e7
    have HT := hide (back_any (D := D) (InP.mv D D (fun q => q = b) w Y x _ (unhide HP) hG.fr (fun k hk hd => ⟨unhide HD k hd, hd⟩)) (unhide HD) hG.sb)
    unfold inV at HT
    have HGY := hide hG
    have HYS := hide hYs
    clear hG hBQ cq cp HG hFY hXY hYs HX1 hX1
    gi_wp2_with fail
    refine ⟨trivial, (fun q => by cases q), (CallsIn.inRound l2 (callsIn_wide.2 (unhide HT))).mono ?_⟩
    rintro e Y2 ⟨⟨v2, rfl⟩, f2, s2⟩
    have HG2 : Hid (Stay W0.heap.size Y Y2 ∧ GI w b S l (.slice a N cap) (k + 1) Y2) := by
      have hys := unhide HYS
      have g := unhide HGY
      have h0 := blk_cells g.b0
      have h1 := blk_cells g.b1
      refine ⟨⟨f2.block _ (by omega) (by omega), f2.block _ (by omega) (by omega)⟩, g.fr.trans f2, (f2.block _ h0.2.2 (by omega)).trans g.b0, (f2.block _ h1.2.2 (by omega)).trans g.b1, ?_, by rw [unhide hN]; omega⟩
      rw [unhide hN, show N - (k + 1) = M by omega]
      have e := backL_drop S l (unhide HX)
      rw [show M + 1 = N - k by omega, ← unhide hN] at e
      rw [e]
      exact s2
    clear f2 s2 HT
    gi_wp2_with fail
    exact unhide HG2
  case done =>
    rintro k X hE hG hK
    have ek : k = N := by rw [unhide HRL] at hE; exact hE
    subst ek
    have g := hG
    have hsb := g.sb
    rw [unhide hN, Nat.sub_self, List.drop_zero] at hsb
    have HSB := hide hsb
    have HFR := hide g.fr
    clear hG g hsb
    gi_wp2_with fail
    have f : Fr (fun z => z = W0.heap.size) X (X.putObj W0.heap.size (.deferred none)) := ⟨rfl, rfl, rfl, by simp, fun k _ hk => World.putObj_heap_other hk⟩
    refine ⟨by simp, .inl ⟨_, _, rfl, run_takeDeferred hK, .tuple #[], ?_, ⟨_, rfl⟩, (unhide HFR).past f (fun k hk e => by omega), (unhide HSB).fr f (by omega)⟩⟩
    simp [results, Tryd.f24, go_sem]
  case stop =>
    rintro c k X hG hK
    exact hG.elim
end Go.Proofs.YtpbdmbmafjkinaaDoor
