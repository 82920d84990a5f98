/-
  A region that draws its order, within a round.
-/
import Derived.Sort.QuietIn
import Derived.OwnWalkIn
import Derived.RangeFuncCalls
namespace Go.Proofs.Ytfeombhileiamaa
open Go.RowKit
variable {F : Fence} {n : Nat} {P : Program}

def noDefer (ops : List Oper) : Bool := ops.all fun o => match o.op with | .defer _ => false | _ => true
theorem noDefer_spec {ops : List Oper} (h : noDefer ops = true) {o : Oper} (ho : o ∈ ops) : ∀ c, o.op ≠ .defer c := fun c e => by
  have := List.all_eq_true.1 h o ho
  rw [e] at this
  cases this
theorem upon_inRound {l : Nat} {o : Oper} {a : Act} {Q : Exit → Act → World → Prop} {K K' : Act → World → Prop} (hK : ∀ a w, K a w → K' a w) : ∀ {r : Result Next}, o.uponIn F n P a K Q r → o.uponIn (F.inRound l) n P a K' Q r := fun {r} h => by
  have hm : o.uponIn F n P a K' Q r := by
    revert h
    unfold Oper.uponIn
    split <;> intro h
    · exact hK _ _ h
    · exact hK _ _ h
    · exact hK _ _ h
    · refine ⟨h.1, h.2.mono fun e w' k => ?_⟩
      cases e <;> first | exact hK _ _ k | exact k
    · exact ⟨h.1, h.2.mono fun v w' k => hK _ _ k⟩
    · refine ⟨h.1, h.2.mono fun e w' k => ?_⟩
      cases e <;> first | exact hK _ _ k | exact k
    · exact h
    · exact h
  exact hm
theorem ops_inRound {l : Nat} {ops : Array Oper} {Q : Exit → Act → World → Prop} (hro : F.round = none) (hnd : noDefer ops.toList = true) : ∀ (is : List Nat) (a : Act) (w : World), wpOpsIn F n P ops Q is a w → wpOpsIn (F.inRound l) n P ops Q is a w
  | [], a, w, h => h
  | i :: rest, a, w, h => by
    unfold wpOpsIn at h ⊢
    cases ho : ops[i]? with
    | none => rw [ho] at h; exact ops_inRound hro hnd rest a w h
    | some o =>
      rw [ho] at h
      simp only at h ⊢
      have hm : o ∈ ops.toList := Array.mem_toList_iff.2 (Array.mem_of_getElem? ho)
      split at h
      · rename_i hw
        rw [if_pos hw]
        unfold Oper.wpIn at h ⊢
        refine ⟨h.1, ?_⟩
        have h2 := h.2
        rw [Oper.semAt_plain F _ _ (noDefer_spec hnd hm)] at h2
        rw [Oper.semAt_plain (F.inRound l) _ _ (noDefer_spec hnd hm)]
        exact upon_inRound (fun a w => ops_inRound hro hnd rest a w) h2
      · rename_i hw
        rw [if_neg hw]
        exact ⟨h.1, ops_inRound hro hnd rest _ _ h.2⟩
theorem wpIn_region_quiet_round {l₀ : Nat} {id : Nat} {Q : Exit → Act → World → Prop} {a : Act} {w : World} {l : List Oper} (hnd : noDefer l = true) (hro : F.round = none) (hm : P.follows .mixedOrders = true) (hB : Region.lexB .any l.toArray = true)
    (h : wpQuietIn F n P l.toArray (fun w' => ∃ n, w' = w.drewN n) (fun a' => ∀ w', (∃ n, w' = w.drewN n) → Q .normal a' w') l a) : (Code.region id l.toArray true).wpIn (F.inRound l₀) n P Q a w := by
  simp only [Region.lexB, Bool.and_eq_true] at hB
  refine wpIn_region_draw fun t => ?_
  refine ops_inRound hro (by simpa using hnd) _ _ _ ?_
  have key := wpAnyIn_of_quiet (F := F) (n := n) (P := P) (md := .any) (ops := l.toArray) (C := fun w' => ∃ n, w' = w.drewN n) (Q := fun a' => ∀ w', (∃ n, w' = w.drewN n) → Q .normal a' w') (Q' := Q) hro (fun _ w' hw' h => h w' hw') l.toArray.size (Array.replicate l.toArray.size false) a { w with drawn := w.drawn + 1 } ⟨1, rfl⟩ (by
    have := wpAnyQIn_lex (F := F) (n := n) (P := P) (C := fun w' => ∃ n, w' = w.drewN n) (md := .any) hB.1 l.toArray.toList 0 (Array.replicate l.toArray.size false) a (by simp) (by simpa using hB.2) (by simpa using h)
    simpa using this)
  simp only [Region.schedule, hm, Bool.true_or, if_true]
  exact wpAnyIn_sound l.toArray.size t _ a _ key
end Go.Proofs.Ytfeombhileiamaa
