/-
  What was handed in is written over.
-/
import Derived.Test.YtbnjfofkpagblaaLBi
namespace Go.Proofs.Ytbnjfofkpagblaa
open Go.RowKit
set_option linter.unusedVariables false
set_option linter.unusedSimpArgs false
theorem Rd.keep {B : Nat} {w w' : World} {r : Nat} {bud sp : Int} {rv : Value} {os : List Ob} {xs : List Obv} {S : Nat → Prop} (h : Rd B w r bud sp rv os xs) (f : Fr S w w') (hS : ∀ k, (k = r ∨ rv.ownBlock = some k ∨ ∃ x ∈ xs, blO x k) → ¬ S k) : Rd B w' r bud sp rv os xs :=
  have hr := (Array.getElem?_eq_some_iff.1 h.box).1
  ⟨(f.block r hr (hS r (.inl rfl))).trans h.box, h.row.fr staysO f (fun k _ hk => hS k (.inr hk)), h.ge⟩
theorem Rd.lt {B : Nat} {w : World} {r : Nat} {bud sp : Int} {rv : Value} {os : List Ob} {xs : List Obv} (h : Rd B w r bud sp rv os xs) {k : Nat} (hk : k = r ∨ rv.ownBlock = some k ∨ ∃ x ∈ xs, blO x k) : k < w.heap.size := by
  rcases hk with rfl | hk
  · exact (Array.getElem?_eq_some_iff.1 h.box).1
  · exact (h.row.in hk).2
theorem fRb_bounds {o : Ob} (h : fRb o = true) : o.its.length ≤ 4096 ∧ o.keys.length ≤ 4096 := by
  unfold fRb at h
  split at h
  · simp at h; have e := h.1.1.2; rw [e]; simp; omega
  · split at h
    · simp at h; have := h.1.1.1; omega
    · split at h
      · simp at h; have e := h.1.1.2; rw [e]; simp; omega
      · split at h
        · simp at h; have e := h.1.2; rw [e]; simp; omega
        · cases h
theorem lRb_bounds {os : List Ob} (h : lRb os = true) : ∀ o ∈ os, o.its.length ≤ 4096 ∧ o.keys.length ≤ 4096 := fun o ho => by
  unfold lRb at h
  rw [List.all_eq_true] at h
  have := h o ho
  unfold oRb at this
  rw [Bool.and_eq_true] at this
  exact fRb_bounds this.1
/-- Objects of which the first are written over. -/
def spl (i : Nat) (xs : List Obv) : List Obv := xs.mapIdx (fun j x => if j < i then { x with kind := 77 } else x)
theorem spl_zero (xs : List Obv) : spl 0 xs = xs := by
  unfold spl
  apply List.ext_getElem?
  intro j
  rw [List.getElem?_mapIdx]
  cases xs[j]? <;> simp
theorem spl_at {xs : List Obv} {i j : Nat} (h : i ≤ j) : (spl i xs)[j]? = xs[j]? := by
  unfold spl
  rw [List.getElem?_mapIdx]
  cases xs[j]? with
  | none => rfl
  | some x => simp only [Option.map_some]; rw [if_neg (by omega)]
theorem spl_succ {xs : List Obv} {i : Nat} {x : Obv} (h : xs[i]? = some x) : (spl i xs).set i { x with kind := 77 } = spl (i + 1) xs := by
  apply List.ext_getElem?
  intro j
  have hi := (List.getElem?_eq_some_iff.1 h).1
  rw [List.getElem?_set]
  unfold spl
  by_cases e : i = j
  · subst e
    rw [if_pos rfl, if_pos (by simpa using hi), List.getElem?_mapIdx, h]
    simp
  · rw [if_neg e, List.getElem?_mapIdx, List.getElem?_mapIdx]
    cases xs[j]? with
    | none => rfl
    | some y =>
      simp only [Option.map_some]
      by_cases q : j < i
      · rw [if_pos q, if_pos (by omega)]
      · rw [if_neg q, if_neg (by omega)]
/-- The blocks that are written over. -/
def Sx (iv : Value) (R : List Value) (xs : List Obv) (i k : Nat) : Prop := iv.ownBlock = some k ∨ ∃ j, j < i ∧ ((∃ q, R[j]? = some q ∧ blV q k) ∨ ∃ x, xs[j]? = some x ∧ blK x k)
theorem Sx.bim {rv iv : Value} {R : List Value} {xs : List Obv} {i k : Nat} (h : Sx iv R xs i k) : bim rv iv R xs k := by
  rcases h with h | ⟨j, _, ⟨q, hq, h⟩ | ⟨x, hx, h⟩⟩
  · exact .inr (.inl h)
  · exact .inl (.inr ⟨q, List.mem_of_getElem? hq, h⟩)
  · exact .inr (.inr ⟨x, List.mem_of_getElem? hx, h⟩)
theorem Sx.mono {iv : Value} {R : List Value} {xs : List Obv} {i k : Nat} (h : Sx iv R xs i k) : Sx iv R xs (i + 1) k := by
  rcases h with h | ⟨j, hj, h⟩
  · exact .inl h
  · exact .inr ⟨j, by omega, h⟩
section
variable {B : Nat} {w wq : World} {rv iv : Value} {ls : List (List (Int × Int))} {R : List Value} {os : List Ob} {xs : List Obv}
theorem BI.sx_row (h : BI B w rv iv ls R os xs) {i k : Nat} (hk : rv.ownBlock = some k) : ¬ Sx iv R xs i k := by
  rintro (e | ⟨j, _, ⟨q, hq, e⟩ | ⟨x, hx, e⟩⟩)
  · exact h.ap k (.inl e) (.inl hk)
  · exact (h.r.eb j q k hq e).2.2 hk
  · exact h.ap k (.inr ⟨x, List.mem_of_getElem? hx, e⟩) (.inl hk)
theorem BI.sx_room (h : BI B w rv iv ls R os xs) {i j k : Nat} {q : Value} (hq : R[j]? = some q) (hij : i ≤ j) (hk : blV q k) : ¬ Sx iv R xs i k := by
  rintro (e | ⟨m, hm, ⟨p, hp, e⟩ | ⟨x, hx, e⟩⟩)
  · exact h.ap k (.inl e) (.inr ⟨q, List.mem_of_getElem? hq, hk⟩)
  · exact h.r.ap m j p q k (by omega) hp hq e hk
  · exact h.ap k (.inr ⟨x, List.mem_of_getElem? hx, e⟩) (.inr ⟨q, List.mem_of_getElem? hq, hk⟩)
theorem BI.sx_key (h : BI B w rv iv ls R os xs) {i j k : Nat} {x : Obv} (hx : xs[j]? = some x) (hij : i ≤ j) (hk : blK x k) : ¬ Sx iv R xs i k := by
  rintro (e | ⟨m, hm, ⟨p, hp, e⟩ | ⟨y, hy, e⟩⟩)
  · exact (h.o.eb j x k hx hk).2.2 e
  · exact h.ap k (.inr ⟨x, List.mem_of_getElem? hx, hk⟩) (.inr ⟨p, List.mem_of_getElem? hp, e⟩)
  · exact h.o.ap m j y x k (by omega) hy hx e hk
end
/-- While what was handed in is written over. -/
structure SPS (W : World) (iv : Value) (R : List Value) (os : List Ob) (xs : List Obv) (i : Nat) (wq : World) : Prop where
  f : Fr (Sx iv R xs i) W wq
  row : Ro wq 6 iv os.length (flt enO (spl i xs))
theorem SPS.step {B : Nat} {W wq v1 v2 v3 : World} {rv iv : Value} {ls : List (List (Int × Int))} {R : List Value} {os : List Ob} {xs : List Obv} {i ig io ic : Nat} {x : Obv} {q : Value} (h : BI B W rv iv ls R os xs) (s : SPS W iv R os xs i wq) (hx : xs[i]? = some x) (hq : R[i]? = some q)
    (b1 : Below wq.heap.size wq v1) (f2 : Fr (fun k => blV q k) v1 v2) (f3 : Fr (fun k => blK x k) v2 v3) (ei : iv = .slice (some ⟨ig, io, none⟩) os.length ic) :
    SPS W iv R os xs (i + 1) (v3.setCell ⟨ig, io + i * 6 + 0, none⟩ (.int .i64 77)) := by
  have m1 : Fr (Sx iv R xs (i + 1)) W wq := s.f.mono (fun k _ e => e.mono)
  have m2 : Fr (Sx iv R xs (i + 1)) v1 v2 := f2.mono (fun k _ e => .inr ⟨i, by omega, .inl ⟨q, hq, e⟩⟩)
  have m3 : Fr (Sx iv R xs (i + 1)) v2 v3 := f3.mono (fun k _ e => .inr ⟨i, by omega, .inr ⟨x, hx, e⟩⟩)
  have r1 := s.row.fr (Fr.of_below (S := fun _ => False) b1) (fun _ _ e => e)
  have r2 := r1.fr f2 (fun k hk e => h.ap k (.inl hk) (.inr ⟨q, List.mem_of_getElem? hq, e⟩))
  have r3 := r2.fr f3 (fun k hk e => (h.o.eb i x k hx e).2.2 hk)
  obtain ⟨r4, f4⟩ := r3.put1 zO ei (i := i) (c := 0) (x := x) (x' := { x with kind := 77 }) (u := .int .i64 77) (by rw [spl_at (Nat.le_refl _)]; exact hx) (by omega) rfl
  rw [spl_succ hx] at r4
  refine ⟨((m1.trans (Fr.of_below b1)).trans (m2.trans m3)).trans (f4.mono (fun k _ e => .inl ?_)), r4⟩
  rw [ei, e]
  rfl
end Go.Proofs.Ytbnjfofkpagblaa
