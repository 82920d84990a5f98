/-
  slices.DeleteFunc over handlers.
-/
import Derived.Test.YtiknljilfpekfaaDoorVWake
namespace Go.Proofs.YtiknljilfpekfaaDoor
open Go.RowKit
set_option linter.unusedVariables false
set_option linter.unusedSimpArgs false
/-- The cells of so many zero handlers. -/
def zrH (m : Nat) : List Value := (Builtin.zeroCells (.agg #[.int .i64 0, .int .i64 0, .int .i64 0, .int .i64 0] : Value).cells m).toList
theorem zrH_length (m : Nat) : (zrH m).length = m * 4 := by
  unfold zrH
  rw [Array.length_toList, size_zeroCells]
  rfl
theorem zrH_one (m : Nat) : ∀ v ∈ zrH m, v.oneCell' = true := by
  intro v hv
  unfold zrH Builtin.zeroCells at hv
  simp [Value.cells] at hv
  obtain ⟨a, _, rfl⟩ := hv
  have h4 : a % 4 = 0 ∨ a % 4 = 1 ∨ a % 4 = 2 ∨ a % 4 = 3 := by omega
  rcases h4 with q | q | q | q <;> rw [q] <;> rfl
theorem clear4 (w : World) (b o m c : Nat) (hm : 0 < m) (hc : ∀ j, j < m * 4 → (w.cell? ⟨b, o + j, none⟩).isSome = true ∧ w.frozen? ⟨b, o + j, none⟩ = false) (ty : TypeId) :
    (Builtin.clear_ #[23] ty #[.slice (some ⟨b, o, none⟩) m c]).run Tryd.prog w = .ok (.tuple #[]) (w.setCells b o (zrH m)) := by
  have hst := run_storeCells_cells (P := Tryd.prog) b o (zrH m) 0 w (by rw [zrH_length]; simpa using fun j hj => (hc j hj).1) (by rw [zrH_length]; simpa using fun j hj => (hc j hj).2) (zrH_one m)
  simp only [Nat.add_zero] at hst
  unfold zrH at hst ⊢
  cases m with
  | zero => omega
  | succ m => simp [Builtin.clear_, run_underlying Tryd.underlying23, hst]
/-- All handlers asked, one behind the other. -/
noncomputable def wkF (pc : Int) (hs : List Hd) (p : List Spot × List Spot) : List Spot × List Spot := hs.foldl (fun p h => (wkM pc p.1 h, wkL pc p.1 p.2 h)) p
theorem wkF_push (pc : Int) {hs : List Hd} {j : Nat} {h : Hd} (hh : hs[j]? = some h) (p : List Spot × List Spot) : wkF pc (hs.take (j + 1)) p = (wkM pc (wkF pc (hs.take j) p).1 h, wkL pc (wkF pc (hs.take j) p).1 (wkF pc (hs.take j) p).2 h) := by
  rw [take_push hh]; simp [wkF, List.foldl_append]
theorem wkF_skip {pc : Int} {hs : List Hd} (h : ∀ x ∈ hs, hol x pc = false) (p : List Spot × List Spot) : wkF pc hs p = p := by
  unfold wkF
  induction hs generalizing p with
  | nil => rfl
  | cons x r ih =>
    have hx := h x (by simp)
    rw [List.foldl_cons]
    have e : (wkM pc p.1 x, wkL pc p.1 p.2 x) = p := by unfold wkM wkL; rw [hx]; simp
    rw [e]
    exact ih (fun y hy => h y (by simp [hy])) p
theorem mtM_length (met : List Spot) (s : Spot) : (mtM met s).length ≤ met.length + 1 := by unfold mtM; split <;> simp
theorem mtL_length (met left : List Spot) (s : Spot) : (mtL met left s).length ≤ left.length + 1 := by unfold mtL; split <;> simp
theorem wkM_length (pc : Int) (met : List Spot) (h : Hd) : (wkM pc met h).length ≤ met.length + 1 := by
  unfold wkM
  split
  · exact mtM_length _ _
  · omega
theorem wkL_length (pc : Int) (met left : List Spot) (h : Hd) : (wkL pc met left h).length ≤ left.length + 1 := by
  unfold wkL
  split
  · exact mtL_length _ _ _
  · omega
theorem wkF_length (pc : Int) (hs : List Hd) : ∀ p, (wkF pc hs p).1.length ≤ p.1.length + hs.length ∧ (wkF pc hs p).2.length ≤ p.2.length + hs.length := by
  unfold wkF
  induction hs with
  | nil => intro p; simp
  | cons x r ih =>
    intro p
    rw [List.foldl_cons]
    have h1 := ih (wkM pc p.1 x, wkL pc p.1 p.2 x)
    have h2 := wkM_length pc p.1 x
    have h3 := wkL_length pc p.1 p.2 x
    simp only [List.length_cons] at h1 ⊢
    omega
/-- Those that do not hold the place. -/
def idl (pc : Int) (hs : List Hd) : List Hd := hs.filter (fun h => !hol h pc)
theorem idl_push (pc : Int) {hs : List Hd} {j : Nat} {h : Hd} (hh : hs[j]? = some h) : idl pc (hs.take (j + 1)) = if hol h pc then idl pc (hs.take j) else idl pc (hs.take j) ++ [h] := by
  rw [take_push hh]
  unfold idl
  rw [List.filter_append]
  cases e : hol h pc <;> simp [e]
theorem idl_all {pc : Int} {hs : List Hd} (h : ∀ x ∈ hs, hol x pc = false) : idl pc hs = hs := by
  unfold idl
  rw [List.filter_eq_self]
  intro x hx
  simp [h x hx]
/-- One handler is written over. -/
theorem Ro.putH {w : World} {n : Nat} {xs : List Hd} {g off cap : Nat} (h : Ro w 4 (.slice (some ⟨g, off, none⟩) n cap) n (flt enH xs)) (hn : xs.length = n) {i : Nat} (hi : i < n) (x : Hd) :
    Ro (w.setCells g (off + i * 4) (enH x)) 4 (.slice (some ⟨g, off, none⟩) n cap) n (flt enH (xs.set i x)) := by
  obtain ⟨_, _, e, hc, _⟩ := h.shape
  cases e
  refine (h.sets (v := .slice (some ⟨g, off, none⟩) n cap) rfl (o := off + i * 4) (m := n) (vs := enH x) (ys := flt enH (xs.set i x)) (by omega) (by rw [zH]; omega) hc (by rw [flt_length zH, List.length_set, hn]) (fun j hj => ?_) (fun j hj q => by omega)).1
  rw [flt_set zH xs i x (by omega) j, zH]
  by_cases q : i * 4 ≤ j ∧ j < i * 4 + 4
  · rw [if_pos q, if_pos (by omega)]
    congr 1
    omega
  · rw [if_neg q, if_neg (by omega)]
/-- The state of DeleteFunc: j were asked, i of them stay. -/
structure DlS (X0 : World) (Z pb qb : Nat) (pc : Int) (hs : List Hd) (p : List Spot × List Spot) (lv0 : Value) (g off cap : Nat) (i j : Nat) (ys : List Hd) (lv : Value) (X : World) : Prop where
  ij : i < j
  jn : j ≤ hs.length
  yl : ys.length = hs.length
  yt : ys.take i = idl pc (hs.take j)
  yd : ∀ k, j ≤ k → ys[k]? = hs[k]?
  ro : Ro X 4 (.slice (some ⟨g, off, none⟩) hs.length cap) hs.length (flt enH ys)
  ml : ML X Z (wkF pc (hs.take j) p).1 (wkF pc (hs.take j) p).2 lv
  fr : Fr (fun k => mtS Z lv0 k ∨ k = g) X0 X
  nw : nwL X0 lv0 lv
  bp : Bx X pb (.int .i64 pc)
  bq : Bx X qb (fM Z)
end Go.Proofs.YtiknljilfpekfaaDoor
