/-
  A profile's spot.
-/
import Derived.Test.YtjjfpokmpcpicaaSmP
namespace Go.Proofs.Ytjjfpokmpcpicaa
open Go.RowKit
set_option linter.unusedVariables false
set_option linter.unusedSimpArgs false
/-- How many spots a profile has of a function. -/
def szP (f : List (List Sp)) (fn : Int) : Nat := if fn < 0 then 0 else ((f[fn.toNat]?).getD []).length
/-- Its spot at a place. -/
def atP (f : List (List Sp)) (fn pc : Int) : Sp := if fn < 0 ∨ pc < 0 then spZ else (((f[fn.toNat]?).getD [])[pc.toNat]?).getD spZ
theorem atP_no {f : List (List Sp)} {fn pc : Int} (h : pc < 0 ∨ (szP f fn : Int) ≤ pc) : atP f fn pc = spZ := by
  unfold atP
  by_cases q : fn < 0 ∨ pc < 0
  · rw [if_pos q]
  · rw [if_neg q]
    unfold szP at h
    rw [if_neg (by omega)] at h
    rw [List.getElem?_eq_none (by omega)]
    rfl
theorem atP_at {f : List (List Sp)} {n k : Nat} {l : List Sp} {s : Sp} (hl : f[n]? = some l) (hs : l[k]? = some s) : atP f (n : Int) (k : Int) = s := by
  unfold atP
  rw [if_neg (by omega)]
  simp [hl, hs]
theorem szP_at {f : List (List Sp)} {n : Nat} {l : List Sp} (hl : f[n]? = some l) : szP f (n : Int) = l.length := by
  unfold szP
  rw [if_neg (by omega)]
  simp [hl]
theorem szP_no {f : List (List Sp)} {fn : Int} (h : fn < 0 ∨ (f.length : Int) ≤ fn) : szP f fn = 0 := by
  unfold szP
  by_cases q : fn < 0
  · rw [if_pos q]
  · rw [if_neg q, List.getElem?_eq_none (by omega)]; rfl
theorem box1 (w : World) (a : Value) (t1 : TypeId) : Below w.heap.size w (w.alloc (.cells #[a] t1)) := (Below.refl _ w).alloc (Nat.le_refl _) _
set_option maxRecDepth 100000 in
set_option maxHeartbeats 1600000 in
theorem size_any {w : World} {av : Value} {f : List (List Sp)} (ha : PfV w av f) (fn : Int) :
    Calls Try.prog 34 #[.agg #[av], .int .i64 fn] w fun e w' => e = .returned (.int .i64 (szP f fn : Int)) ∧ Below w.heap.size w w' := by
  obtain ⟨a, acap, rfl, ha1, ha2⟩ := ha.shape
  have HA := hide (fun i l (hl : f[i]? = some l) => ha.row hl)
  have HB := hide (box1 w (.slice a f.length acap) 28)
  unfold maxLen at ha2
  clear ha
  obtain ⟨L, hL⟩ : ∃ L, Hid (f.length = L) := ⟨_, hide rfl⟩
  by_cases h0 : fn < 0
  · rw [szP_no (.inl h0)]
    rw [unhide hL] at ha1 HB ⊢
    have d0 : decide (fn < 0) = true := by simpa using h0
    go_enter Try.func34, Try.ntmps34
    go_wp2_with fail
    go_ret
    exact ⟨rfl, unhide HB⟩
  · by_cases h1 : (f.length : Int) ≤ fn
    · rw [szP_no (.inr h1)]
      rw [unhide hL] at ha1 h1 HB ⊢
      have d0 : decide (fn < 0) = false := by simpa using h0
      have d1 : decide ((L : Int) ≤ fn) = true := by simpa using h1
      go_enter Try.func34, Try.ntmps34
      go_wp2_with fail
      go_ret
      exact ⟨rfl, unhide HB⟩
    · obtain ⟨n, rfl⟩ : ∃ n : Nat, fn = (n : Int) := ⟨fn.toNat, by omega⟩
      have hn : n < f.length := by omega
      obtain ⟨p, hp⟩ : ∃ p, f[n]? = some p := ⟨_, List.getElem?_eq_getElem hn⟩
      obtain ⟨ab, ao, pa, pc, ea, ha4, ca, _, ha5, ha6⟩ := unhide HA n p hp
      subst ea
      rw [szP_at hp]
      obtain ⟨P, hP⟩ : ∃ P, Hid (p.length = P) := ⟨_, hide rfl⟩
      rw [unhide hP] at ca ha5 ⊢
      rw [unhide hL] at ha1 h1 hn HB ⊢
      have i0 : (0 : Int) ≤ (n : Int) := by omega
      have i1 : (n : Int) < (L : Int) := by omega
      have hb1 : ab < w.heap.size + 1 := by have h4 : ab < w.heap.size := ha4; omega
      have hab : ab < w.heap.size := ha4
      have d0 : decide ((n : Int) < 0) = false := decide_eq_false h0
      have d1 : decide ((L : Int) ≤ (n : Int)) = false := by simpa using h1
      clear hp h0 h1 HA
      go_enter Try.func34, Try.ntmps34
      go_wp2_with fail
      go_ret
      exact ⟨rfl, unhide HB⟩
end Go.Proofs.Ytjjfpokmpcpicaa
