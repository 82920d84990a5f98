/-
  What an operation on numbers traps.
-/
import Derived.Test.YtncmegafkccblaaOf
namespace Go.Proofs.Ytncmegafkccblaa
open Go.RowKit
set_option linter.unusedVariables false
set_option linter.unusedSimpArgs false
/-- A row of n values of one kind. -/
def Ar (w : World) (g o n : Nat) (k : Int) : Prop := ∀ j, j < n → ∃ m, w.cell? ⟨g, o + j * 2, none⟩ = some (.int .i64 k) ∧ w.cell? ⟨g, o + j * 2 + 1, none⟩ = some (.int .i64 m)
theorem Ar.go {w W : World} {g o n : Nat} {k : Int} (h : Ar w g o n k) (b : Below w.heap.size w W) : Ar W g o n k := fun j hj => by
  obtain ⟨m, c0, c1⟩ := h j hj
  exact ⟨m, (b.cell (World.block_lt_of_cell? _ _ c0)).trans c0, (b.cell (World.block_lt_of_cell? _ _ c1)).trans c1⟩
/-- A box of two cells that was just made: it is written, and later it reads. -/
structure B1 (w : World) (p q : Value) (t : TypeId) (W : World) : Prop where
  h : W.heap[w.heap.size]? = some (.cells #[p, q] t)
  b : Below w.heap.size w W
theorem B1.go {w W W' : World} {p q : Value} {t : TypeId} (h : B1 w p q t W) (k : Below W.heap.size W W') : B1 w p q t W' :=
  ⟨(k.block _ (Array.getElem?_eq_some_iff.1 h.h).1).trans h.h, bl_past h.b k⟩
theorem B1.made (w : World) (p q : Value) (t : TypeId) : B1 w p q t (w.alloc (.cells #[p, q] t)) := ⟨heap_alloc_new w _, bl_one w _⟩
theorem B1.cells {w W : World} {p q : Value} {t : TypeId} (h : B1 w p q t W) : W.cell? ⟨w.heap.size, 0, none⟩ = some p ∧ W.cell? ⟨w.heap.size, 1, none⟩ = some q := by
  obtain ⟨c, -, -⟩ := blk_cells h.h
  exact ⟨c 0, c 1⟩
set_option maxRecDepth 100000 in
set_option maxHeartbeats 800000 in
theorem trap2 {w : World} {g o n c : Nat} {op : Int} (h : Ar w g o n 2) (hn : n ≤ 1000) (e15 : (op == 15) = false) (e16 : (op == 16) = false) (e22 : (op == 22) = false) (e23 : (op == 23) = false) :
    Calls Try.prog 24 #[.int .i64 op, .slice (some ⟨g, o, none⟩) n c] w fun e w' => e = .returned (.int .i64 0) ∧ Below w.heap.size w w' := by
  have H := hide h
  have HI := hide (fun w => oI_any w op)
  generalize decide (op ∈ WI) = b at HI
  clear h
  go_enter Try.func24, Try.ntmps24
  go_wp2_with fail
  go_loopg [9] n (fun gk t9 wr => ∃ k : Nat, Hid (k + gk = n) ∧ t9 = .int .i64 (k : Int) ∧ Hid (Below w.heap.size w wr))
  case atStart => exact ⟨0, by unfold Hid; omega, rfl, hide (Below.refl _ _)⟩
  case round =>
    obtain ⟨k, hk, rfl, hb⟩ := hrel
    by_cases hlt : k < n
    · have i1 : (k : Int) < (n : Int) := by omega
      have HA := hide ((unhide H).go (unhide hb))
      obtain ⟨m, c0, c1⟩ := (unhide HA) k hlt
      have H1 := hide (B1.made wr (.int .i64 2) (.int .i64 m) 38)
      go_wp2_with fail
      clear c0 c1
      refine (isN2 _ m).mono ?_
      rintro e w1 ⟨rfl, b1⟩
      have H2 := hide ((unhide H1).go b1)
      clear b1 H1
      go_wp2_with fail
      refine (unhide HI _).mono ?_
      rintro e w2 ⟨rfl, rfl⟩
      cases b
      · go_wp2_with fail
        go_roundg (gk - 1)
        case measure => have := unhide hk; omega
        case rel => exact ⟨k + 1, by have := unhide hk; unfold Hid; omega, by go_num, hide (bl_past (unhide hb) (unhide H2).b)⟩
      · obtain ⟨d0, d1⟩ := (unhide H2).cells
        go_wp2_with fail
        clear d0 d1
        refine (isI2 _ m).mono ?_
        rintro e w3 ⟨rfl, b1⟩
        have H3 := hide ((unhide H2).go b1)
        clear b1 H2
        go_wp2_with fail
        go_roundg (gk - 1)
        case measure => have := unhide hk; omega
        case rel => exact ⟨k + 1, by have := unhide hk; unfold Hid; omega, by go_num, hide (bl_past (unhide hb) (unhide H3).b)⟩
    · have i1 : ¬ (k : Int) < (n : Int) := by omega
      go_wp2_with fail
      go_ret
      exact ⟨rfl, unhide hb⟩
set_option maxRecDepth 100000 in
set_option maxHeartbeats 800000 in
theorem trap3 {w : World} {g o n c : Nat} {op : Int} (h : Ar w g o n 3) (hn : n ≤ 1000) (e15 : (op == 15) = false) (e16 : (op == 16) = false) (e22 : (op == 22) = false) (e23 : (op == 23) = false) (hI : decide (op ∈ WI) = false) :
    Calls Try.prog 24 #[.int .i64 op, .slice (some ⟨g, o, none⟩) n c] w fun e w' => e = .returned (.int .i64 0) ∧ Below w.heap.size w w' := by
  have H := hide h
  have HI := hide (fun w => oI_any w op)
  rw [hI] at HI
  clear hI
  clear h
  go_enter Try.func24, Try.ntmps24
  go_wp2_with fail
  go_loopg [9] n (fun gk t9 wr => ∃ k : Nat, Hid (k + gk = n) ∧ t9 = .int .i64 (k : Int) ∧ Hid (Below w.heap.size w wr))
  case atStart => exact ⟨0, by unfold Hid; omega, rfl, hide (Below.refl _ _)⟩
  case round =>
    obtain ⟨k, hk, rfl, hb⟩ := hrel
    by_cases hlt : k < n
    · have i1 : (k : Int) < (n : Int) := by omega
      have HA := hide ((unhide H).go (unhide hb))
      obtain ⟨m, c0, c1⟩ := (unhide HA) k hlt
      have H1 := hide (B1.made wr (.int .i64 3) (.int .i64 m) 38)
      go_wp2_with fail
      clear c0 c1
      refine (isN3 _ m).mono ?_
      rintro e w1 ⟨rfl, b1⟩
      have H2 := hide ((unhide H1).go b1)
      clear b1 H1
      go_wp2_with fail
      refine (unhide HI _).mono ?_
      rintro e w2 ⟨rfl, rfl⟩
      go_wp2_with fail
      go_roundg (gk - 1)
      case measure => have := unhide hk; omega
      case rel => exact ⟨k + 1, by have := unhide hk; unfold Hid; omega, by go_num, hide (bl_past (unhide hb) (unhide H2).b)⟩
    · have i1 : ¬ (k : Int) < (n : Int) := by omega
      go_wp2_with fail
      go_ret
      exact ⟨rfl, unhide hb⟩
set_option maxRecDepth 100000 in
set_option maxHeartbeats 800000 in
theorem trapD {w : World} {g o c : Nat} (h : Ar w g o 2 3) :
    Calls Try.prog 24 #[.int .i64 15, .slice (some ⟨g, o, none⟩) 2 c] w fun e w' => e = .returned (.int .i64 0) ∧ Below w.heap.size w w' := by
  have H := hide h
  have HI := hide (fun w => oI_any w 15)
  have hI : decide ((15 : Int) ∈ WI) = false := by decide
  rw [hI] at HI
  clear hI
  clear h
  go_enter Try.func24, Try.ntmps24
  go_wp2_with fail
  go_loopg [9] 2 (fun gk t9 wr => ∃ k : Nat, Hid (k + gk = 2) ∧ t9 = .int .i64 (k : Int) ∧ Hid (Below w.heap.size w wr))
  case atStart => exact ⟨0, by unfold Hid; omega, rfl, hide (Below.refl _ _)⟩
  case round =>
    obtain ⟨k, hk, rfl, hb⟩ := hrel
    by_cases hlt : k < 2
    · have i1 : (k : Int) < 2 := by omega
      have HA := hide ((unhide H).go (unhide hb))
      obtain ⟨m, c0, c1⟩ := (unhide HA) k hlt
      have H1 := hide (B1.made wr (.int .i64 3) (.int .i64 m) 38)
      go_wp2_with fail
      clear c0 c1
      refine (isN3 _ m).mono ?_
      rintro e w1 ⟨rfl, b1⟩
      have H2 := hide ((unhide H1).go b1)
      clear b1 H1
      go_wp2_with fail
      refine (unhide HI _).mono ?_
      rintro e w2 ⟨rfl, rfl⟩
      go_wp2_with fail
      go_roundg (gk - 1)
      case measure => have := unhide hk; omega
      case rel => exact ⟨k + 1, by have := unhide hk; unfold Hid; omega, by go_num, hide (bl_past (unhide hb) (unhide H2).b)⟩
    · have i1 : ¬ (k : Int) < 2 := by omega
      obtain ⟨m, c0, c1⟩ := ((unhide H).go (unhide hb)) 0 (by omega)
      obtain ⟨m2, c2, c3⟩ := ((unhide H).go (unhide hb)) 1 (by omega)
      simp only [Nat.zero_mul, Nat.add_zero, Nat.one_mul] at c0 c1 c2 c3
      go_wp2_with fail
      clear c0 c1 c2 c3
      refine (isI3 _ m).mono ?_
      rintro e w1 ⟨rfl, b1⟩
      have HB := hide (bl_past (unhide hb) b1)
      clear b1
      go_wp2_with fail
      go_ret
      exact ⟨rfl, unhide HB⟩
end Go.Proofs.Ytncmegafkccblaa
