/-
  cost.
-/
import Derived.Test.YtkpngfahnpidkaaPAsk3
namespace Go.Proofs.Ytkpngfahnpidkaa
open Go.RowKit
set_option linter.unusedVariables false
set_option linter.unusedSimpArgs false

theorem pick66 (w : World) (z : Int) : Calls Try.prog 11 #[.int .i64 z, .int .i64 66] w fun e w' => e = .returned (.int .i64 ((pick z 66 : Nat) : Int)) ∧ w' = w := pick_any w z 66 (by omega) (by omega)
theorem pick_small {z : Int} {n : Nat} (h0 : 0 ≤ z) (h1 : z < n) : ((pick z n : Nat) : Int) = z := by
  unfold pick
  rw [Int.emod_eq_of_lt h0 h1]
  omega
set_option maxRecDepth 100000 in
set_option maxHeartbeats 1600000 in
theorem cost_arr_yes {w : World} {p : OpD} {a : Option Addr} {L cp : Nat} (hlv : p.lv = .slice a L cp) (hN : L ≤ 8796093021952) (hL : L ≤ 4096) :
    Calls Try.prog 23 #[.int .i64 3, .agg (opC p)] w fun e w' => e = .returned (.tuple #[.int .i64 (2 + (L : Int)), .bool true]) ∧ Below w.heap.size w w' := by
  have O := Opx.new w p 38
  have o7 := O 7 (by omega)
  have o8 := O 8 (by omega)
  simp only [opL, List.getElem_cons_zero, List.getElem_cons_succ] at o7 o8
  have HB : Hid (Below w.heap.size w (w.alloc (.cells (opC p) 38))) := (Below.refl _ _).alloc (Nat.le_refl _) _
  have hz : w.heap.size < (w.alloc (.cells (opC p) 38)).heap.size := O.lt
  have HSZ : Hid (w.heap.size ≤ (w.alloc (.cells (opC p) 38)).heap.size) := Nat.le_of_lt hz
  have d1 : decide ((L : Int) ≤ 4096) = true := decide_eq_true (by omega)
  have n1 : L ≤ 4096 := hL
  unfold opC at *
  rw [hlv] at *
  clear O hz
  go_enter Try.func23, Try.ntmps23
  go_wp2_with fail
  go_quiet (fail)
  go_wp2_with fail
  go_ret2
  exact ⟨rfl, (unhide HB).trans ((Fr.drewN (S := fun _ => False) _).below (unhide HSZ) (fun _ _ e => e))⟩
set_option maxRecDepth 100000 in
set_option maxHeartbeats 1600000 in
theorem cost_arr_no {w : World} {p : OpD} {a : Option Addr} {L cp : Nat} (hlv : p.lv = .slice a L cp) (hN : L ≤ 8796093021952) (hL : 4096 < L) :
    Calls Try.prog 23 #[.int .i64 3, .agg (opC p)] w fun e w' => e = .returned (.tuple #[.int .i64 (2 + (L : Int)), .bool false]) ∧ Below w.heap.size w w' := by
  have O := Opx.new w p 38
  have o7 := O 7 (by omega)
  have o8 := O 8 (by omega)
  simp only [opL, List.getElem_cons_zero, List.getElem_cons_succ] at o7 o8
  have HB : Hid (Below w.heap.size w (w.alloc (.cells (opC p) 38))) := (Below.refl _ _).alloc (Nat.le_refl _) _
  have hz : w.heap.size < (w.alloc (.cells (opC p) 38)).heap.size := O.lt
  have HSZ : Hid (w.heap.size ≤ (w.alloc (.cells (opC p) 38)).heap.size) := Nat.le_of_lt hz
  have d1 : decide ((L : Int) ≤ 4096) = false := decide_eq_false (by omega)
  have n1 : ¬ L ≤ 4096 := by omega
  unfold opC at *
  rw [hlv] at *
  clear O hz
  go_enter Try.func23, Try.ntmps23
  go_wp2_with fail
  go_quiet (fail)
  go_wp2_with fail
  go_ret2
  exact ⟨rfl, (unhide HB).trans ((Fr.drewN (S := fun _ => False) _).below (unhide HSZ) (fun _ _ e => e))⟩
set_option maxRecDepth 100000 in
set_option maxHeartbeats 1600000 in
theorem cost_rec {w : World} {p : OpD} {a : Option Addr} {L cp : Nat} (hlv : p.lv = .slice a L cp) (hN : L ≤ 8796093021952) :
    Calls Try.prog 23 #[.int .i64 4, .agg (opC p)] w fun e w' => e = .returned (.tuple #[.int .i64 (2), .bool true]) ∧ Below w.heap.size w w' := by
  have O := Opx.new w p 38
  have o7 := O 7 (by omega)
  have o8 := O 8 (by omega)
  simp only [opL, List.getElem_cons_zero, List.getElem_cons_succ] at o7 o8
  have HB : Hid (Below w.heap.size w (w.alloc (.cells (opC p) 38))) := (Below.refl _ _).alloc (Nat.le_refl _) _
  have hz : w.heap.size < (w.alloc (.cells (opC p) 38)).heap.size := O.lt
  have HSZ : Hid (w.heap.size ≤ (w.alloc (.cells (opC p) 38)).heap.size) := Nat.le_of_lt hz
  unfold opC at *
  rw [hlv] at *
  clear O hz
  go_enter Try.func23, Try.ntmps23
  go_wp2_with fail
  go_ret2
  exact ⟨rfl, unhide HB⟩
set_option maxRecDepth 100000 in
set_option maxHeartbeats 1600000 in
theorem cost_bnd_yes {w : World} {p : OpD} {a : Option Addr} {L cp : Nat} (hlv : p.lv = .slice a L cp) (hN : L ≤ 8796093021952) (hL : L ≤ 4096) (hn : 0 ≤ p.n) :
    Calls Try.prog 23 #[.int .i64 5, .agg (opC p)] w fun e w' => e = .returned (.tuple #[.int .i64 (2 + (L : Int)), .bool true]) ∧ Below w.heap.size w w' := by
  have O := Opx.new w p 38
  have o7 := O 7 (by omega)
  have o8 := O 8 (by omega)
  simp only [opL, List.getElem_cons_zero, List.getElem_cons_succ] at o7 o8
  have HB : Hid (Below w.heap.size w (w.alloc (.cells (opC p) 38))) := (Below.refl _ _).alloc (Nat.le_refl _) _
  have hz : w.heap.size < (w.alloc (.cells (opC p) 38)).heap.size := O.lt
  have HSZ : Hid (w.heap.size ≤ (w.alloc (.cells (opC p) 38)).heap.size) := Nat.le_of_lt hz
  have d1 : decide ((L : Int) ≤ 4096) = true := decide_eq_true (by omega)
  have d2 : decide (p.n ≥ 0) = true := decide_eq_true (by omega)
  unfold opC at *
  rw [hlv] at *
  clear O hz
  go_enter Try.func23, Try.ntmps23
  go_wp2_with fail
  go_quiet (fail)
  go_wp2_with fail
  go_ret2
  exact ⟨rfl, (unhide HB).trans ((Fr.drewN (S := fun _ => False) _).below (unhide HSZ) (fun _ _ e => e))⟩
set_option maxRecDepth 100000 in
set_option maxHeartbeats 1600000 in
theorem cost_bnd_no1 {w : World} {p : OpD} {a : Option Addr} {L cp : Nat} (hlv : p.lv = .slice a L cp) (hN : L ≤ 8796093021952) (hL : 4096 < L) :
    Calls Try.prog 23 #[.int .i64 5, .agg (opC p)] w fun e w' => e = .returned (.tuple #[.int .i64 (2 + (L : Int)), .bool false]) ∧ Below w.heap.size w w' := by
  have O := Opx.new w p 38
  have o7 := O 7 (by omega)
  have o8 := O 8 (by omega)
  simp only [opL, List.getElem_cons_zero, List.getElem_cons_succ] at o7 o8
  have HB : Hid (Below w.heap.size w (w.alloc (.cells (opC p) 38))) := (Below.refl _ _).alloc (Nat.le_refl _) _
  have hz : w.heap.size < (w.alloc (.cells (opC p) 38)).heap.size := O.lt
  have HSZ : Hid (w.heap.size ≤ (w.alloc (.cells (opC p) 38)).heap.size) := Nat.le_of_lt hz
  have d1 : decide ((L : Int) ≤ 4096) = false := decide_eq_false (by omega)
  unfold opC at *
  rw [hlv] at *
  clear O hz
  go_enter Try.func23, Try.ntmps23
  go_wp2_with fail
  go_quiet (fail)
  go_wp2_with fail
  go_ret2
  exact ⟨rfl, (unhide HB).trans ((Fr.drewN (S := fun _ => False) _).below (unhide HSZ) (fun _ _ e => e))⟩
set_option maxRecDepth 100000 in
set_option maxHeartbeats 1600000 in
theorem cost_bnd_no2 {w : World} {p : OpD} {a : Option Addr} {L cp : Nat} (hlv : p.lv = .slice a L cp) (hN : L ≤ 8796093021952) (hL : L ≤ 4096) (hn : p.n < 0) :
    Calls Try.prog 23 #[.int .i64 5, .agg (opC p)] w fun e w' => e = .returned (.tuple #[.int .i64 (2 + (L : Int)), .bool false]) ∧ Below w.heap.size w w' := by
  have O := Opx.new w p 38
  have o7 := O 7 (by omega)
  have o8 := O 8 (by omega)
  simp only [opL, List.getElem_cons_zero, List.getElem_cons_succ] at o7 o8
  have HB : Hid (Below w.heap.size w (w.alloc (.cells (opC p) 38))) := (Below.refl _ _).alloc (Nat.le_refl _) _
  have hz : w.heap.size < (w.alloc (.cells (opC p) 38)).heap.size := O.lt
  have HSZ : Hid (w.heap.size ≤ (w.alloc (.cells (opC p) 38)).heap.size) := Nat.le_of_lt hz
  have d1 : decide ((L : Int) ≤ 4096) = true := decide_eq_true (by omega)
  have d2 : decide (p.n ≥ 0) = false := decide_eq_false (by omega)
  unfold opC at *
  rw [hlv] at *
  clear O hz
  go_enter Try.func23, Try.ntmps23
  go_wp2_with fail
  go_quiet (fail)
  go_wp2_with fail
  go_ret2
  exact ⟨rfl, (unhide HB).trans ((Fr.drewN (S := fun _ => False) _).below (unhide HSZ) (fun _ _ e => e))⟩
set_option maxRecDepth 100000 in
set_option maxHeartbeats 1600000 in
theorem cost_chn_yes {w : World} {p : OpD} {a : Option Addr} {L cp : Nat} (hlv : p.lv = .slice a L cp) (hN : L ≤ 8796093021952) (h1 : 1 ≤ p.n) (h2 : p.n ≤ 64) :
    Calls Try.prog 23 #[.int .i64 6, .agg (opC p)] w fun e w' => e = .returned (.tuple #[.int .i64 (2 + ((pick p.n 66 : Nat) : Int)), .bool true]) ∧ Below w.heap.size w w' := by
  have O := Opx.new w p 38
  have o7 := O 7 (by omega)
  have o8 := O 8 (by omega)
  simp only [opL, List.getElem_cons_zero, List.getElem_cons_succ] at o7 o8
  have HB : Hid (Below w.heap.size w (w.alloc (.cells (opC p) 38))) := (Below.refl _ _).alloc (Nat.le_refl _) _
  have hz : w.heap.size < (w.alloc (.cells (opC p) 38)).heap.size := O.lt
  have HSZ : Hid (w.heap.size ≤ (w.alloc (.cells (opC p) 38)).heap.size) := Nat.le_of_lt hz
  have hpk := pick_lt p.n (n := 66) (by omega)
  have d1 : decide (p.n ≥ 1) = true := decide_eq_true (by omega)
  have d2 : decide (p.n ≤ 64) = true := decide_eq_true (by omega)
  unfold opC at *
  rw [hlv] at *
  clear O hz
  go_enter Try.func23, Try.ntmps23
  go_wp2_with fail
  go_quiet ((first | (go_at_call 11; exact (pick66 _ _).mono fun _ _ ⟨he, hm⟩ => ⟨he, _, hm⟩) | fail))
  go_wp2_with fail
  go_ret2
  exact ⟨rfl, (unhide HB).trans ((Fr.drewN (S := fun _ => False) _).below (unhide HSZ) (fun _ _ e => e))⟩
set_option maxRecDepth 100000 in
set_option maxHeartbeats 1600000 in
theorem cost_chn_no1 {w : World} {p : OpD} {a : Option Addr} {L cp : Nat} (hlv : p.lv = .slice a L cp) (hN : L ≤ 8796093021952) (h1 : p.n < 1) :
    Calls Try.prog 23 #[.int .i64 6, .agg (opC p)] w fun e w' => e = .returned (.tuple #[.int .i64 (2 + ((pick p.n 66 : Nat) : Int)), .bool false]) ∧ Below w.heap.size w w' := by
  have O := Opx.new w p 38
  have o7 := O 7 (by omega)
  have o8 := O 8 (by omega)
  simp only [opL, List.getElem_cons_zero, List.getElem_cons_succ] at o7 o8
  have HB : Hid (Below w.heap.size w (w.alloc (.cells (opC p) 38))) := (Below.refl _ _).alloc (Nat.le_refl _) _
  have hz : w.heap.size < (w.alloc (.cells (opC p) 38)).heap.size := O.lt
  have HSZ : Hid (w.heap.size ≤ (w.alloc (.cells (opC p) 38)).heap.size) := Nat.le_of_lt hz
  have hpk := pick_lt p.n (n := 66) (by omega)
  have d1 : decide (p.n ≥ 1) = false := decide_eq_false (by omega)
  unfold opC at *
  rw [hlv] at *
  clear O hz
  go_enter Try.func23, Try.ntmps23
  go_wp2_with fail
  go_quiet ((first | (go_at_call 11; exact (pick66 _ _).mono fun _ _ ⟨he, hm⟩ => ⟨he, _, hm⟩) | fail))
  go_wp2_with fail
  go_ret2
  exact ⟨rfl, (unhide HB).trans ((Fr.drewN (S := fun _ => False) _).below (unhide HSZ) (fun _ _ e => e))⟩
set_option maxRecDepth 100000 in
set_option maxHeartbeats 1600000 in
theorem cost_chn_no2 {w : World} {p : OpD} {a : Option Addr} {L cp : Nat} (hlv : p.lv = .slice a L cp) (hN : L ≤ 8796093021952) (h1 : 1 ≤ p.n) (h2 : 64 < p.n) :
    Calls Try.prog 23 #[.int .i64 6, .agg (opC p)] w fun e w' => e = .returned (.tuple #[.int .i64 (2 + ((pick p.n 66 : Nat) : Int)), .bool false]) ∧ Below w.heap.size w w' := by
  have O := Opx.new w p 38
  have o7 := O 7 (by omega)
  have o8 := O 8 (by omega)
  simp only [opL, List.getElem_cons_zero, List.getElem_cons_succ] at o7 o8
  have HB : Hid (Below w.heap.size w (w.alloc (.cells (opC p) 38))) := (Below.refl _ _).alloc (Nat.le_refl _) _
  have hz : w.heap.size < (w.alloc (.cells (opC p) 38)).heap.size := O.lt
  have HSZ : Hid (w.heap.size ≤ (w.alloc (.cells (opC p) 38)).heap.size) := Nat.le_of_lt hz
  have hpk := pick_lt p.n (n := 66) (by omega)
  have d1 : decide (p.n ≥ 1) = true := decide_eq_true (by omega)
  have d2 : decide (p.n ≤ 64) = false := decide_eq_false (by omega)
  unfold opC at *
  rw [hlv] at *
  clear O hz
  go_enter Try.func23, Try.ntmps23
  go_wp2_with fail
  go_quiet ((first | (go_at_call 11; exact (pick66 _ _).mono fun _ _ ⟨he, hm⟩ => ⟨he, _, hm⟩) | fail))
  go_wp2_with fail
  go_ret2
  exact ⟨rfl, (unhide HB).trans ((Fr.drewN (S := fun _ => False) _).below (unhide HSZ) (fun _ _ e => e))⟩
set_option maxRecDepth 100000 in
set_option maxHeartbeats 1600000 in
theorem cost_spd_yes {w : World} {p : OpD} {a : Option Addr} {L cp : Nat} (hlv : p.lv = .slice a L cp) (hN : L ≤ 8796093021952) (h1 : 0 ≤ p.n) :
    Calls Try.prog 23 #[.int .i64 0, .agg (opC p)] w fun e w' => e = .returned (.tuple #[.int .i64 (p.n), .bool true]) ∧ Below w.heap.size w w' := by
  have O := Opx.new w p 38
  have o7 := O 7 (by omega)
  have o8 := O 8 (by omega)
  simp only [opL, List.getElem_cons_zero, List.getElem_cons_succ] at o7 o8
  have HB : Hid (Below w.heap.size w (w.alloc (.cells (opC p) 38))) := (Below.refl _ _).alloc (Nat.le_refl _) _
  have hz : w.heap.size < (w.alloc (.cells (opC p) 38)).heap.size := O.lt
  have HSZ : Hid (w.heap.size ≤ (w.alloc (.cells (opC p) 38)).heap.size) := Nat.le_of_lt hz
  have d1 : decide (p.n ≥ 0) = true := decide_eq_true (by omega)
  unfold opC at *
  rw [hlv] at *
  clear O hz
  go_enter Try.func23, Try.ntmps23
  go_wp2_with fail
  go_quiet (fail)
  go_wp2_with fail
  go_ret2
  exact ⟨rfl, (unhide HB).trans ((Fr.drewN (S := fun _ => False) _).below (unhide HSZ) (fun _ _ e => e))⟩
set_option maxRecDepth 100000 in
set_option maxHeartbeats 1600000 in
theorem cost_spd_no {w : World} {p : OpD} {a : Option Addr} {L cp : Nat} (hlv : p.lv = .slice a L cp) (hN : L ≤ 8796093021952) (h1 : p.n < 0) :
    Calls Try.prog 23 #[.int .i64 0, .agg (opC p)] w fun e w' => e = .returned (.tuple #[.int .i64 (p.n), .bool false]) ∧ Below w.heap.size w w' := by
  have O := Opx.new w p 38
  have o7 := O 7 (by omega)
  have o8 := O 8 (by omega)
  simp only [opL, List.getElem_cons_zero, List.getElem_cons_succ] at o7 o8
  have HB : Hid (Below w.heap.size w (w.alloc (.cells (opC p) 38))) := (Below.refl _ _).alloc (Nat.le_refl _) _
  have hz : w.heap.size < (w.alloc (.cells (opC p) 38)).heap.size := O.lt
  have HSZ : Hid (w.heap.size ≤ (w.alloc (.cells (opC p) 38)).heap.size) := Nat.le_of_lt hz
  have d1 : decide (p.n ≥ 0) = false := decide_eq_false (by omega)
  unfold opC at *
  rw [hlv] at *
  clear O hz
  go_enter Try.func23, Try.ntmps23
  go_wp2_with fail
  go_quiet (fail)
  go_wp2_with fail
  go_ret2
  exact ⟨rfl, (unhide HB).trans ((Fr.drewN (S := fun _ => False) _).below (unhide HSZ) (fun _ _ e => e))⟩
end Go.Proofs.Ytkpngfahnpidkaa
