/-
  Operations on numbers of one kind (2).
-/
import Derived.Test.YtncmegafkccblaaRk2
namespace Go.Proofs.Ytncmegafkccblaa
open Go.RowKit
set_option linter.unusedVariables false
set_option linter.unusedSimpArgs false
/-- A value and a truth came back. -/
def VB (w : World) (t : Bool) (e : Ending) (w' : World) : Prop := ∃ x y : Int, e = .returned (.tuple #[.agg #[.int .i64 x, .int .i64 y], .bool t]) ∧ Below w.heap.size w w'
theorem B1.fro {w W : World} {p q : Value} {t : TypeId} (h : B1 w p q t W) : (W.frozen? ⟨w.heap.size, 0, none⟩ = false ∧ W.frozen? ⟨w.heap.size, 1, none⟩ = false) ∧ w.heap.size < W.heap.size := by
  obtain ⟨-, f, z⟩ := blk_cells h.h
  exact ⟨⟨f 0, f 1⟩, z⟩
set_option maxRecDepth 100000 in
set_option maxHeartbeats 800000 in
theorem whole2_no (w : World) (op : Int) (av : Value) (h : decide (op ∈ W2) = false) : Calls Try.prog 12 #[.int .i64 op, .int .i64 2, av] w fun e w' => VB w false e w' := by
  have HW := hide (fun w => wh2_any w op)
  rw [h] at HW
  clear h
  have H0 := hide (B1.made w (.int .i64 0) (.int .i64 0) 38)
  go_enter Try.func12, Try.ntmps12
  go_wp2_with fail
  refine (unhide HW _).mono ?_
  rintro e w1 ⟨rfl, rfl⟩
  go_wp2_with fail
  refine bodyPost_ret (v := .tuple #[.agg #[.int .i64 0, .int .i64 0], .bool false]) ?_ rfl ?_
  · rw [results_ct2 rfl]
    go_simp
  · refine ⟨_, _, rfl, ?_⟩
    repeat (first | refine Below.setCell ?_ (by first | (simp; done) | (simp; omega)) _ | (with_reducible exact unhide H0) | (with_reducible exact (unhide H0).b))
set_option maxRecDepth 100000 in
set_option maxHeartbeats 800000 in
theorem whole2_yes {w : World} {op : Int} {g o n c : Nat} (h : decide (op ∈ W2) = true) (hn : n ≤ 1000) (ht : tkI op 0 = (n : Int)) (ha : Ar w g o n 2) (HR : ∀ W, Below w.heap.size w W → Calls Try.prog 18 #[.agg #[.int .i64 op, .int .i64 0], .slice (some ⟨g, o, none⟩) n c] W fun e w' => VN W e w') : Calls Try.prog 12 #[.int .i64 op, .int .i64 2, .slice (some ⟨g, o, none⟩) n c] w fun e w' => VB w true e w' := by
  have HW := hide (fun w => wh2_any w op)
  rw [h] at HW
  clear h
  have HE := hide (fun w => effect_any w op 0)
  rw [ht] at HE
  clear ht
  have HR := hide HR
  have H := hide ha
  clear ha
  have H0 := hide (B1.made w (.int .i64 0) (.int .i64 0) 38)
  go_enter Try.func12, Try.ntmps12
  go_wp2_with fail
  refine (unhide HW _).mono ?_
  rintro e w1 ⟨rfl, rfl⟩
  go_wp2_with fail
  refine (unhide HE _).mono ?_
  rintro e w1 ⟨rfl, b1⟩
  have H1 := hide ((unhide H0).go b1)
  clear b1 H0
  go_wp2_with fail
  go_loopg [34] n (fun gk t34 wr => ∃ k : Nat, Hid (k + gk = n) ∧ t34 = .int .i64 (k : Int) ∧ Hid (B1 w (.int .i64 0) (.int .i64 0) 38 wr))
  case atStart => exact ⟨0, by unfold Hid; omega, rfl, H1⟩
  case round =>
    obtain ⟨k, hk, rfl, hb⟩ := hrel
    by_cases hlt : k < n
    · have i1 : (k : Int) < (n : Int) := by omega
      obtain ⟨m, c0, c1⟩ := ((unhide H).go (unhide hb).b) k hlt
      have H2 := hide ((unhide hb).go (bl_one wr (.cells #[.int .i64 2, .int .i64 m] 38)))
      go_wp2_with fail
      go_roundg (gk - 1)
      case measure => have := unhide hk; omega
      case rel => exact ⟨k + 1, by have := unhide hk; unfold Hid; omega, by go_num, H2⟩
    · have i1 : ¬ (k : Int) < (n : Int) := by omega
      go_wp2_with fail
      refine (unhide HR _ (unhide hb).b).mono ?_
      rintro e w2 ⟨x, y, rfl, b1⟩
      have H2 := hide ((unhide hb).go b1)
      clear b1 hb
      have H3 := hide ((unhide H2).go (bl_one w2 (.cells #[.int .i64 x, .int .i64 y] 38)))
      obtain ⟨d0, d1⟩ := (unhide H3).cells
      obtain ⟨⟨f0, f1⟩, l⟩ := (unhide H3).fro
      obtain ⟨e0, e1⟩ := (unhide H2).cells
      obtain ⟨⟨k0, k1⟩, l2⟩ := (unhide H2).fro
      go_wp2_with fail
      refine bodyPost_ret (v := .tuple #[.agg #[.int .i64 x, .int .i64 y], .bool true]) ?_ rfl ?_
      · rw [results_ct2 rfl]
        go_simp
      · refine ⟨_, _, rfl, ?_⟩
        first | exact (((unhide H2).b.setCell (by simp) _).setCell (by simp) _).alloc (by have := l2; simp [World.setCell]; omega) _ | repeat (first | refine Below.setCell ?_ (by first | (simp; done) | (simp; omega)) _ | (with_reducible exact unhide H3) | (with_reducible exact (unhide H3).b))
set_option maxRecDepth 100000 in
set_option maxHeartbeats 800000 in
theorem whole3_no (w : World) (op : Int) (av : Value) (h : decide (op ∈ W3) = false) : Calls Try.prog 12 #[.int .i64 op, .int .i64 3, av] w fun e w' => VB w false e w' := by
  have HW := hide (fun w => wh3_any w op)
  rw [h] at HW
  clear h
  have H0 := hide (B1.made w (.int .i64 0) (.int .i64 0) 38)
  go_enter Try.func12, Try.ntmps12
  go_wp2_with fail
  refine (unhide HW _).mono ?_
  rintro e w1 ⟨rfl, rfl⟩
  go_wp2_with fail
  refine bodyPost_ret (v := .tuple #[.agg #[.int .i64 0, .int .i64 0], .bool false]) ?_ rfl ?_
  · rw [results_ct2 rfl]
    go_simp
  · refine ⟨_, _, rfl, ?_⟩
    repeat (first | refine Below.setCell ?_ (by first | (simp; done) | (simp; omega)) _ | (with_reducible exact unhide H0) | (with_reducible exact (unhide H0).b))
set_option maxRecDepth 100000 in
set_option maxHeartbeats 800000 in
theorem whole3_yes {w : World} {op : Int} {g o n c : Nat} (h : decide (op ∈ W3) = true) (hn : n ≤ 1000) (ht : tkI op 0 = (n : Int)) (ha : Ar w g o n 3) (HR : ∀ W, Below w.heap.size w W → Calls Try.prog 18 #[.agg #[.int .i64 op, .int .i64 0], .slice (some ⟨g, o, none⟩) n c] W fun e w' => VN W e w') : Calls Try.prog 12 #[.int .i64 op, .int .i64 3, .slice (some ⟨g, o, none⟩) n c] w fun e w' => VB w true e w' := by
  have HW := hide (fun w => wh3_any w op)
  rw [h] at HW
  clear h
  have HE := hide (fun w => effect_any w op 0)
  rw [ht] at HE
  clear ht
  have HR := hide HR
  have H := hide ha
  clear ha
  have H0 := hide (B1.made w (.int .i64 0) (.int .i64 0) 38)
  go_enter Try.func12, Try.ntmps12
  go_wp2_with fail
  refine (unhide HW _).mono ?_
  rintro e w1 ⟨rfl, rfl⟩
  go_wp2_with fail
  refine (unhide HE _).mono ?_
  rintro e w1 ⟨rfl, b1⟩
  have H1 := hide ((unhide H0).go b1)
  clear b1 H0
  go_wp2_with fail
  go_loopg [34] n (fun gk t34 wr => ∃ k : Nat, Hid (k + gk = n) ∧ t34 = .int .i64 (k : Int) ∧ Hid (B1 w (.int .i64 0) (.int .i64 0) 38 wr))
  case atStart => exact ⟨0, by unfold Hid; omega, rfl, H1⟩
  case round =>
    obtain ⟨k, hk, rfl, hb⟩ := hrel
    by_cases hlt : k < n
    · have i1 : (k : Int) < (n : Int) := by omega
      obtain ⟨m, c0, c1⟩ := ((unhide H).go (unhide hb).b) k hlt
      have H2 := hide ((unhide hb).go (bl_one wr (.cells #[.int .i64 3, .int .i64 m] 38)))
      go_wp2_with fail
      go_roundg (gk - 1)
      case measure => have := unhide hk; omega
      case rel => exact ⟨k + 1, by have := unhide hk; unfold Hid; omega, by go_num, H2⟩
    · have i1 : ¬ (k : Int) < (n : Int) := by omega
      go_wp2_with fail
      refine (unhide HR _ (unhide hb).b).mono ?_
      rintro e w2 ⟨x, y, rfl, b1⟩
      have H2 := hide ((unhide hb).go b1)
      clear b1 hb
      have H3 := hide ((unhide H2).go (bl_one w2 (.cells #[.int .i64 x, .int .i64 y] 38)))
      obtain ⟨d0, d1⟩ := (unhide H3).cells
      obtain ⟨⟨f0, f1⟩, l⟩ := (unhide H3).fro
      obtain ⟨e0, e1⟩ := (unhide H2).cells
      obtain ⟨⟨k0, k1⟩, l2⟩ := (unhide H2).fro
      go_wp2_with fail
      refine bodyPost_ret (v := .tuple #[.agg #[.int .i64 x, .int .i64 y], .bool true]) ?_ rfl ?_
      · rw [results_ct2 rfl]
        go_simp
      · refine ⟨_, _, rfl, ?_⟩
        first | exact (((unhide H2).b.setCell (by simp) _).setCell (by simp) _).alloc (by have := l2; simp [World.setCell]; omega) _ | repeat (first | refine Below.setCell ?_ (by first | (simp; done) | (simp; omega)) _ | (with_reducible exact unhide H3) | (with_reducible exact (unhide H3).b))
end Go.Proofs.Ytncmegafkccblaa
