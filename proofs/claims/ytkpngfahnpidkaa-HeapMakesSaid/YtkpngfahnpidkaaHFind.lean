/-
  The array, the record, the channel that a value names.
-/
import Derived.Test.YtkpngfahnpidkaaHTurn
namespace Go.Proofs.Ytkpngfahnpidkaa
open Go.RowKit
set_option linter.unusedVariables false

theorem ta_83_83 (p : Value) (w : World) : (Instr.typeAssert (.iface 83 p) 81 83 true).run Try.prog w = .ok (.tuple #[p, .bool true]) w := by kernel_rfl
theorem ta_86_83 (p : Value) (w : World) : (Instr.typeAssert (.iface 86 p) 81 83 true).run Try.prog w = .ok (.tuple #[.pointer none, .bool false]) w := by kernel_rfl
theorem ta_109_83 (p : Value) (w : World) : (Instr.typeAssert (.iface 109 p) 81 83 true).run Try.prog w = .ok (.tuple #[.pointer none, .bool false]) w := by kernel_rfl
theorem ta_75_83 (p : Value) (w : World) : (Instr.typeAssert (.iface 75 p) 81 83 true).run Try.prog w = .ok (.tuple #[.pointer none, .bool false]) w := by kernel_rfl
theorem ta_83_86 (p : Value) (w : World) : (Instr.typeAssert (.iface 83 p) 81 86 true).run Try.prog w = .ok (.tuple #[.pointer none, .bool false]) w := by kernel_rfl
theorem ta_86_86 (p : Value) (w : World) : (Instr.typeAssert (.iface 86 p) 81 86 true).run Try.prog w = .ok (.tuple #[p, .bool true]) w := by kernel_rfl
theorem ta_109_86 (p : Value) (w : World) : (Instr.typeAssert (.iface 109 p) 81 86 true).run Try.prog w = .ok (.tuple #[.pointer none, .bool false]) w := by kernel_rfl
theorem ta_75_86 (p : Value) (w : World) : (Instr.typeAssert (.iface 75 p) 81 86 true).run Try.prog w = .ok (.tuple #[.pointer none, .bool false]) w := by kernel_rfl
theorem ta_83_75 (p : Value) (w : World) : (Instr.typeAssert (.iface 83 p) 81 75 true).run Try.prog w = .ok (.tuple #[.pointer none, .bool false]) w := by kernel_rfl
theorem ta_86_75 (p : Value) (w : World) : (Instr.typeAssert (.iface 86 p) 81 75 true).run Try.prog w = .ok (.tuple #[.pointer none, .bool false]) w := by kernel_rfl
theorem ta_109_75 (p : Value) (w : World) : (Instr.typeAssert (.iface 109 p) 81 75 true).run Try.prog w = .ok (.tuple #[.pointer none, .bool false]) w := by kernel_rfl
theorem ta_75_75 (p : Value) (w : World) : (Instr.typeAssert (.iface 75 p) 81 75 true).run Try.prog w = .ok (.tuple #[p, .bool true]) w := by kernel_rfl
theorem ta_nil_83 (w : World) : (Instr.typeAssert .nilIface 81 83 true).run Try.prog w = .ok (.tuple #[.pointer none, .bool false]) w := by kernel_rfl
theorem ta_nil_86 (w : World) : (Instr.typeAssert .nilIface 81 86 true).run Try.prog w = .ok (.tuple #[.pointer none, .bool false]) w := by kernel_rfl
theorem ta_nil_75 (w : World) : (Instr.typeAssert .nilIface 81 75 true).run Try.prog w = .ok (.tuple #[.pointer none, .bool false]) w := by kernel_rfl
set_option maxRecDepth 100000 in
set_option maxHeartbeats 1600000 in
theorem array_hit {w : World} {h : Nat} {bud sp : Int} {ov : Value} {os : List OD} (H : Hp w h bud sp ov os) (kk n : Int) {o : OD} (hm : nm os kk n = some o) (hk : o.k = 6) :
    Calls Try.prog 85 #[.pointer (some ⟨h, 0, none⟩), .agg #[.int .i64 kk, .int .i64 n]] w fun e w' => e = .returned (.pointer (some ⟨o.b, 0, none⟩)) ∧ Below w.heap.size w w' := by
  have q0 := ta_83_83
  have q1 := ta_86_83
  have q2 := ta_109_83
  have q3 := ta_75_83
  have q4 := ta_nil_83
  have hB : Below w.heap.size w (w.alloc (.cells #[.int .i64 kk, .int .i64 n] 33)) := (Below.refl _ _).alloc (Nat.le_refl _) _
  have HN := named_any (H.below hB) kk n
  have ef : o.face = .iface 83 (.pointer (some ⟨o.b, 0, none⟩)) := by unfold OD.face; rw [hk]; rfl
  rw [hm, show nface (some o) = o.face from rfl, ef] at HN
  have HN := hide HN
  have HB := hide hB
  obtain ⟨b0, b1⟩ := two_new w (.int .i64 kk) (.int .i64 n) 33
  have hl := H.hlt
  clear H hm ef hB
  go_enter Try.func85, Try.ntmps85
  go_wp2_with fail
  refine (unhide HN).mono ?_
  rintro e1 w1 ⟨rfl, hb1⟩
  go_wp2_with fail
  go_ret
  exact ⟨rfl, (unhide HB).trans (hb1.mono (unhide HB).size)⟩
set_option maxRecDepth 100000 in
set_option maxHeartbeats 1600000 in
theorem array_miss {w : World} {h : Nat} {bud sp : Int} {ov : Value} {os : List OD} (H : Hp w h bud sp ov os) (kk n : Int) (hm : ∀ o, nm os kk n = some o → o.k ≠ 6) :
    Calls Try.prog 85 #[.pointer (some ⟨h, 0, none⟩), .agg #[.int .i64 kk, .int .i64 n]] w fun e w' => e = .returned (.pointer none) ∧ Below w.heap.size w w' := by
  have q0 := ta_83_83
  have q1 := ta_86_83
  have q2 := ta_109_83
  have q3 := ta_75_83
  have q4 := ta_nil_83
  have hB : Below w.heap.size w (w.alloc (.cells #[.int .i64 kk, .int .i64 n] 33)) := (Below.refl _ _).alloc (Nat.le_refl _) _
  have HN := named_any (H.below hB) kk n
  have HB := hide hB
  obtain ⟨b0, b1⟩ := two_new w (.int .i64 kk) (.int .i64 n) 33
  have hl := H.hlt
  have hf : nface (nm os kk n) = .nilIface ∨ ∃ t p, nface (nm os kk n) = .iface t p ∧ (t = 83 ∨ t = 86 ∨ t = 109 ∨ t = 75) ∧ t ≠ 83 := by
    cases e : nm os kk n with
    | none => exact .inl rfl
    | some o =>
      right
      have hk := hm o e
      have hok := H.ok _ _ (nm_some e).2.1
      refine ⟨pty o.k, _, rfl, ?_, ?_⟩
      · rcases OD.kinds hok with q | q | q | q <;> simp [pty, q]
      · rcases OD.kinds hok with q | q | q | q <;> simp [pty, q] <;> omega
  rcases hf with e | ⟨t, p, e, ht, hne⟩
  · rw [e] at HN
    have HN := hide HN
    clear H hm e hB
    go_enter Try.func85, Try.ntmps85
    go_wp2_with fail
    refine (unhide HN).mono ?_
    rintro e1 w1 ⟨rfl, hb1⟩
    go_wp2_with fail
    go_ret
    exact ⟨rfl, (unhide HB).trans (hb1.mono (unhide HB).size)⟩
  · rw [e] at HN
    have HN := hide HN
    clear H hm e hB
    rcases ht with rfl | rfl | rfl | rfl
    all_goals first | (exact absurd rfl hne) | skip
    all_goals clear hne
    all_goals go_enter Try.func85, Try.ntmps85
    all_goals go_wp2_with fail
    all_goals refine (unhide HN).mono ?_
    all_goals rintro e1 w1 ⟨rfl, hb1⟩
    all_goals go_wp2_with fail
    all_goals go_ret
    all_goals exact ⟨rfl, (unhide HB).trans (hb1.mono (unhide HB).size)⟩
set_option maxRecDepth 100000 in
set_option maxHeartbeats 1600000 in
theorem record_hit {w : World} {h : Nat} {bud sp : Int} {ov : Value} {os : List OD} (H : Hp w h bud sp ov os) (kk n : Int) {o : OD} (hm : nm os kk n = some o) (hk : o.k = 7) :
    Calls Try.prog 59 #[.pointer (some ⟨h, 0, none⟩), .agg #[.int .i64 kk, .int .i64 n]] w fun e w' => e = .returned (.pointer (some ⟨o.b, 0, none⟩)) ∧ Below w.heap.size w w' := by
  have q0 := ta_83_86
  have q1 := ta_86_86
  have q2 := ta_109_86
  have q3 := ta_75_86
  have q4 := ta_nil_86
  have hB : Below w.heap.size w (w.alloc (.cells #[.int .i64 kk, .int .i64 n] 33)) := (Below.refl _ _).alloc (Nat.le_refl _) _
  have HN := named_any (H.below hB) kk n
  have ef : o.face = .iface 86 (.pointer (some ⟨o.b, 0, none⟩)) := by unfold OD.face; rw [hk]; rfl
  rw [hm, show nface (some o) = o.face from rfl, ef] at HN
  have HN := hide HN
  have HB := hide hB
  obtain ⟨b0, b1⟩ := two_new w (.int .i64 kk) (.int .i64 n) 33
  have hl := H.hlt
  clear H hm ef hB
  go_enter Try.func59, Try.ntmps59
  go_wp2_with fail
  refine (unhide HN).mono ?_
  rintro e1 w1 ⟨rfl, hb1⟩
  go_wp2_with fail
  go_ret
  exact ⟨rfl, (unhide HB).trans (hb1.mono (unhide HB).size)⟩
set_option maxRecDepth 100000 in
set_option maxHeartbeats 1600000 in
theorem record_miss {w : World} {h : Nat} {bud sp : Int} {ov : Value} {os : List OD} (H : Hp w h bud sp ov os) (kk n : Int) (hm : ∀ o, nm os kk n = some o → o.k ≠ 7) :
    Calls Try.prog 59 #[.pointer (some ⟨h, 0, none⟩), .agg #[.int .i64 kk, .int .i64 n]] w fun e w' => e = .returned (.pointer none) ∧ Below w.heap.size w w' := by
  have q0 := ta_83_86
  have q1 := ta_86_86
  have q2 := ta_109_86
  have q3 := ta_75_86
  have q4 := ta_nil_86
  have hB : Below w.heap.size w (w.alloc (.cells #[.int .i64 kk, .int .i64 n] 33)) := (Below.refl _ _).alloc (Nat.le_refl _) _
  have HN := named_any (H.below hB) kk n
  have HB := hide hB
  obtain ⟨b0, b1⟩ := two_new w (.int .i64 kk) (.int .i64 n) 33
  have hl := H.hlt
  have hf : nface (nm os kk n) = .nilIface ∨ ∃ t p, nface (nm os kk n) = .iface t p ∧ (t = 83 ∨ t = 86 ∨ t = 109 ∨ t = 75) ∧ t ≠ 86 := by
    cases e : nm os kk n with
    | none => exact .inl rfl
    | some o =>
      right
      have hk := hm o e
      have hok := H.ok _ _ (nm_some e).2.1
      refine ⟨pty o.k, _, rfl, ?_, ?_⟩
      · rcases OD.kinds hok with q | q | q | q <;> simp [pty, q]
      · rcases OD.kinds hok with q | q | q | q <;> simp [pty, q] <;> omega
  rcases hf with e | ⟨t, p, e, ht, hne⟩
  · rw [e] at HN
    have HN := hide HN
    clear H hm e hB
    go_enter Try.func59, Try.ntmps59
    go_wp2_with fail
    refine (unhide HN).mono ?_
    rintro e1 w1 ⟨rfl, hb1⟩
    go_wp2_with fail
    go_ret
    exact ⟨rfl, (unhide HB).trans (hb1.mono (unhide HB).size)⟩
  · rw [e] at HN
    have HN := hide HN
    clear H hm e hB
    rcases ht with rfl | rfl | rfl | rfl
    all_goals first | (exact absurd rfl hne) | skip
    all_goals clear hne
    all_goals go_enter Try.func59, Try.ntmps59
    all_goals go_wp2_with fail
    all_goals refine (unhide HN).mono ?_
    all_goals rintro e1 w1 ⟨rfl, hb1⟩
    all_goals go_wp2_with fail
    all_goals go_ret
    all_goals exact ⟨rfl, (unhide HB).trans (hb1.mono (unhide HB).size)⟩
set_option maxRecDepth 100000 in
set_option maxHeartbeats 1600000 in
theorem channel_hit {w : World} {h : Nat} {bud sp : Int} {ov : Value} {os : List OD} (H : Hp w h bud sp ov os) (kk n : Int) {o : OD} (hm : nm os kk n = some o) (hk : o.k = 9) :
    Calls Try.prog 32 #[.pointer (some ⟨h, 0, none⟩), .agg #[.int .i64 kk, .int .i64 n]] w fun e w' => e = .returned (.pointer (some ⟨o.b, 0, none⟩)) ∧ Below w.heap.size w w' := by
  have q0 := ta_83_75
  have q1 := ta_86_75
  have q2 := ta_109_75
  have q3 := ta_75_75
  have q4 := ta_nil_75
  have hB : Below w.heap.size w (w.alloc (.cells #[.int .i64 kk, .int .i64 n] 33)) := (Below.refl _ _).alloc (Nat.le_refl _) _
  have HN := named_any (H.below hB) kk n
  have ef : o.face = .iface 75 (.pointer (some ⟨o.b, 0, none⟩)) := by unfold OD.face; rw [hk]; rfl
  rw [hm, show nface (some o) = o.face from rfl, ef] at HN
  have HN := hide HN
  have HB := hide hB
  obtain ⟨b0, b1⟩ := two_new w (.int .i64 kk) (.int .i64 n) 33
  have hl := H.hlt
  clear H hm ef hB
  go_enter Try.func32, Try.ntmps32
  go_wp2_with fail
  refine (unhide HN).mono ?_
  rintro e1 w1 ⟨rfl, hb1⟩
  go_wp2_with fail
  go_ret
  exact ⟨rfl, (unhide HB).trans (hb1.mono (unhide HB).size)⟩
set_option maxRecDepth 100000 in
set_option maxHeartbeats 1600000 in
theorem channel_miss {w : World} {h : Nat} {bud sp : Int} {ov : Value} {os : List OD} (H : Hp w h bud sp ov os) (kk n : Int) (hm : ∀ o, nm os kk n = some o → o.k ≠ 9) :
    Calls Try.prog 32 #[.pointer (some ⟨h, 0, none⟩), .agg #[.int .i64 kk, .int .i64 n]] w fun e w' => e = .returned (.pointer none) ∧ Below w.heap.size w w' := by
  have q0 := ta_83_75
  have q1 := ta_86_75
  have q2 := ta_109_75
  have q3 := ta_75_75
  have q4 := ta_nil_75
  have hB : Below w.heap.size w (w.alloc (.cells #[.int .i64 kk, .int .i64 n] 33)) := (Below.refl _ _).alloc (Nat.le_refl _) _
  have HN := named_any (H.below hB) kk n
  have HB := hide hB
  obtain ⟨b0, b1⟩ := two_new w (.int .i64 kk) (.int .i64 n) 33
  have hl := H.hlt
  have hf : nface (nm os kk n) = .nilIface ∨ ∃ t p, nface (nm os kk n) = .iface t p ∧ (t = 83 ∨ t = 86 ∨ t = 109 ∨ t = 75) ∧ t ≠ 75 := by
    cases e : nm os kk n with
    | none => exact .inl rfl
    | some o =>
      right
      have hk := hm o e
      have hok := H.ok _ _ (nm_some e).2.1
      refine ⟨pty o.k, _, rfl, ?_, ?_⟩
      · rcases OD.kinds hok with q | q | q | q <;> simp [pty, q]
      · rcases OD.kinds hok with q | q | q | q <;> simp [pty, q] <;> omega
  rcases hf with e | ⟨t, p, e, ht, hne⟩
  · rw [e] at HN
    have HN := hide HN
    clear H hm e hB
    go_enter Try.func32, Try.ntmps32
    go_wp2_with fail
    refine (unhide HN).mono ?_
    rintro e1 w1 ⟨rfl, hb1⟩
    go_wp2_with fail
    go_ret
    exact ⟨rfl, (unhide HB).trans (hb1.mono (unhide HB).size)⟩
  · rw [e] at HN
    have HN := hide HN
    clear H hm e hB
    rcases ht with rfl | rfl | rfl | rfl
    all_goals first | (exact absurd rfl hne) | skip
    all_goals clear hne
    all_goals go_enter Try.func32, Try.ntmps32
    all_goals go_wp2_with fail
    all_goals refine (unhide HN).mono ?_
    all_goals rintro e1 w1 ⟨rfl, hb1⟩
    all_goals go_wp2_with fail
    all_goals go_ret
    all_goals exact ⟨rfl, (unhide HB).trans (hb1.mono (unhide HB).size)⟩
end Go.Proofs.Ytkpngfahnpidkaa
