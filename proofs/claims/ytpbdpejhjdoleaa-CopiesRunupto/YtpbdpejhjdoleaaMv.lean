/-
  What an instruction moves; a register as an operand.
-/
import Derived.Test.YtpbdpejhjdoleaaSr
namespace Go.Proofs.Ytpbdpejhjdoleaa
open Go.RowKit
set_option linter.unusedVariables false
set_option linter.unusedSimpArgs false
set_option maxRecDepth 100000 in
theorem register_any (w : World) (k : Int) :
    Calls Try.prog 42 #[.int .i64 k] w fun e w' => e = .returned (opV (rgO k)) ∧ Below w.heap.size w w' := by
  have hb := box1n w (.cells #[.int .i64 0, .int .i64 k] 52)
  have HB := hide hb
  unfold opV rgO
  clear hb
  go_enter Try.func42, Try.ntmps42
  go_wp2_with fail
  refine bodyPost_ret (v := .agg #[.int .i64 0, .int .i64 k]) ?_ rfl ?_
  · rw [results_cell_one rfl]
    go_simp
  · exact ⟨rfl, unhide HB⟩
theorem mvd_no1 {x : RIn} (h : x.op ≠ 1) : mvd x = none := by unfold mvd; rw [if_neg (fun q => h q.1)]
theorem mvd_no2 {x : RIn} (h : x.args.length ≠ 1) : mvd x = none := by unfold mvd; rw [if_neg (fun q => h q.2.1)]
theorem mvd_no3 {x : RIn} (h : x.dst = -1) : mvd x = none := by unfold mvd; rw [if_neg (fun q => q.2.2 h)]
theorem mvd_yes {x : RIn} {o : Op} (h1 : x.op = 1) (h2 : x.args = [o]) (h3 : x.dst ≠ -1) : mvd x = some o := by
  unfold mvd
  rw [if_pos ⟨h1, by rw [h2]; rfl, h3⟩, h2]
  rfl
set_option maxRecDepth 100000 in
set_option maxHeartbeats 1600000 in
theorem moved_any {w : World} {D : Nat → Prop} {x : RIn} {r : InR} (h : InP D w x r) :
    Calls Try.prog 41 #[inV r] w fun e w' => e = .returned (.tuple #[opV (mvO (mvd x)), .bool (mvd x).isSome]) ∧ Below w.heap.size w w' := by
  obtain ⟨rop, rcode, rdst, av, rn, rpc, rneed, ev⟩ := r
  obtain ⟨h1, h2, h3, h4, h5, h6, h7, h8⟩ := h
  simp only at h1 h2 h3 h4 h5 h6 h7 h8
  obtain ⟨aa, ac, ea1, ha1, ha2⟩ := h7.1.shape
  obtain ⟨ea, ec, ee1, he1, he2⟩ := NV.shape h8
  subst ea1 ee1
  obtain ⟨AL, hAL⟩ : ∃ z, Hid (x.args.length = z) := ⟨_, hide rfl⟩
  obtain ⟨EL, hEL⟩ : ∃ z, Hid (x.ex.length = z) := ⟨_, hide rfl⟩
  obtain ⟨R, hR⟩ : ∃ z, Hid (mvd x = z) := ⟨_, hide rfl⟩
  have B2 := BX.two w #[.int .i64 rop, .int .i64 rcode, .int .i64 rdst, .slice aa AL ac, .int .i64 rn, .int .i64 rpc, .int .i64 rneed, .slice ea EL ec] #[.int .i64 0, .int .i64 0] 50 52
  have HP := hide h7.1
  unfold maxLen at ha2 he2
  unfold inV
  dsimp only
  rw [unhide hAL] at ha1 HP ⊢
  rw [unhide hEL] at he1 ⊢
  obtain ⟨W2, hW2⟩ : ∃ W, Hid ((w.alloc (.cells #[.int .i64 rop, .int .i64 rcode, .int .i64 rdst, .slice aa AL ac, .int .i64 rn, .int .i64 rpc, .int .i64 rneed, .slice ea EL ec] 50)).alloc (.cells #[.int .i64 0, .int .i64 0] 52) = W) := ⟨_, hide rfl⟩
  rw [unhide hW2] at B2
  have HB2 := hide B2
  rw [unhide hR]
  have c0 := B2.ce 0 rfl 0
  have c2 := B2.ce 0 rfl 2
  have c3 := B2.ce 0 rfl 3
  have z0 := B2.ce 1 rfl 0
  have z1 := B2.ce 1 rfl 1
  have fz0 : W2.frozen? ⟨w.heap.size + 1, 0, none⟩ = false := (blk_cells (B2.h 1 _ rfl)).2.1 0
  have fz1 : W2.frozen? ⟨w.heap.size + 1, 1, none⟩ = false := (blk_cells (B2.h 1 _ rfl)).2.1 1
  simp at c0 c2 c3 z0 z1
  have lb0 := B2.lt (i := 0) rfl
  have lb1 := B2.lt (i := 1) rfl
  simp at lb0 lb1
  subst h1 h2 h3 h4 h5 h6
  clear B2 h7 h8
  by_cases m1 : x.op = 1
  case neg =>
    have d1 : (x.op != 1) = true := by simp [m1]
    have e1 : (x.op == 1) = false := by simp [m1]
    have q := mvd_no1 m1
    rw [unhide hR] at q
    subst q
    clear m1 hR HP
    go_enter Try.func41, Try.ntmps41
    go_wp2_with fail
    rw [unhide hW2]
    go_wp2_with fail
    refine bodyPost_ret (v := .tuple #[.agg #[.int .i64 0, .int .i64 0], .bool false]) ?_ rfl ?_
    · rw [results_cell_tmp rfl]
      go_simp
    · refine ⟨rfl, ?_⟩
      repeat (first | refine Below.setCell ?_ (by simp) _ | with_reducible exact (unhide HB2).b)
  have d1 : (x.op != 1) = false := by simp [m1]
  have e1 : (x.op == 1) = true := by simp [m1]
  have M1 := hide m1
  clear m1
  by_cases m2 : AL = 1
  case neg =>
    have d2 : ((AL : Int) != 1) = true := by simp; omega
    have e2 : ((AL : Int) == 1) = false := by simp; omega
    have q := mvd_no2 (x := x) (by rw [unhide hAL]; exact m2)
    rw [unhide hR] at q
    subst q
    clear m2 hR HP
    go_enter Try.func41, Try.ntmps41
    go_wp2_with fail
    rw [unhide hW2]
    go_wp2_with fail
    refine bodyPost_ret (v := .tuple #[.agg #[.int .i64 0, .int .i64 0], .bool false]) ?_ rfl ?_
    · rw [results_cell_tmp rfl]
      go_simp
    · refine ⟨rfl, ?_⟩
      repeat (first | refine Below.setCell ?_ (by simp) _ | with_reducible exact (unhide HB2).b)
  subst m2
  by_cases m3 : x.dst = -1
  case pos =>
    have d3 : (x.dst == -1) = true := by simp [m3]
    have q := mvd_no3 m3
    rw [unhide hR] at q
    subst q
    clear m3 hR HP
    go_enter Try.func41, Try.ntmps41
    go_wp2_with fail
    rw [unhide hW2]
    go_wp2_with fail
    refine bodyPost_ret (v := .tuple #[.agg #[.int .i64 0, .int .i64 0], .bool false]) ?_ rfl ?_
    · rw [results_cell_tmp rfl]
      go_simp
    · refine ⟨rfl, ?_⟩
      repeat (first | refine Below.setCell ?_ (by simp) _ | with_reducible exact (unhide HB2).b)
  case neg =>
    have d3 : (x.dst == -1) = false := by simp [m3]
    obtain ⟨o, ho⟩ : ∃ o, x.args = [o] := by
      have hl := unhide hAL
      cases hx : x.args with
      | nil => rw [hx] at hl; simp at hl
      | cons o l =>
        cases l with
        | nil => exact ⟨o, rfl⟩
        | cons _ _ => rw [hx] at hl; simp at hl
    have q := mvd_yes (unhide M1) ho m3
    rw [unhide hR] at q
    subst q
    have hP := unhide HP
    rw [ho] at hP
    obtain ⟨g, off, cc, eg, _, _, hgl, hgc⟩ := hP.elem (l := [o]) zO (i := 0) rfl
    cases eg
    have g0 := hgc 0 _ rfl
    have g1 := hgc 1 _ rfl
    simp only [Nat.zero_mul, Nat.add_zero] at g0 g1
    have y0 := ((unhide HB2).b.cell (p := ⟨g, off, none⟩) hgl).trans g0
    have y1 := ((unhide HB2).b.cell (p := ⟨g, off + 1, none⟩) hgl).trans g1
    have hgl2 : g < w.heap.size + 1 := by omega
    have hgl3 : g < w.heap.size + 1 + 1 := by omega
    obtain ⟨ok, on⟩ := o
    clear m3 hR HP hP hgc
    go_enter Try.func41, Try.ntmps41
    go_wp2_with fail
    refine bodyPost_ret (v := .tuple #[.agg #[.int .i64 ok, .int .i64 on], .bool true]) ?_ rfl ?_
    · rw [results_cell_tmp rfl]
      go_simp
    · exact ⟨rfl, bl_two _ _ _⟩
end Go.Proofs.Ytpbdpejhjdoleaa
