/-
  The document's rules: of an instruction, of what comes next.
-/
import Derived.Test.YtiamoinhmkhaoaaAk
namespace Go.Proofs.Ytiamoinhmkhaoaa
open Go.RowKit
set_option linter.unusedVariables false
set_option linter.unusedSimpArgs false
/-- The box of an instruction. -/
def IX (w : World) (x : RIn) (aa : Option Addr) (ac : Nat) (ea : Option Addr) (ec : Nat) (X : World) : Prop := Below w.heap.size w X ∧ X.heap[w.heap.size]? = some (.cells #[.int .i64 x.op, .int .i64 x.code, .int .i64 x.dst, .slice aa x.args.length ac, .int .i64 x.n, .int .i64 x.pc, .int .i64 x.need, .slice ea x.ex.length ec] 43)
theorem IX.on {w X Y : World} {x : RIn} {aa ea : Option Addr} {ac ec : Nat} (h : IX w x aa ac ea ec X) (f : Below X.heap.size X Y) : IX w x aa ac ea ec Y :=
  ⟨h.1.trans (f.mono h.1.size), (f.block _ (Array.getElem?_eq_some_iff.1 h.2).1).trans h.2⟩
theorem IX.c {w X : World} {x : RIn} {aa ea : Option Addr} {ac ec : Nat} (h : IX w x aa ac ea ec X) : w.heap.size < X.heap.size ∧ X.cell? ⟨w.heap.size, 0, none⟩ = some (.int .i64 x.op) ∧ X.cell? ⟨w.heap.size, 1, none⟩ = some (.int .i64 x.code) ∧ X.cell? ⟨w.heap.size, 2, none⟩ = some (.int .i64 x.dst) ∧ X.cell? ⟨w.heap.size, 3, none⟩ = some (.slice aa x.args.length ac) ∧ X.cell? ⟨w.heap.size, 4, none⟩ = some (.int .i64 x.n) ∧ X.cell? ⟨w.heap.size, 5, none⟩ = some (.int .i64 x.pc) ∧ X.cell? ⟨w.heap.size, 6, none⟩ = some (.int .i64 x.need) ∧ X.cell? ⟨w.heap.size, 7, none⟩ = some (.slice ea x.ex.length ec) := by
  obtain ⟨q1, _, q3⟩ := blk_cells h.2
  exact ⟨q3, q1 0, q1 1, q1 2, q1 3, q1 4, q1 5, q1 6, q1 7⟩
theorem inS_nat (M : Rset) (r : Nat) : inS M (r : Int) = M r := by simp [inS]
set_option maxRecDepth 100000 in
set_option maxHeartbeats 6400000 in
theorem rule_any {w : World} {D : Nat → Prop} {x : RIn} {aa ea : Option Addr} {ac ec : Nat} {M : Rset} {bv : Value} (h : InP D w x ⟨x.op, x.code, x.dst, .slice aa x.args.length ac, x.n, x.pc, x.need, .slice ea x.ex.length ec⟩) (hB : BS w M bv) (hs : Sup M) (r : Nat) (hA : x.args.length ≤ 1048576) (hE : x.ex.length ≤ 1048576) (hS : ∀ s ∈ x.ex, s.sl.length ≤ 1048576) :
    Calls Try.prog 33 #[.agg #[.int .i64 x.op, .int .i64 x.code, .int .i64 x.dst, .slice aa x.args.length ac, .int .i64 x.n, .int .i64 x.pc, .int .i64 x.need, .slice ea x.ex.length ec], bv, .int .i64 (r : Int)] w fun e w' => e = .returned (.bool (ruleS M x r)) ∧ Below w.heap.size w w' := by
  obtain ⟨bg, bo, bc, eb, hbg, _⟩ := hB.read
  subst eb
  have HIX0 : Hid (IX w x aa ac ea ec (w.alloc (.cells #[.int .i64 x.op, .int .i64 x.code, .int .i64 x.dst, .slice aa x.args.length ac, .int .i64 x.n, .int .i64 x.pc, .int .i64 x.need, .slice ea x.ex.length ec] 43))) := ⟨box1n w _, heap_alloc_new w _⟩
  have HAS : Hid (∀ X, Below w.heap.size w X → Calls Try.prog 52 #[.agg #[.int .i64 x.op, .int .i64 x.code, .int .i64 x.dst, .slice aa x.args.length ac, .int .i64 x.n, .int .i64 x.pc, .int .i64 x.need, .slice ea x.ex.length ec], .int .i64 (r : Int)] X fun e w' => e = .returned (.bool (askE x r)) ∧ Below X.heap.size X w') := fun X hX => asks_any (InP.mv D D (fun _ => False) w X x _ h (Fr.of_below hX) (fun k hk d => ⟨fun e => e, d⟩)) r hA hE hS
  have HQ : Hid (∀ X, Calls Try.prog 34 #[.agg #[.int .i64 x.op, .int .i64 x.code, .int .i64 x.dst, .slice aa x.args.length ac, .int .i64 x.n, .int .i64 x.pc, .int .i64 x.need, .slice ea x.ex.length ec]] X fun e w' => e = .returned (.bool (quiet x)) ∧ Below X.heap.size X w') := fun X => quiet_any rfl
  have HIN : Hid (∀ X d, Below w.heap.size w X → Calls Try.prog 35 #[.slice (some ⟨bg, bo, none⟩) 512 bc, .int .i64 d] X fun e w' => e = .returned (.bool (inS M d)) ∧ ∃ m, w' = X.drewN m) := fun X d hX => in_any (Ro.fr hB (Fr.of_below (S := fun _ => False) hX) (fun _ _ e => e)) hs d
  clear h hB hs hA hE hS
  obtain ⟨AL, hAL⟩ : ∃ z, Hid (x.args.length = z) := ⟨_, hide rfl⟩
  obtain ⟨EL, hEL⟩ : ∃ z, Hid (x.ex.length = z) := ⟨_, hide rfl⟩
  obtain ⟨W, hW⟩ : ∃ W, Hid (w.alloc (.cells #[.int .i64 x.op, .int .i64 x.code, .int .i64 x.dst, .slice aa x.args.length ac, .int .i64 x.n, .int .i64 x.pc, .int .i64 x.need, .slice ea x.ex.length ec] 43) = W) := ⟨_, hide rfl⟩
  rw [unhide hW] at HIX0
  have hW' := unhide hW
  obtain ⟨wl, w0, w1, w2, w3, w4, w5, w6, w7⟩ := (unhide HIX0).c
  -- the second half, from wherever the first leaves
  have HRU : Hid (ruleS M x r = ((askE x r && (!quiet x || inS M x.dst)) || (M r && decide (x.dst ≠ (r : Int))))) := rfl
  have HIr := hide (inS_nat M r)
  cases hAk : askE x r with
  | true =>
    rw [hAk] at HAS HRU
    cases hQu : quiet x with
    | true =>
      rw [hQu] at HQ HRU
      cases hIn : inS M x.dst with
      | true =>
        have HV : Hid (ruleS M x r = true) := by unfold Hid; rw [unhide HRU, hIn]; rfl
        have HI1 := hide (fun X hX => unhide HIN X x.dst hX)
        rw [hIn] at HI1
        clear hAk hQu hIn HRU HIN HIr
        go_enter Try.func33, Try.ntmps33
        go_wp2_with fail
        refine (unhide HAS _ (unhide HIX0).1).mono ?_
        rintro e Y ⟨rfl, hY⟩
        have HIX1 := hide ((unhide HIX0).on hY)
        obtain ⟨yl, y0, y1, y2, y3, y4, y5, y6, y7⟩ := (unhide HIX1).c
        clear hY
        go_wp2_with fail
        refine (unhide HQ _).mono ?_
        rintro e Y2 ⟨rfl, hY⟩
        have HIX2 := hide ((unhide HIX1).on hY)
        obtain ⟨zl, z0, z1, z2, z3, z4, z5, z6, z7⟩ := (unhide HIX2).c
        clear hY
        go_wp2_with fail
        refine (unhide HI1 _ (unhide HIX2).1).mono ?_
        rintro e Y3 ⟨rfl, m, hm⟩
        have hY : Below Y2.heap.size Y2 Y3 := by rw [hm]; exact bl_drewN Y2 m
        clear hm
        have HIX3 := hide ((unhide HIX2).on hY)
        obtain ⟨ql, q0, q1, q2, q3, q4, q5, q6, q7⟩ := (unhide HIX3).c
        clear hY
        go_wp2_with fail
        go_ret
        exact ⟨by rw [unhide HV]; rfl, (unhide HIX3).1⟩

      | false =>
        have HI1 := hide (fun X hX => unhide HIN X x.dst hX)
        rw [hIn] at HI1
        cases hMr : M r with
        | false =>
          have HV : Hid (ruleS M x r = false) := by unfold Hid; rw [unhide HRU]; simp [hMr, hIn]
          have HI2 := hide (fun X hX => unhide HIN X (r : Int) hX)
          rw [unhide HIr, hMr] at HI2
          clear hAk hQu hIn HRU HIN HIr hMr
          go_enter Try.func33, Try.ntmps33
          go_wp2_with fail
          refine (unhide HAS _ (unhide HIX0).1).mono ?_
          rintro e Y ⟨rfl, hY⟩
          have HIX1 := hide ((unhide HIX0).on hY)
          obtain ⟨yl, y0, y1, y2, y3, y4, y5, y6, y7⟩ := (unhide HIX1).c
          clear hY
          go_wp2_with fail
          refine (unhide HQ _).mono ?_
          rintro e Y2 ⟨rfl, hY⟩
          have HIX2 := hide ((unhide HIX1).on hY)
          obtain ⟨zl, z0, z1, z2, z3, z4, z5, z6, z7⟩ := (unhide HIX2).c
          clear hY
          go_wp2_with fail
          refine (unhide HI1 _ (unhide HIX2).1).mono ?_
          rintro e Y3 ⟨rfl, m, hm⟩
          have hY : Below Y2.heap.size Y2 Y3 := by rw [hm]; exact bl_drewN Y2 m
          clear hm
          have HIX3 := hide ((unhide HIX2).on hY)
          obtain ⟨ql, q0, q1, q2, q3, q4, q5, q6, q7⟩ := (unhide HIX3).c
          clear hY
          go_wp2_with fail
          refine (unhide HI2 _ (unhide HIX3).1).mono ?_
          rintro e Y4 ⟨rfl, m, hm⟩
          have hY : Below Y3.heap.size Y3 Y4 := by rw [hm]; exact bl_drewN Y3 m
          clear hm
          have HIX4 := hide ((unhide HIX3).on hY)
          obtain ⟨pl, p0, p1, p2, p3, p4, p5, p6, p7⟩ := (unhide HIX4).c
          clear hY
          go_wp2_with fail
          go_ret
          exact ⟨by rw [unhide HV]; rfl, (unhide HIX4).1⟩

        | true =>
          have HI2 := hide (fun X hX => unhide HIN X (r : Int) hX)
          rw [unhide HIr, hMr] at HI2
          by_cases hd : x.dst = (r : Int)
          · have HV : Hid (ruleS M x r = false) := by unfold Hid; rw [unhide HRU]; first | (simp [hMr, hd, hIn]; done) | (exfalso; rw [hd, unhide HIr, hMr] at hIn; cases hIn)
            have d1 : (x.dst != (r : Int)) = false := by simp [hd]
            have d2 : decide (x.dst = (r : Int)) = true := by simp [hd]
            have d3 : (x.dst == (r : Int)) = true := by simp [hd]
            clear hAk hQu hIn HRU HIN HIr hMr hd
            go_enter Try.func33, Try.ntmps33
            go_wp2_with fail
            refine (unhide HAS _ (unhide HIX0).1).mono ?_
            rintro e Y ⟨rfl, hY⟩
            have HIX1 := hide ((unhide HIX0).on hY)
            obtain ⟨yl, y0, y1, y2, y3, y4, y5, y6, y7⟩ := (unhide HIX1).c
            clear hY
            go_wp2_with fail
            refine (unhide HQ _).mono ?_
            rintro e Y2 ⟨rfl, hY⟩
            have HIX2 := hide ((unhide HIX1).on hY)
            obtain ⟨zl, z0, z1, z2, z3, z4, z5, z6, z7⟩ := (unhide HIX2).c
            clear hY
            go_wp2_with fail
            refine (unhide HI1 _ (unhide HIX2).1).mono ?_
            rintro e Y3 ⟨rfl, m, hm⟩
            have hY : Below Y2.heap.size Y2 Y3 := by rw [hm]; exact bl_drewN Y2 m
            clear hm
            have HIX3 := hide ((unhide HIX2).on hY)
            obtain ⟨ql, q0, q1, q2, q3, q4, q5, q6, q7⟩ := (unhide HIX3).c
            clear hY
            go_wp2_with fail
            refine (unhide HI2 _ (unhide HIX3).1).mono ?_
            rintro e Y4 ⟨rfl, m, hm⟩
            have hY : Below Y3.heap.size Y3 Y4 := by rw [hm]; exact bl_drewN Y3 m
            clear hm
            have HIX4 := hide ((unhide HIX3).on hY)
            obtain ⟨pl, p0, p1, p2, p3, p4, p5, p6, p7⟩ := (unhide HIX4).c
            clear hY
            go_wp2_with fail
            go_ret
            exact ⟨by rw [unhide HV]; rfl, (unhide HIX4).1⟩

          · have HV : Hid (ruleS M x r = true) := by unfold Hid; rw [unhide HRU]; simp [hMr, hd, hIn]
            have d1 : (x.dst != (r : Int)) = true := by simp [hd]
            have d2 : decide (x.dst = (r : Int)) = false := by simp [hd]
            have d3 : (x.dst == (r : Int)) = false := by simp [hd]
            clear hAk hQu hIn HRU HIN HIr hMr hd
            go_enter Try.func33, Try.ntmps33
            go_wp2_with fail
            refine (unhide HAS _ (unhide HIX0).1).mono ?_
            rintro e Y ⟨rfl, hY⟩
            have HIX1 := hide ((unhide HIX0).on hY)
            obtain ⟨yl, y0, y1, y2, y3, y4, y5, y6, y7⟩ := (unhide HIX1).c
            clear hY
            go_wp2_with fail
            refine (unhide HQ _).mono ?_
            rintro e Y2 ⟨rfl, hY⟩
            have HIX2 := hide ((unhide HIX1).on hY)
            obtain ⟨zl, z0, z1, z2, z3, z4, z5, z6, z7⟩ := (unhide HIX2).c
            clear hY
            go_wp2_with fail
            refine (unhide HI1 _ (unhide HIX2).1).mono ?_
            rintro e Y3 ⟨rfl, m, hm⟩
            have hY : Below Y2.heap.size Y2 Y3 := by rw [hm]; exact bl_drewN Y2 m
            clear hm
            have HIX3 := hide ((unhide HIX2).on hY)
            obtain ⟨ql, q0, q1, q2, q3, q4, q5, q6, q7⟩ := (unhide HIX3).c
            clear hY
            go_wp2_with fail
            refine (unhide HI2 _ (unhide HIX3).1).mono ?_
            rintro e Y4 ⟨rfl, m, hm⟩
            have hY : Below Y3.heap.size Y3 Y4 := by rw [hm]; exact bl_drewN Y3 m
            clear hm
            have HIX4 := hide ((unhide HIX3).on hY)
            obtain ⟨pl, p0, p1, p2, p3, p4, p5, p6, p7⟩ := (unhide HIX4).c
            clear hY
            go_wp2_with fail
            go_ret
            exact ⟨by rw [unhide HV]; rfl, (unhide HIX4).1⟩

    | false =>
      rw [hQu] at HQ HRU
      have HV : Hid (ruleS M x r = true) := by unfold Hid; rw [unhide HRU]; rfl
      clear hAk hQu HRU HIN HIr
      go_enter Try.func33, Try.ntmps33
      go_wp2_with fail
      refine (unhide HAS _ (unhide HIX0).1).mono ?_
      rintro e Y ⟨rfl, hY⟩
      have HIX1 := hide ((unhide HIX0).on hY)
      obtain ⟨yl, y0, y1, y2, y3, y4, y5, y6, y7⟩ := (unhide HIX1).c
      clear hY
      go_wp2_with fail
      refine (unhide HQ _).mono ?_
      rintro e Y2 ⟨rfl, hY⟩
      have HIX2 := hide ((unhide HIX1).on hY)
      obtain ⟨zl, z0, z1, z2, z3, z4, z5, z6, z7⟩ := (unhide HIX2).c
      clear hY
      go_wp2_with fail
      go_ret
      exact ⟨by rw [unhide HV]; rfl, (unhide HIX2).1⟩

  | false =>
    rw [hAk] at HAS HRU
    cases hMr : M r with
    | false =>
      have HV : Hid (ruleS M x r = false) := by unfold Hid; rw [unhide HRU]; simp [hMr]
      have HI2 := hide (fun X hX => unhide HIN X (r : Int) hX)
      rw [unhide HIr, hMr] at HI2
      clear hAk HRU HIN HIr hMr
      go_enter Try.func33, Try.ntmps33
      go_wp2_with fail
      refine (unhide HAS _ (unhide HIX0).1).mono ?_
      rintro e Y ⟨rfl, hY⟩
      have HIX1 := hide ((unhide HIX0).on hY)
      obtain ⟨yl, y0, y1, y2, y3, y4, y5, y6, y7⟩ := (unhide HIX1).c
      clear hY
      go_wp2_with fail
      refine (unhide HI2 _ (unhide HIX1).1).mono ?_
      rintro e Y4 ⟨rfl, m, hm⟩
      have hY : Below Y.heap.size Y Y4 := by rw [hm]; exact bl_drewN Y m
      clear hm
      have HIX4 := hide ((unhide HIX1).on hY)
      obtain ⟨pl, p0, p1, p2, p3, p4, p5, p6, p7⟩ := (unhide HIX4).c
      clear hY
      go_wp2_with fail
      go_ret
      exact ⟨by rw [unhide HV]; rfl, (unhide HIX4).1⟩

    | true =>
      have HI2 := hide (fun X hX => unhide HIN X (r : Int) hX)
      rw [unhide HIr, hMr] at HI2
      by_cases hd : x.dst = (r : Int)
      · have HV : Hid (ruleS M x r = false) := by unfold Hid; rw [unhide HRU]; first | (simp [hMr, hd]; done) | (exfalso; rw [hd, unhide HIr, hMr] at hIn; cases hIn)
        have d1 : (x.dst != (r : Int)) = false := by simp [hd]
        have d2 : decide (x.dst = (r : Int)) = true := by simp [hd]
        have d3 : (x.dst == (r : Int)) = true := by simp [hd]
        clear hAk HRU HIN HIr hMr hd
        go_enter Try.func33, Try.ntmps33
        go_wp2_with fail
        refine (unhide HAS _ (unhide HIX0).1).mono ?_
        rintro e Y ⟨rfl, hY⟩
        have HIX1 := hide ((unhide HIX0).on hY)
        obtain ⟨yl, y0, y1, y2, y3, y4, y5, y6, y7⟩ := (unhide HIX1).c
        clear hY
        go_wp2_with fail
        refine (unhide HI2 _ (unhide HIX1).1).mono ?_
        rintro e Y4 ⟨rfl, m, hm⟩
        have hY : Below Y.heap.size Y Y4 := by rw [hm]; exact bl_drewN Y m
        clear hm
        have HIX4 := hide ((unhide HIX1).on hY)
        obtain ⟨pl, p0, p1, p2, p3, p4, p5, p6, p7⟩ := (unhide HIX4).c
        clear hY
        go_wp2_with fail
        go_ret
        exact ⟨by rw [unhide HV]; rfl, (unhide HIX4).1⟩

      · have HV : Hid (ruleS M x r = true) := by unfold Hid; rw [unhide HRU]; simp [hMr, hd]
        have d1 : (x.dst != (r : Int)) = true := by simp [hd]
        have d2 : decide (x.dst = (r : Int)) = false := by simp [hd]
        have d3 : (x.dst == (r : Int)) = false := by simp [hd]
        clear hAk HRU HIN HIr hMr hd
        go_enter Try.func33, Try.ntmps33
        go_wp2_with fail
        refine (unhide HAS _ (unhide HIX0).1).mono ?_
        rintro e Y ⟨rfl, hY⟩
        have HIX1 := hide ((unhide HIX0).on hY)
        obtain ⟨yl, y0, y1, y2, y3, y4, y5, y6, y7⟩ := (unhide HIX1).c
        clear hY
        go_wp2_with fail
        refine (unhide HI2 _ (unhide HIX1).1).mono ?_
        rintro e Y4 ⟨rfl, m, hm⟩
        have hY : Below Y.heap.size Y Y4 := by rw [hm]; exact bl_drewN Y m
        clear hm
        have HIX4 := hide ((unhide HIX1).on hY)
        obtain ⟨pl, p0, p1, p2, p3, p4, p5, p6, p7⟩ := (unhide HIX4).c
        clear hY
        go_wp2_with fail
        go_ret
        exact ⟨by rw [unhide HV]; rfl, (unhide HIX4).1⟩

end Go.Proofs.Ytiamoinhmkhaoaa
