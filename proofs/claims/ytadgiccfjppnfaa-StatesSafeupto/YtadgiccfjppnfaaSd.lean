/-
  Safepoints of states, of both sides.
-/
import Derived.Test.YtadgiccfjppnfaaSa
namespace Go.Proofs.Ytadgiccfjppnfaa
open Go.RowKit
set_option linter.unusedVariables false
set_option linter.unusedSimpArgs false
set_option maxRecDepth 100000 in
set_option maxHeartbeats 3200000 in
theorem dSafe_no {w : World} {pv v : Value} {p : Pg} {s : St} (hp : PgV w pv p) (h : StV w v s) (hs : StB s) (hx : nxD p s s.cur = none) :
    Calls Try.prog 17 #[pv, v] w fun e w' => e = .returned (.bool false) ∧ Below w.heap.size w w' := by
  have HR0 := fun O1 O2 => dNext_any (hp.below (bl_two w O1 O2) (Nat.le_refl _)) (h.below (bl_two w O1 O2) (Nat.le_refl _)) hs s.cur
  rw [hx] at HR0
  have HR := hide HR0
  obtain ⟨ta, tc, oa, oc, ba, bc, rfl, -, -, -, t1, t2, o1, o2, b1, b2⟩ := h.shape
  unfold maxLen at t2 o2 b2
  obtain ⟨ca, cc, pa, pc, rfl, hr, f1, f2⟩ := hp.shape
  unfold maxLen at f2
  obtain ⟨NT, hNT⟩ : ∃ n, Hid (s.texts.length = n) := ⟨_, hide rfl⟩
  obtain ⟨NO, hNO⟩ : ∃ n, Hid (s.objs.length = n) := ⟨_, hide rfl⟩
  obtain ⟨NB, hNB⟩ : ∃ n, Hid (s.fibs.length = n) := ⟨_, hide rfl⟩
  obtain ⟨NC, hNC⟩ : ∃ n, Hid (p.consts.length = n) := ⟨_, hide rfl⟩
  obtain ⟨NF, hNF⟩ : ∃ n, Hid (p.funcs.length = n) := ⟨_, hide rfl⟩
  rw [unhide hNT, unhide hNO, unhide hNB] at HR ⊢
  rw [unhide hNC, unhide hNF] at HR ⊢
  rw [unhide hNF] at f1
  have HB0 := hide (bl_two w)
  clear h hp hr HR0 hx
  go_enter Try.func17, Try.ntmps17
  go_wp2_with fail
  refine (unhide HR _ _).mono ?_
  rintro e w1 ⟨rfl, hb1⟩
  have HB1 := hide (bl_past (unhide HB0 _ _) hb1)
  clear hb1 HR
  go_wp2_with fail
  go_quiet (fail)
  go_wp2_with fail
  go_ret
  exact ⟨rfl, bl_past (bl_past (unhide HB1) (bl_two w1 _ _)) (bl_drewN _ _)⟩
set_option maxRecDepth 100000 in
set_option maxHeartbeats 3200000 in
theorem dSafe_yes {w : World} {pv v : Value} {p : Pg} {s : St} (hp : PgV w pv p) (h : StV w v s) (hs : StB s) {x : Int × Int} {f : Fm} {ff : Fc} (hx : nxD p s s.cur = some (x, f)) (gi : Nat) (hg : f.fn = gi) (hff : p.funcs[gi]? = some ff) :
    Calls Try.prog 17 #[pv, v] w fun e w' => e = .returned (.bool (sfB ff.code f.pc)) ∧ Below w.heap.size w w' := by
  have HR0 := fun O1 O2 => dNext_any (hp.below (bl_two w O1 O2) (Nat.le_refl _)) (h.below (bl_two w O1 O2) (Nat.le_refl _)) hs s.cur
  rw [hx] at HR0
  have HR := hide HR0
  obtain ⟨ta, tc, oa, oc, ba, bc, rfl, -, -, -, t1, t2, o1, o2, b1, b2⟩ := h.shape
  unfold maxLen at t2 o2 b2
  obtain ⟨ca, cc, pa, pc, rfl, hr, f1, f2⟩ := hp.shape
  unfold maxLen at f2
  obtain ⟨NT, hNT⟩ : ∃ n, Hid (s.texts.length = n) := ⟨_, hide rfl⟩
  obtain ⟨NO, hNO⟩ : ∃ n, Hid (s.objs.length = n) := ⟨_, hide rfl⟩
  obtain ⟨NB, hNB⟩ : ∃ n, Hid (s.fibs.length = n) := ⟨_, hide rfl⟩
  obtain ⟨NC, hNC⟩ : ∃ n, Hid (p.consts.length = n) := ⟨_, hide rfl⟩
  obtain ⟨NF, hNF⟩ : ∃ n, Hid (p.funcs.length = n) := ⟨_, hide rfl⟩
  rw [unhide hNT, unhide hNO, unhide hNB] at HR ⊢
  rw [unhide hNC, unhide hNF] at HR ⊢
  rw [unhide hNF] at f1
  have HB0 := hide (bl_two w)
  obtain ⟨p1, p2⟩ := blk2 w (.cells #[.slice ca NC cc, .slice pa NF pc] 48) (.cells #[.slice ta NT tc, .slice oa NO oc, .slice ba NB bc, .int .i64 s.cur, .int .i64 s.steps, .int .i64 s.spent, .int .i64 s.read] 26)
  have HP1 := hide p1
  obtain ⟨x1, x2⟩ := x
  obtain ⟨fn, qc, sl⟩ := f
  simp only at HR hg ⊢
  subst hg
  have hgl := (List.getElem?_eq_some_iff.1 hff).1
  rw [unhide hNF] at hgl
  obtain ⟨SL, hSL⟩ : ∃ n, Hid (sl.length = n) := ⟨_, hide rfl⟩
  obtain ⟨pb, po, da, dc, ep, hpb, q3, hrx, hdl, hdm⟩ := hr.code hff
  cases ep
  have HSf := hide (fun (w' : World) (hb : Below w.heap.size w w') => dSafe_any (hrx.below hb (Nat.le_refl _)) qc)
  unfold maxLen at hdm
  obtain ⟨CL, hCL⟩ : ∃ n, Hid (ff.code.length = n) := ⟨_, hide rfl⟩
  rw [unhide hCL] at q3 hdl HSf
  have gi0 : (0 : Int) ≤ (gi : Int) := by omega
  have gi1 : (gi : Int) < (NF : Int) := by omega
  obtain ⟨sfv, hsfv⟩ : ∃ b, Hid (sfB ff.code qc = b) := ⟨_, hide rfl⟩
  rw [unhide hsfv] at HSf ⊢
  clear h hp hr HR0 hx p1 p2 hff hrx hsfv
  go_enter Try.func17, Try.ntmps17
  go_wp2_with fail
  refine (unhide HR _ _).mono ?_
  rintro e w1 ⟨sa, sc, rfl, -, -, -, hb1⟩
  simp only
  have q1 := bkeep (unhide HP1) hb1
  obtain ⟨za, -, hl1⟩ := blk_cells q1
  have m1 := za 1
  simp at m1
  have hbw := bl_past (unhide HB0 _ _) hb1
  have HB1 := hide hbw
  have u3 := (hbw.cell (p := ⟨pb, po + gi * 5 + 3, none⟩) hpb).trans q3
  have hpb2 := Nat.lt_of_lt_of_le hpb hbw.size
  have KS := hide (fun O1 O2 => unhide HSf ((w1.alloc O1).alloc O2).drew (bl_past (bl_past (unhide HB1) (bl_two w1 O1 O2)) (bl_drew _)))
  have hn : w.heap.size < w1.heap.size + 1 := by omega
  have hpb3 : pb < w1.heap.size + 1 := by omega
  clear hb1 HR za hbw q1 HSf q3
  go_wp2_with fail
  go_region_held3 (fun w' => w'.cell? ⟨w.heap.size, 1, none⟩ = some (.slice (some ⟨pb, po, none⟩) NF pc) ∧ w'.cell? ⟨w1.heap.size + 1, 0, none⟩ = some (.int .i64 (gi : Int)) ∧ w'.cell? ⟨w1.heap.size + 1, 1, none⟩ = some (.int .i64 qc) ∧ w'.cell? ⟨pb, po + gi * 5 + 3, none⟩ = some (.slice da CL dc)) (first | go_keep | exact unhide HSB) (first | (go_at_call 51; refine (unhide KS _ _).mono ?_; rintro e w2 ⟨rfl, hb1⟩; have HSB : Hid (w2.cell? ⟨w.heap.size, 1, none⟩ = some (.slice (some ⟨pb, po, none⟩) NF pc) ∧ w2.cell? ⟨w1.heap.size + 1, 0, none⟩ = some (.int .i64 (gi : Int)) ∧ w2.cell? ⟨w1.heap.size + 1, 1, none⟩ = some (.int .i64 qc) ∧ w2.cell? ⟨pb, po + gi * 5 + 3, none⟩ = some (.slice da CL dc)) := hide ⟨by first | exact (hb1.cell (p := ⟨w.heap.size, 1, none⟩) (by simp; omega)).trans (((bl_two w1 _ _).cell (p := ⟨w.heap.size, 1, none⟩) hl1).trans m1), by first | exact (hb1.cell (p := ⟨w1.heap.size + 1, 0, none⟩) (by simp)).trans (by simp), by first | exact (hb1.cell (p := ⟨w1.heap.size + 1, 1, none⟩) (by simp)).trans (by simp), by first | exact (hb1.cell (p := ⟨pb, po + gi * 5 + 3, none⟩) (by simp; omega)).trans (((bl_two w1 _ _).cell (p := ⟨pb, po + gi * 5 + 3, none⟩) hpb2).trans u3)⟩))
  have HB2 := hide (bl_past (bl_past (bl_past (unhide HB1) (bl_two w1 _ _)) (bl_drew _)) hb1)
  go_wp2_with fail
  go_ret
  exact ⟨by first | rfl | (cases sfv <;> rfl), unhide HB2⟩
theorem dSafeS_any {w : World} {pv v : Value} {p : Pg} {s : St} (hp : PgV w pv p) (h : StV w v s) (hs : StB s) :
    Calls Try.prog 17 #[pv, v] w fun e w' => e = .returned (.bool (sfS p s)) ∧ Below w.heap.size w w' := by
  by_cases hk : 0 ≤ s.cur ∧ s.cur < (s.fibs.length : Int)
  · cases hl : (s.fibs[s.cur.toNat]?).bind (fun fs => fs.getLast?) with
    | none =>
      have e : sfS p s = false := by unfold sfS; rw [if_pos hk, hl]
      rw [e]
      exact dSafe_no hp h hs (by unfold nxD; rw [if_pos hk, hl]; rfl)
    | some f =>
      have e : sfS p s = sfP p f := by unfold sfS; rw [if_pos hk, hl]
      rw [e]
      have hn : nxD p s s.cur = (insF p f.fn f.pc).map (fun x => (x, f)) := by unfold nxD; rw [if_pos hk, hl]; rfl
      by_cases hf : 0 ≤ f.fn ∧ f.fn < (p.funcs.length : Int)
      · obtain ⟨gi, hg⟩ : ∃ i : Nat, f.fn = i := ⟨f.fn.toNat, by omega⟩
        obtain ⟨ff, hff⟩ : ∃ ff, p.funcs[gi]? = some ff := ⟨_, List.getElem?_eq_getElem (by omega)⟩
        have e2 : sfP p f = sfB ff.code f.pc := by unfold sfP; rw [if_pos hf, hg, Int.toNat_natCast, hff]
        rw [e2]
        have e3 : insF p f.fn f.pc = if 0 ≤ f.pc ∧ f.pc < (ff.code.length : Int) then ff.code[f.pc.toNat]? else none := by unfold insF; rw [if_pos hf, hg, Int.toNat_natCast, hff]; rfl
        by_cases hc : 0 ≤ f.pc ∧ f.pc < (ff.code.length : Int)
        · obtain ⟨x, hx⟩ : ∃ x, ff.code[f.pc.toNat]? = some x := ⟨_, List.getElem?_eq_getElem (by omega)⟩
          rw [if_pos hc, hx] at e3
          rw [e3] at hn
          exact dSafe_yes hp h hs hn gi hg hff
        · rw [if_neg hc] at e3
          rw [e3] at hn
          have e4 : sfB ff.code f.pc = false := by unfold sfB; rw [if_neg hc]
          rw [e4]
          exact dSafe_no hp h hs hn
      · have e2 : sfP p f = false := by unfold sfP; rw [if_neg hf]
        rw [e2]
        have e3 : insF p f.fn f.pc = none := by unfold insF; rw [if_neg hf]
        rw [e3] at hn
        exact dSafe_no hp h hs hn
  · have e : sfS p s = false := by unfold sfS; rw [if_neg hk]
    rw [e]
    exact dSafe_no hp h hs (by unfold nxD; rw [if_neg hk])
end Go.Proofs.Ytadgiccfjppnfaa
