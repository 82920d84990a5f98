/-
  Safepoints of states, of both sides.
-/
import Derived.Test.YtadgiccfjppnfaaDn
namespace Go.Proofs.Ytadgiccfjppnfaa
open Go.RowKit
set_option linter.unusedVariables false
set_option linter.unusedSimpArgs false
/-- Is this frame at a safepoint? -/
def sfP (p : Pg) (f : Fm) : Bool := if 0 ≤ f.fn ∧ f.fn < (p.funcs.length : Int) then (match p.funcs[f.fn.toNat]? with | some g => sfB g.code f.pc | none => false) else false
/-- Is this state? -/
def sfS (p : Pg) (s : St) : Bool := if 0 ≤ s.cur ∧ s.cur < (s.fibs.length : Int) then (match (s.fibs[s.cur.toNat]?).bind (fun fs => fs.getLast?) with | none => false | some f => sfP p f) else false
set_option maxRecDepth 100000 in
set_option maxHeartbeats 3200000 in
theorem safe_no {w : World} {pv v : Value} {p : Pg} {s : St} (hp : PgV w pv p) (h : StV w v s) (hR : ∀ w', Below w.heap.size w w' → Calls Try.prog 47 #[v, .int .i64 s.cur] w' (RnN w')) :
    Calls Try.prog 16 #[pv, v] w fun e w' => e = .returned (.bool false) ∧ Below w.heap.size w w' := by
  have HR := hide (fun O1 O2 => hR _ (bl_two w O1 O2))
  obtain ⟨ta, tc, oa, oc, ba, bc, rfl, -, -, -, t1, t2, o1, o2, b1, b2⟩ := h.shape
  unfold maxLen at t2 o2 b2
  obtain ⟨ca, cc, pa, pc, rfl, hr, f1, f2⟩ := hp.shape
  unfold maxLen at f2
  obtain ⟨NT, hNT⟩ : ∃ n, Hid (s.texts.length = n) := ⟨_, hide rfl⟩
  obtain ⟨NO, hNO⟩ : ∃ n, Hid (s.objs.length = n) := ⟨_, hide rfl⟩
  obtain ⟨NB, hNB⟩ : ∃ n, Hid (s.fibs.length = n) := ⟨_, hide rfl⟩
  obtain ⟨NC, hNC⟩ : ∃ n, Hid (p.consts.length = n) := ⟨_, hide rfl⟩
  obtain ⟨NF, hNF⟩ : ∃ n, Hid (p.funcs.length = n) := ⟨_, hide rfl⟩
  rw [unhide hNT, unhide hNO, unhide hNB] at HR ⊢
  rw [unhide hNC, unhide hNF]
  rw [unhide hNF] at f1
  have HB0 := hide (bl_two w)
  clear h hp hr hR
  go_enter Try.func16, Try.ntmps16
  go_wp2_with fail
  refine (unhide HR _ _).mono ?_
  rintro e w1 ⟨rfl, hb1⟩
  have HB1 := hide (bl_past (unhide HB0 _ _) hb1)
  clear hb1 HR
  go_wp2_with fail
  go_quiet (fail)
  go_wp2_with fail
  go_ret
  exact ⟨rfl, bl_past ((unhide HB1).alloc (unhide HB1).size _) (bl_drewN _ _)⟩
set_option maxRecDepth 100000 in
set_option maxHeartbeats 3200000 in
theorem safe_yes {w : World} {pv v : Value} {p : Pg} {s : St} (hp : PgV w pv p) (h : StV w v s) (f : Fm) (hR : ∀ w', Below w.heap.size w w' → Calls Try.prog 47 #[v, .int .i64 s.cur] w' (RnY w' f)) :
    Calls Try.prog 16 #[pv, v] w fun e w' => e = .returned (.bool (sfP p f)) ∧ Below w.heap.size w w' := by
  have HR := hide (fun O1 O2 => hR _ (bl_two w O1 O2))
  obtain ⟨ta, tc, oa, oc, ba, bc, rfl, -, -, -, t1, t2, o1, o2, b1, b2⟩ := h.shape
  unfold maxLen at t2 o2 b2
  obtain ⟨ca, cc, pa, pc, rfl, hr, f1, f2⟩ := hp.shape
  unfold maxLen at f2
  obtain ⟨NT, hNT⟩ : ∃ n, Hid (s.texts.length = n) := ⟨_, hide rfl⟩
  obtain ⟨NO, hNO⟩ : ∃ n, Hid (s.objs.length = n) := ⟨_, hide rfl⟩
  obtain ⟨NB, hNB⟩ : ∃ n, Hid (s.fibs.length = n) := ⟨_, hide rfl⟩
  obtain ⟨NC, hNC⟩ : ∃ n, Hid (p.consts.length = n) := ⟨_, hide rfl⟩
  obtain ⟨NF, hNF⟩ : ∃ n, Hid (p.funcs.length = n) := ⟨_, hide rfl⟩
  rw [unhide hNT, unhide hNO, unhide hNB] at HR ⊢
  rw [unhide hNC, unhide hNF]
  rw [unhide hNF] at f1
  have HB0 := hide (bl_two w)
  obtain ⟨p1, p2⟩ := blk2 w (.cells #[.slice ca NC cc, .slice pa NF pc] 48) (.cells #[.slice ta NT tc, .slice oa NO oc, .slice ba NB bc, .int .i64 s.cur, .int .i64 s.steps, .int .i64 s.spent, .int .i64 s.read] 26)
  have HP1 := hide p1
  obtain ⟨fn, qc, sl⟩ := f
  obtain ⟨SL, hSL⟩ : ∃ n, Hid (sl.length = n) := ⟨_, hide rfl⟩
  clear h hp hR p1 p2
  by_cases hfn : 0 ≤ fn ∧ fn < (NF : Int)
  case neg =>
    have e : sfP p ⟨fn, qc, sl⟩ = false := by unfold sfP; rw [if_neg (by rw [unhide hNF]; exact hfn)]
    rw [e]
    have HW := hide (fun w => within_any w fn NF)
    rw [decide_eq_false hfn] at HW
    clear e hr hfn
    go_enter Try.func16, Try.ntmps16
    go_wp2_with fail
    refine (unhide HR _ _).mono ?_
    rintro e w1 ⟨sa, sc, rfl, -, -, -, hb1⟩
    obtain ⟨za, -, hl1⟩ := blk_cells (bkeep (unhide HP1) hb1)
    have s1 := za 1
    simp at s1
    have HB1 := hide (bl_past (unhide HB0 _ _) hb1)
    clear hb1 HR za
    go_wp2_with fail
    go_quiet (first | (go_at_call 48; exact Calls.quiet_of_same (unhide HW _)))
    go_wp2_with fail
    go_ret
    exact ⟨rfl, bl_past ((unhide HB1).alloc (unhide HB1).size _) (bl_drewN _ _)⟩
  obtain ⟨gi, rfl⟩ : ∃ i : Nat, fn = i := ⟨fn.toNat, by omega⟩
  obtain ⟨ff, hff⟩ : ∃ f, p.funcs[gi]? = some f := ⟨_, List.getElem?_eq_getElem (by have := unhide hNF; omega)⟩
  have e : sfP p ⟨gi, qc, sl⟩ = sfB ff.code qc := by unfold sfP; simp only; rw [if_pos (by rw [unhide hNF]; exact hfn), Int.toNat_natCast, hff]
  rw [e]
  obtain ⟨pb, po, da, dc, ep, hpb, q3, hrx, hdl, hdm⟩ := hr.code hff
  cases ep
  have HSf := hide (fun (w' : World) (hb : Below w.heap.size w w') => safe_any (hrx.below hb (Nat.le_refl _)) qc)
  unfold maxLen at hdm
  obtain ⟨CL, hCL⟩ : ∃ n, Hid (ff.code.length = n) := ⟨_, hide rfl⟩
  rw [unhide hCL] at q3 hdl HSf
  have gi0 : (0 : Int) ≤ (gi : Int) := by omega
  have gi1 : (gi : Int) < (NF : Int) := hfn.2
  have HW := hide (fun w => within_any w gi NF)
  rw [decide_eq_true hfn] at HW
  obtain ⟨sfv, hsfv⟩ : ∃ b, Hid (sfB ff.code qc = b) := ⟨_, hide rfl⟩
  rw [unhide hsfv] at HSf ⊢
  clear e hr hfn hff hrx hsfv
  go_enter Try.func16, Try.ntmps16
  go_wp2_with fail
  refine (unhide HR _ _).mono ?_
  rintro e w1 ⟨sa, sc, rfl, -, -, -, hb1⟩
  simp only
  have q1 := bkeep (unhide HP1) hb1
  obtain ⟨za, -, hl1⟩ := blk_cells q1
  have m1 := za 1
  simp at m1
  have hbw := bl_past (unhide HB0 _ _) hb1
  have HB1 := hide hbw
  have u3 := (hbw.cell (p := ⟨pb, po + gi * 5 + 3, none⟩) hpb).trans q3
  have hpb2 := Nat.lt_of_lt_of_le hpb hbw.size
  have KS := hide (fun O => unhide HSf (w1.alloc O).drew (bl_past (bl_past (unhide HB1) ((Below.refl _ w1).alloc (Nat.le_refl _) O)) (bl_drew _)))
  have hn : w.heap.size < w1.heap.size + 1 := by omega
  have hl5 : w1.heap.size < w1.heap.size + 1 := by omega
  have hpb3 : pb < w1.heap.size + 1 := by omega
  clear hb1 HR za hbw q1 HSf q3
  go_wp2_with fail
  go_region_held3 (fun w' => w'.cell? ⟨w.heap.size, 1, none⟩ = some (.slice (some ⟨pb, po, none⟩) NF pc) ∧ w'.cell? ⟨w1.heap.size, 0, none⟩ = some (.int .i64 (gi : Int)) ∧ w'.cell? ⟨w1.heap.size, 1, none⟩ = some (.int .i64 qc) ∧ w'.cell? ⟨pb, po + gi * 5 + 3, none⟩ = some (.slice da CL dc)) (first | go_keep | exact unhide HSB) (first | (go_at_call 48; refine (unhide HW _).mono ?_; rintro e w2 ⟨rfl, rfl⟩) | (go_at_call 49; refine (unhide KS _).mono ?_; rintro e w2 ⟨rfl, hb1⟩; have HSB : Hid (w2.cell? ⟨w.heap.size, 1, none⟩ = some (.slice (some ⟨pb, po, none⟩) NF pc) ∧ w2.cell? ⟨w1.heap.size, 0, none⟩ = some (.int .i64 (gi : Int)) ∧ w2.cell? ⟨w1.heap.size, 1, none⟩ = some (.int .i64 qc) ∧ w2.cell? ⟨pb, po + gi * 5 + 3, none⟩ = some (.slice da CL dc)) := hide ⟨by first | exact (hb1.cell (p := ⟨w.heap.size, 1, none⟩) (by simp; omega)).trans ((((Below.refl _ w1).alloc (Nat.le_refl _) _).cell (p := ⟨w.heap.size, 1, none⟩) hl1).trans m1), by first | exact (hb1.cell (p := ⟨w1.heap.size, 0, none⟩) (by simp)).trans (by simp), by first | exact (hb1.cell (p := ⟨w1.heap.size, 1, none⟩) (by simp)).trans (by simp), by first | exact (hb1.cell (p := ⟨pb, po + gi * 5 + 3, none⟩) (by simp; omega)).trans ((((Below.refl _ w1).alloc (Nat.le_refl _) _).cell (p := ⟨pb, po + gi * 5 + 3, none⟩) hpb2).trans u3)⟩))
  have HB2 := hide (bl_past (bl_past (bl_past (unhide HB1) ((Below.refl _ w1).alloc (Nat.le_refl _) _)) (bl_drew _)) hb1)
  go_wp2_with fail
  go_ret
  exact ⟨by first | rfl | (cases sfv <;> rfl), unhide HB2⟩
theorem safeS_any {w : World} {pv v : Value} {p : Pg} {s : St} (hp : PgV w pv p) (h : StV w v s) (hs : StB s) :
    Calls Try.prog 16 #[pv, v] w fun e w' => e = .returned (.bool (sfS p s)) ∧ Below w.heap.size w w' := by
  by_cases hk : 0 ≤ s.cur ∧ s.cur < (s.fibs.length : Int)
  · obtain ⟨i, hc⟩ : ∃ i : Nat, s.cur = i := ⟨s.cur.toNat, by omega⟩
    obtain ⟨fs, hi⟩ : ∃ fs, s.fibs[i]? = some fs := ⟨_, List.getElem?_eq_getElem (by omega)⟩
    obtain ⟨b1, b2⟩ := hs.bs fs (List.mem_of_getElem? hi)
    rcases List.eq_nil_or_concat fs with rfl | ⟨l, f, rfl⟩
    · have e : sfS p s = false := by unfold sfS; rw [if_pos hk, hc, Int.toNat_natCast, hi]; rfl
      rw [e]
      exact safe_no hp h (fun w' hb => by rw [hc]; exact running_end (h.below hb (Nat.le_refl _)) i hi)
    · have e : sfS p s = sfP p f := by unfold sfS; rw [if_pos hk, hc, Int.toNat_natCast, hi]; simp
      rw [e]
      simp only [List.concat_eq_append, List.length_append, List.length_singleton] at b1
      exact safe_yes hp h f (fun w' hb => by rw [hc]; exact running_yes (h.below hb (Nat.le_refl _)) i hi l.length (by simp) (by simp) (by omega))
  · have e : sfS p s = false := by unfold sfS; rw [if_neg hk]
    rw [e]
    exact safe_no hp h (fun w' hb => running_out (h.below hb (Nat.le_refl _)) s.cur hk)
end Go.Proofs.Ytadgiccfjppnfaa
