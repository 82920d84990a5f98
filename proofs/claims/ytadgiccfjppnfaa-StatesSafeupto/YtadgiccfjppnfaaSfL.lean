/-
  The law of safepoints and of who waits.
-/
import Derived.Test.YtadgiccfjppnfaaLnt
import Derived.Test.YtadgiccfjppnfaaKpt
import Derived.Test.YtadgiccfjppnfaaDb
import Derived.Test.YtadgiccfjppnfaaSd
namespace Go.Proofs.Ytadgiccfjppnfaa
open Go.RowKit
set_option linter.unusedVariables false
set_option linter.unusedSimpArgs false
/-- What lent answers, to be read. -/
def LnR (w : World) (s : St) (e : Ending) (w' : World) : Prop := ∃ xv rv, e = .returned (.tuple #[xv, rv]) ∧ StV w' xv s ∧ RmV w' rv (lists s) ∧ Below w.heap.size w w'
theorem lent_rd {w : World} {v : Value} {s : St} (h : StV w v s) (hs : StB s) : Calls Try.prog 8 #[v] w (LnR w s) :=
  (lent_any h hs).mono (fun e w' ⟨X, C1, C, tv, ov, bv, rv, R, xo, xb, he, hl⟩ => ⟨_, rv, he, hl.stv, hl.rmv, hl.bw⟩)
set_option maxRecDepth 100000 in
set_option maxHeartbeats 12800000 in
theorem statesSafeLaw {w : World} {pv v : Value} {p : Pg} {s : St} (hp : PgV w pv p) (h : StV w v s) (hs : StB s) (fb : Int) :
    Calls Try.prog 5 #[pv, v, .int .i64 fb] w fun e w' => e = .returned (.bool true) ∧ Below w.heap.size w w' := by
  have HR := hide (fun O1 O2 => lent_rd (h.below (bl_two w O1 O2) (Nat.le_refl _)) hs)
  have HP := hide (fun (w' : World) (hb : Below w.heap.size w w') => hp.below hb (Nat.le_refl _))
  have HSV := hide (fun (w' : World) (hb : Below w.heap.size w w') => h.below hb (Nat.le_refl _))
  have HS := hide hs
  have n2 := hs.bl
  obtain ⟨ta, tc, oa, oc, ba, bc, rfl, -, -, -, t1, t2, o1, o2, b1, b2⟩ := h.shape
  unfold maxLen at t2 o2 b2
  obtain ⟨ca, cc, pa, pc, rfl, -, f1, f2⟩ := hp.shape
  unfold maxLen at f2
  obtain ⟨NT, hNT⟩ : ∃ n, Hid (s.texts.length = n) := ⟨_, hide rfl⟩
  obtain ⟨NO, hNO⟩ : ∃ n, Hid (s.objs.length = n) := ⟨_, hide rfl⟩
  obtain ⟨NB, hNB⟩ : ∃ n, Hid (s.fibs.length = n) := ⟨_, hide rfl⟩
  obtain ⟨NC, hNC⟩ : ∃ n, Hid (p.consts.length = n) := ⟨_, hide rfl⟩
  obtain ⟨NF, hNF⟩ : ∃ n, Hid (p.funcs.length = n) := ⟨_, hide rfl⟩
  rw [unhide hNT, unhide hNO, unhide hNB] at HR HSV ⊢
  rw [unhide hNC, unhide hNF] at HP ⊢
  rw [unhide hNB] at b1 n2
  rw [unhide hNF] at f1
  obtain ⟨p1, p2⟩ := blk2 w (.cells #[.slice ca NC cc, .slice pa NF pc] 48) (.cells #[.slice ta NT tc, .slice oa NO oc, .slice ba NB bc, .int .i64 s.cur, .int .i64 s.steps, .int .i64 s.spent, .int .i64 s.read] 26)
  have HP1 := hide p1
  have HP2 := hide p2
  have HB0 := hide (bl_two w)
  have bn := bool_neq
  obtain ⟨sfv, hsfv⟩ : ∃ b, Hid (sfS p s = b) := ⟨_, hide rfl⟩
  obtain ⟨blv, hblv⟩ : ∃ b, Hid (blkB p s fb = b) := ⟨_, hide rfl⟩
  have sb1 : (sfv != sfv) = false := by simp
  have sb2 : (blv != blv) = false := by simp
  clear h hp p1 p2 hs
  go_enter Try.func5, Try.ntmps5
  go_wp2_with fail
  refine (unhide HR _ _).mono ?_
  rintro e w1 ⟨xv, rv, rfl, hxv, hrv, hb1⟩
  have hbw1 := bl_past (unhide HB0 _ _) hb1
  have HX0 := hide hxv
  obtain ⟨ta2, tc2, oa2, oc2, ba2, bc2, rfl, -, -, -, t1', t2', o1', o2', b1', b2'⟩ := hxv.shape
  unfold maxLen at t2' o2' b2'
  obtain ⟨ra, rcap, rfl, hr1, hr2⟩ := hrv.shape
  unfold maxLen at hr2
  obtain ⟨NL, hNL⟩ : ∃ n, Hid ((lists s).length = n) := ⟨_, hide rfl⟩
  have HRV := hide hrv
  rw [unhide hNL] at HRV hr1 ⊢
  rw [unhide hNT, unhide hNO, unhide hNB] at HX0 ⊢
  obtain ⟨X, hX⟩ : ∃ X, Hid (w1.heap.size = X) := ⟨_, hide rfl⟩
  have r1 := balloc (.cells #[.slice ta2 NT tc2, .slice oa2 NO oc2, .slice ba2 NB bc2, .int .i64 s.cur, .int .i64 s.steps, .int .i64 s.spent, .int .i64 s.read] 26) (bkeep (unhide HP1) hb1)
  have r2 := balloc (.cells #[.slice ta2 NT tc2, .slice oa2 NO oc2, .slice ba2 NB bc2, .int .i64 s.cur, .int .i64 s.steps, .int .i64 s.spent, .int .i64 s.read] 26) (bkeep (unhide HP2) hb1)
  have r3 := heap_alloc_new w1 (.cells #[.slice ta2 NT tc2, .slice oa2 NO oc2, .slice ba2 NB bc2, .int .i64 s.cur, .int .i64 s.steps, .int .i64 s.spent, .int .i64 s.read] 26)
  rw [unhide hX] at r3
  have hd : Below w1.heap.size w1 (w1.alloc (.cells #[.slice ta2 NT tc2, .slice oa2 NO oc2, .slice ba2 NB bc2, .int .i64 s.cur, .int .i64 s.steps, .int .i64 s.spent, .int .i64 s.read] 26)) := (Below.refl _ w1).alloc (Nat.le_refl _) _
  have HBW := hide (bl_past hbw1 hd)
  have HXV := hide ((unhide HX0).below hd (Nat.le_refl _))
  have HRW := hide ((unhide HRV).below hd (Nat.le_refl _))
  have SK : Hid (∀ W, Below (w1.alloc (.cells #[.slice ta2 NT tc2, .slice oa2 NO oc2, .slice ba2 NB bc2, .int .i64 s.cur, .int .i64 s.steps, .int .i64 s.spent, .int .i64 s.read] 26)).heap.size (w1.alloc (.cells #[.slice ta2 NT tc2, .slice oa2 NO oc2, .slice ba2 NB bc2, .int .i64 s.cur, .int .i64 s.steps, .int .i64 s.spent, .int .i64 s.read] 26)) W → W.cell? ⟨w.heap.size, 0, none⟩ = some (.slice ca NC cc) ∧ W.cell? ⟨w.heap.size, 1, none⟩ = some (.slice pa NF pc) ∧ W.cell? ⟨w.heap.size + 1, 0, none⟩ = some (.slice ta NT tc) ∧ W.cell? ⟨w.heap.size + 1, 1, none⟩ = some (.slice oa NO oc) ∧ W.cell? ⟨w.heap.size + 1, 2, none⟩ = some (.slice ba NB bc) ∧ W.cell? ⟨w.heap.size + 1, 3, none⟩ = some (.int .i64 s.cur) ∧ W.cell? ⟨w.heap.size + 1, 4, none⟩ = some (.int .i64 s.steps) ∧ W.cell? ⟨w.heap.size + 1, 5, none⟩ = some (.int .i64 s.spent) ∧ W.cell? ⟨w.heap.size + 1, 6, none⟩ = some (.int .i64 s.read) ∧ W.cell? ⟨X, 0, none⟩ = some (.slice ta2 NT tc2) ∧ W.cell? ⟨X, 1, none⟩ = some (.slice oa2 NO oc2) ∧ W.cell? ⟨X, 2, none⟩ = some (.slice ba2 NB bc2) ∧ W.cell? ⟨X, 3, none⟩ = some (.int .i64 s.cur) ∧ W.cell? ⟨X, 4, none⟩ = some (.int .i64 s.steps) ∧ W.cell? ⟨X, 5, none⟩ = some (.int .i64 s.spent) ∧ W.cell? ⟨X, 6, none⟩ = some (.int .i64 s.read)) := fun W hW => by
    have a1 := (blk_cells (bkeep r1 hW)).1
    have a2 := (blk_cells (bkeep r2 hW)).1
    have a3 := (blk_cells (bkeep r3 hW)).1
    exact ⟨a1 0, a1 1, a2 0, a2 1, a2 2, a2 3, a2 4, a2 5, a2 6, a3 0, a3 1, a3 2, a3 3, a3 4, a3 5, a3 6⟩
  have H16 : Hid (∀ W, Below (w1.alloc (.cells #[.slice ta2 NT tc2, .slice oa2 NO oc2, .slice ba2 NB bc2, .int .i64 s.cur, .int .i64 s.steps, .int .i64 s.spent, .int .i64 s.read] 26)).heap.size (w1.alloc (.cells #[.slice ta2 NT tc2, .slice oa2 NO oc2, .slice ba2 NB bc2, .int .i64 s.cur, .int .i64 s.steps, .int .i64 s.spent, .int .i64 s.read] 26)) W → Calls Try.prog 16 #[.agg #[.slice ca NC cc, .slice pa NF pc], .agg #[.slice ta2 NT tc2, .slice oa2 NO oc2, .slice ba2 NB bc2, .int .i64 s.cur, .int .i64 s.steps, .int .i64 s.spent, .int .i64 s.read]] W fun e w' => e = .returned (.bool sfv) ∧ Below W.heap.size W w') := fun W hW => by rw [← unhide hsfv]; exact safeS_any (unhide HP W (bl_past (unhide HBW) hW)) ((unhide HXV).below hW (Nat.le_refl _)) (unhide HS)
  have H17 : Hid (∀ W, Below (w1.alloc (.cells #[.slice ta2 NT tc2, .slice oa2 NO oc2, .slice ba2 NB bc2, .int .i64 s.cur, .int .i64 s.steps, .int .i64 s.spent, .int .i64 s.read] 26)).heap.size (w1.alloc (.cells #[.slice ta2 NT tc2, .slice oa2 NO oc2, .slice ba2 NB bc2, .int .i64 s.cur, .int .i64 s.steps, .int .i64 s.spent, .int .i64 s.read] 26)) W → Calls Try.prog 17 #[.agg #[.slice ca NC cc, .slice pa NF pc], .agg #[.slice ta NT tc, .slice oa NO oc, .slice ba NB bc, .int .i64 s.cur, .int .i64 s.steps, .int .i64 s.spent, .int .i64 s.read]] W fun e w' => e = .returned (.bool sfv) ∧ Below W.heap.size W w') := fun W hW => by rw [← unhide hsfv]; exact dSafeS_any (unhide HP W (bl_past (unhide HBW) hW)) (unhide HSV W (bl_past (unhide HBW) hW)) (unhide HS)
  have H18 : Hid (∀ W k, Below (w1.alloc (.cells #[.slice ta2 NT tc2, .slice oa2 NO oc2, .slice ba2 NB bc2, .int .i64 s.cur, .int .i64 s.steps, .int .i64 s.spent, .int .i64 s.read] 26)).heap.size (w1.alloc (.cells #[.slice ta2 NT tc2, .slice oa2 NO oc2, .slice ba2 NB bc2, .int .i64 s.cur, .int .i64 s.steps, .int .i64 s.spent, .int .i64 s.read] 26)) W → Calls Try.prog 18 #[.agg #[.slice ca NC cc, .slice pa NF pc], .agg #[.slice ta2 NT tc2, .slice oa2 NO oc2, .slice ba2 NB bc2, .int .i64 s.cur, .int .i64 s.steps, .int .i64 s.spent, .int .i64 s.read], .int .i64 k] W fun e w' => e = .returned (.bool (blkB p s k)) ∧ Below W.heap.size W w') := fun W k hW => blocked_any (unhide HP W (bl_past (unhide HBW) hW)) ((unhide HXV).below hW (Nat.le_refl _)) (unhide HS) k
  have H19 : Hid (∀ W k, Below (w1.alloc (.cells #[.slice ta2 NT tc2, .slice oa2 NO oc2, .slice ba2 NB bc2, .int .i64 s.cur, .int .i64 s.steps, .int .i64 s.spent, .int .i64 s.read] 26)).heap.size (w1.alloc (.cells #[.slice ta2 NT tc2, .slice oa2 NO oc2, .slice ba2 NB bc2, .int .i64 s.cur, .int .i64 s.steps, .int .i64 s.spent, .int .i64 s.read] 26)) W → Calls Try.prog 19 #[.agg #[.slice ca NC cc, .slice pa NF pc], .agg #[.slice ta NT tc, .slice oa NO oc, .slice ba NB bc, .int .i64 s.cur, .int .i64 s.steps, .int .i64 s.spent, .int .i64 s.read], .int .i64 k] W fun e w' => e = .returned (.bool (blkB p s k)) ∧ Below W.heap.size W w') := fun W k hW => dBlocked_any (unhide HP W (bl_past (unhide HBW) hW)) (unhide HSV W (bl_past (unhide HBW) hW)) (unhide HS) k
  have J18 : Hid (∀ W, Below (w1.alloc (.cells #[.slice ta2 NT tc2, .slice oa2 NO oc2, .slice ba2 NB bc2, .int .i64 s.cur, .int .i64 s.steps, .int .i64 s.spent, .int .i64 s.read] 26)).heap.size (w1.alloc (.cells #[.slice ta2 NT tc2, .slice oa2 NO oc2, .slice ba2 NB bc2, .int .i64 s.cur, .int .i64 s.steps, .int .i64 s.spent, .int .i64 s.read] 26)) W → Calls Try.prog 18 #[.agg #[.slice ca NC cc, .slice pa NF pc], .agg #[.slice ta2 NT tc2, .slice oa2 NO oc2, .slice ba2 NB bc2, .int .i64 s.cur, .int .i64 s.steps, .int .i64 s.spent, .int .i64 s.read], .int .i64 fb] W fun e w' => e = .returned (.bool blv) ∧ Below W.heap.size W w') := fun W hW => by rw [← unhide hblv]; exact unhide H18 W fb hW
  have J19 : Hid (∀ W, Below (w1.alloc (.cells #[.slice ta2 NT tc2, .slice oa2 NO oc2, .slice ba2 NB bc2, .int .i64 s.cur, .int .i64 s.steps, .int .i64 s.spent, .int .i64 s.read] 26)).heap.size (w1.alloc (.cells #[.slice ta2 NT tc2, .slice oa2 NO oc2, .slice ba2 NB bc2, .int .i64 s.cur, .int .i64 s.steps, .int .i64 s.spent, .int .i64 s.read] 26)) W → Calls Try.prog 19 #[.agg #[.slice ca NC cc, .slice pa NF pc], .agg #[.slice ta NT tc, .slice oa NO oc, .slice ba NB bc, .int .i64 s.cur, .int .i64 s.steps, .int .i64 s.spent, .int .i64 s.read], .int .i64 fb] W fun e w' => e = .returned (.bool blv) ∧ Below W.heap.size W w') := fun W hW => by rw [← unhide hblv]; exact unhide H19 W fb hW
  have H11 : Hid (∀ W, Below (w1.alloc (.cells #[.slice ta2 NT tc2, .slice oa2 NO oc2, .slice ba2 NB bc2, .int .i64 s.cur, .int .i64 s.steps, .int .i64 s.spent, .int .i64 s.read] 26)).heap.size (w1.alloc (.cells #[.slice ta2 NT tc2, .slice oa2 NO oc2, .slice ba2 NB bc2, .int .i64 s.cur, .int .i64 s.steps, .int .i64 s.spent, .int .i64 s.read] 26)) W → Calls Try.prog 11 #[.agg #[.slice ta2 NT tc2, .slice oa2 NO oc2, .slice ba2 NB bc2, .int .i64 s.cur, .int .i64 s.steps, .int .i64 s.spent, .int .i64 s.read], .slice ra NL rcap, .agg #[.slice ta NT tc, .slice oa NO oc, .slice ba NB bc, .int .i64 s.cur, .int .i64 s.steps, .int .i64 s.spent, .int .i64 s.read]] W fun e w' => e = .returned (.bool true) ∧ Below W.heap.size W w') := fun W hW => kept_any ((unhide HXV).below hW (Nat.le_refl _)) ((unhide HRW).below hW (Nat.le_refl _)) (unhide HSV W (bl_past (unhide HBW) hW)) (unhide HS)
  have zs := unhide SK _ (Below.refl _ _)
  clear hxv hrv hb1 hbw1 r1 r2 r3 hd HR HP1 HP2 HB0 HX0 HRV HP HSV HXV HRW
  obtain ⟨W1, hW1⟩ : ∃ W, Hid ((w1.alloc (.cells #[.slice ta2 NT tc2, .slice oa2 NO oc2, .slice ba2 NB bc2, .int .i64 s.cur, .int .i64 s.steps, .int .i64 s.spent, .int .i64 s.read] 26)) = W) := ⟨_, hide rfl⟩
  rw [unhide hW1] at zs SK H16 H17 H18 H19 J18 J19 H11 HBW
  go_wp2_with fail
  rw [unhide hW1, unhide hX]
  obtain ⟨a0, a1, s0, s1, s2, s3, s4, s5, s6, x0, x1, x2, x3, x4, x5, x6⟩ := zs
  go_region_held3 (fun w' => w'.cell? ⟨w.heap.size, 0, none⟩ = some (.slice ca NC cc) ∧ w'.cell? ⟨w.heap.size, 1, none⟩ = some (.slice pa NF pc) ∧ w'.cell? ⟨w.heap.size + 1, 0, none⟩ = some (.slice ta NT tc) ∧ w'.cell? ⟨w.heap.size + 1, 1, none⟩ = some (.slice oa NO oc) ∧ w'.cell? ⟨w.heap.size + 1, 2, none⟩ = some (.slice ba NB bc) ∧ w'.cell? ⟨w.heap.size + 1, 3, none⟩ = some (.int .i64 s.cur) ∧ w'.cell? ⟨w.heap.size + 1, 4, none⟩ = some (.int .i64 s.steps) ∧ w'.cell? ⟨w.heap.size + 1, 5, none⟩ = some (.int .i64 s.spent) ∧ w'.cell? ⟨w.heap.size + 1, 6, none⟩ = some (.int .i64 s.read) ∧ w'.cell? ⟨X, 0, none⟩ = some (.slice ta2 NT tc2) ∧ w'.cell? ⟨X, 1, none⟩ = some (.slice oa2 NO oc2) ∧ w'.cell? ⟨X, 2, none⟩ = some (.slice ba2 NB bc2) ∧ w'.cell? ⟨X, 3, none⟩ = some (.int .i64 s.cur) ∧ w'.cell? ⟨X, 4, none⟩ = some (.int .i64 s.steps) ∧ w'.cell? ⟨X, 5, none⟩ = some (.int .i64 s.spent) ∧ w'.cell? ⟨X, 6, none⟩ = some (.int .i64 s.read)) (first | exact unhide SK _ B3 | exact unhide SK _ B2 | exact unhide SK _ B1 | exact unhide SK _ B0 | go_keep) (first | (go_at_call 16; refine (unhide H16 _ (bl_drew W1)).mono ?_; rintro e v0 ⟨rfl, hv0⟩; have B0 := bl_past (bl_drew W1) hv0) | (go_at_call 17; refine (unhide H17 _ B0).mono ?_; rintro e v1 ⟨rfl, hv1⟩; have B1 := bl_past B0 hv1) | (go_at_call 18; refine (unhide J18 _ B1).mono ?_; rintro e v2 ⟨rfl, hv2⟩; have B2 := bl_past B1 hv2) | (go_at_call 19; refine (unhide J19 _ B2).mono ?_; rintro e v3 ⟨rfl, hv3⟩; have B3 := bl_past B2 hv3))
  have HBL := hide B3
  clear B0 B1 B2 B3 hv0 hv1 hv2 hv3 H16 H17 J18 J19
  go_wp2_with fail
  go_loopg [9] (NB + 2) (fun g t9 wr => ∃ (z : Int), Hid (z + g = NB + 1) ∧ -1 ≤ z ∧ z ≤ (NB : Int) + 1 ∧ t9 = .int .i64 z ∧ Hid (Below W1.heap.size W1 wr))
  case atStart => exact ⟨-1, by unfold Hid; omega, by omega, by omega, rfl, HBL⟩
  case round =>
    obtain ⟨z, hz, hz1, hz2, rfl, hB⟩ := hrel
    obtain ⟨a0, a1, s0, s1, s2, s3, s4, s5, s6, x0, x1, x2, x3, x4, x5, x6⟩ := unhide SK _ (unhide hB)
    by_cases hlt : z ≤ (NB : Int)
    · have g : decide (z ≤ (NB : Int)) = true := decide_eq_true hlt
      have hwz : IntKind.i64.wrap (z + 1) = z + 1 := by go_arith
      obtain ⟨bz, hbz⟩ : ∃ b, Hid (blkB p s z = b) := ⟨_, hide rfl⟩
      have sbz : (bz != bz) = false := by simp
      have K18 : Hid (∀ W, Below W1.heap.size W1 W → Calls Try.prog 18 #[.agg #[.slice ca NC cc, .slice pa NF pc], .agg #[.slice ta2 NT tc2, .slice oa2 NO oc2, .slice ba2 NB bc2, .int .i64 s.cur, .int .i64 s.steps, .int .i64 s.spent, .int .i64 s.read], .int .i64 z] W fun e w' => e = .returned (.bool bz) ∧ Below W.heap.size W w') := fun W hW => by rw [← unhide hbz]; exact unhide H18 W z hW
      have K19 : Hid (∀ W, Below W1.heap.size W1 W → Calls Try.prog 19 #[.agg #[.slice ca NC cc, .slice pa NF pc], .agg #[.slice ta NT tc, .slice oa NO oc, .slice ba NB bc, .int .i64 s.cur, .int .i64 s.steps, .int .i64 s.spent, .int .i64 s.read], .int .i64 z] W fun e w' => e = .returned (.bool bz) ∧ Below W.heap.size W w') := fun W hW => by rw [← unhide hbz]; exact unhide H19 W z hW
      have Bz := bl_past (unhide hB) (bl_drew wr)
      go_wp2_with fail
      go_region_held3 (fun w' => w'.cell? ⟨w.heap.size, 0, none⟩ = some (.slice ca NC cc) ∧ w'.cell? ⟨w.heap.size, 1, none⟩ = some (.slice pa NF pc) ∧ w'.cell? ⟨w.heap.size + 1, 0, none⟩ = some (.slice ta NT tc) ∧ w'.cell? ⟨w.heap.size + 1, 1, none⟩ = some (.slice oa NO oc) ∧ w'.cell? ⟨w.heap.size + 1, 2, none⟩ = some (.slice ba NB bc) ∧ w'.cell? ⟨w.heap.size + 1, 3, none⟩ = some (.int .i64 s.cur) ∧ w'.cell? ⟨w.heap.size + 1, 4, none⟩ = some (.int .i64 s.steps) ∧ w'.cell? ⟨w.heap.size + 1, 5, none⟩ = some (.int .i64 s.spent) ∧ w'.cell? ⟨w.heap.size + 1, 6, none⟩ = some (.int .i64 s.read) ∧ w'.cell? ⟨X, 0, none⟩ = some (.slice ta2 NT tc2) ∧ w'.cell? ⟨X, 1, none⟩ = some (.slice oa2 NO oc2) ∧ w'.cell? ⟨X, 2, none⟩ = some (.slice ba2 NB bc2) ∧ w'.cell? ⟨X, 3, none⟩ = some (.int .i64 s.cur) ∧ w'.cell? ⟨X, 4, none⟩ = some (.int .i64 s.steps) ∧ w'.cell? ⟨X, 5, none⟩ = some (.int .i64 s.spent) ∧ w'.cell? ⟨X, 6, none⟩ = some (.int .i64 s.read)) (first | exact unhide SK _ B1 | exact unhide SK _ B0 | exact unhide SK _ Bz | go_keep) (first | (go_at_call 18; refine (unhide K18 _ Bz).mono ?_; rintro e v0 ⟨rfl, hv0⟩; have B0 := bl_past Bz hv0) | (go_at_call 19; refine (unhide K19 _ B0).mono ?_; rintro e v1 ⟨rfl, hv1⟩; have B1 := bl_past B0 hv1))
      have HB2 := hide B1
      clear B0 B1 Bz hv0 hv1 K18 K19
      go_wp2_with fail
      go_roundg (gk - 1)
      case measure => have := unhide hz; omega
      case rel => exact ⟨z + 1, by have := unhide hz; unfold Hid; omega, by omega, by omega, by first | rfl | rw [hwz], HB2⟩
    · have g : decide (z ≤ (NB : Int)) = false := decide_eq_false hlt
      go_wp2_with fail
      refine (unhide H11 _ (unhide hB)).mono ?_
      rintro e w5 ⟨rfl, hb5⟩
      have HB5 := hide (bl_past (bl_past (unhide HBW) (unhide hB)) hb5)
      clear hb5
      go_wp2_with fail
      go_ret
      exact ⟨rfl, unhide HB5⟩
end Go.Proofs.Ytadgiccfjppnfaa
