/-
  The document's Decode, whole.
-/
import Derived.Test.YtonnkaphomonpaaBoth
namespace Go.Proofs.Ytonnkaphomonpaa
open Go.RowKit
set_option linter.unusedVariables false

def NextPostR (q qb : Nat) (v : Value) (B : List Int) (w : World) (o : Except Int ((Int × Int) × List Int)) (e : Ending) (w' : World) : Prop :=
  match o with
  | .ok ((op, a), t) => e = .returned (.tuple #[.agg #[.int .i64 op, .int .i64 a], .int .i64 0]) ∧ ∃ pl, RefR w' q qb v B pl 0 ∧ B.drop pl = t ∧ RFr q w w'
  | .error k => ∃ x y, e = .returned (.tuple #[.agg #[.int .i64 x, .int .i64 y], .int .i64 k]) ∧ k ≠ 0 ∧ RFr q w w'

/-- What the document's reader gives for an operand. -/
def ReadPostR (q qb : Nat) (v : Value) (B : List Int) (w : World) (k : Nat) (o : Except Int (Int × List Int)) (e : Ending) (w' : World) : Prop :=
  match o with
  | .ok (a, t) => (if k = 1 then e = .returned (.int .i64 a) else ∃ x : Nat, e = .returned (.int .u64 (x : Int)) ∧ wrap64 (x : Int) = a) ∧ ∃ pl, RefR w' q qb v B pl 0 ∧ B.drop pl = t ∧ RFr q w w'
  | .error k' => (if k = 1 then e = .returned (.int .i64 0) else e = .returned (.int .u64 0)) ∧ ∃ pl, RefR w' q qb v B pl k' ∧ RFr q w w'
theorem dInt_read (q : Nat) {qb : Nat} (v : Value) (B : List Int) (pl : Nat) (w : World) (h : RefR w q qb v B pl 0) (hB : BOk B) (hN : B.length ≤ 140737488355328) :
    Calls Try.prog 77 #[.pointer (some ⟨q, 0, none⟩)] w fun e w' => ReadPostR q qb v B w 1 (opR 1 (B.drop pl)) e w' := by
  refine (refInt_any q v B pl 0 w h hB hN).mono ?_
  rintro e w' ⟨he, pl', hR, hD, hF⟩
  cases hu : unum 0 0 (B.drop pl) with
  | error k =>
    have eo : opR 1 (B.drop pl) = .error k := by unfold opR; rw [if_neg (by decide), hu]
    rw [hu] at he hR hD
    rw [eo]
    exact ⟨he, pl', hR, hF⟩
  | ok p =>
    obtain ⟨x, t'⟩ := p
    have eo : opR 1 (B.drop pl) = .ok (unfoldI x, t') := by
      unfold opR
      rw [if_neg (by decide), hu]
      simp only [if_pos]
    rw [hu] at he hR hD
    rw [eo]
    exact ⟨he, pl', hR, hD, hF⟩
theorem dUint_read (k : Nat) (h0 : k ≠ 0) (h1 : k ≠ 1) (q : Nat) {qb : Nat} (v : Value) (B : List Int) (pl : Nat) (w : World) (h : RefR w q qb v B pl 0) (hB : BOk B) (hN : B.length ≤ 140737488355328) :
    Calls Try.prog 78 #[.pointer (some ⟨q, 0, none⟩)] w fun e w' => ReadPostR q qb v B w k (opR k (B.drop pl)) e w' := by
  refine (refUint_any q v B pl 0 w h hB hN).mono ?_
  rintro e w' ⟨he, pl', hR, hD, hF⟩
  cases hu : unum 0 0 (B.drop pl) with
  | error k' =>
    have eo : opR k (B.drop pl) = .error k' := by unfold opR; rw [if_neg h0, hu]
    rw [hu] at he hR hD
    rw [eo]
    refine ⟨?_, pl', hR, hF⟩
    rw [if_neg h1]
    exact he
  | ok p =>
    obtain ⟨x, t'⟩ := p
    have eo : opR k (B.drop pl) = .ok (sI x, t') := by
      unfold opR
      rw [if_neg h0, hu]
      simp only [if_neg h1]
    rw [hu] at he hR hD
    rw [eo]
    refine ⟨?_, pl', hR, hD, hF⟩
    rw [if_neg h1]
    exact ⟨x, he, rfl⟩
theorem RefR.keepF {w w' : World} {q qb : Nat} {v : Value} {B : List Int} {pl : Nat} {e : Int} (h : RefR w q qb v B pl e) (f : Fr (fun _ => False) w w') : RefR w' q qb v B pl e := h.keep f (by simp) (by simp)
theorem RefR.ltq {w : World} {q qb : Nat} {v : Value} {B : List Int} {pl : Nat} {e : Int} (h : RefR w q qb v B pl e) : q < w.heap.size := World.block_lt_of_cell? _ _ h.c0

theorem opR_I64 {k : Nat} {t t' : List Int} {a : Int} (h : opR k t = .ok (a, t')) (hB : BOk t) : I64 a := by
  unfold opR at h
  split at h
  · cases h; exact ⟨by decide, by decide⟩
  · split at h
    · cases h
    · rename_i x t2 hu
      obtain ⟨hx, _⟩ := unum_lt 0 0 t x t2 (by omega) (by decide) hB hu
      cases h
      split
      · exact unfold_bd x hx
      · unfold sI wrap64 I64; omega
set_option maxRecDepth 100000 in
set_option maxHeartbeats 4000000 in
theorem dNext_any (q : Nat) {qb : Nat} (v : Value) (B : List Int) (pl : Nat) (b : Int) (t : List Int) (w : World) (h : RefR w q qb v B pl 0) (hd : B.drop pl = b :: t) (hB : BOk B) (hN : B.length ≤ 140737488355328) :
    Calls Try.prog 64 #[.pointer (some ⟨q, 0, none⟩)] w fun e w' => NextPostR q qb v B w (rd1 b t) e w' := by
  have hq := h.ltq
  obtain ⟨w0, hw0⟩ : ∃ w0, Hid (w0 = (w.alloc (.cells #[.int .i64 0, .int .i64 0] 24)).alloc (.cells #[.int .i64 0, .int .i64 0] 24)) := ⟨_, rfl⟩
  have F0 : Hid (Fr (fun k => k = q) w w0) := by rw [unhide hw0]; exact ((Fr.refl _ w).alloc _).alloc _
  have h1 : RefR w0 q qb v B pl 0 := by rw [unhide hw0]; exact h.keepF (((Fr.refl _ w).alloc _).alloc _)
  have HBy := hide (refByte_any q v B pl 0 w0 h1 hN)
  rw [hd] at HBy
  have hbb := hB b (List.mem_of_mem_drop (i := pl) (by rw [hd]; exact List.mem_cons_self ..))
  obtain ⟨n, rfl⟩ : ∃ n : Nat, b = n := ⟨b.toNat, by omega⟩
  have N0 : Hid (w0.cell? ⟨w.heap.size + 1, 0, none⟩ = some (.int .i64 0) ∧ w0.cell? ⟨w.heap.size + 1, 1, none⟩ = some (.int .i64 0)) := by
    obtain ⟨q0, q1⟩ := two_new (w.alloc (.cells #[.int .i64 0, .int .i64 0] 24)) (.int .i64 0) (.int .i64 0) 24
    rw [show (w.alloc (.cells #[.int .i64 0, .int .i64 0] 24)).heap.size = w.heap.size + 1 by simp] at q0 q1
    rw [unhide hw0]
    exact ⟨q0, q1⟩
  have Q0 : Hid (Bk w0 w.heap.size) := by rw [unhide hw0]; exact (Bk.new w (.int .i64 0) (.int .i64 0)).fr ((Fr.refl (fun _ => False) _).alloc _) (by simp)
  have HBt : Hid (BOk t) := fun x hx => hB x (List.mem_of_mem_drop (i := pl) (by rw [hd]; exact List.mem_cons_of_mem _ hx))
  have HRI := hide (fun (W : World) (pl1 : Nat) (hr : RefR W q qb v B pl1 0) => dInt_read q v B pl1 W hr hB hN)
  have HRU := hide (fun (k : Nat) (h0 : k ≠ 0) (h1 : k ≠ 1) (W : World) (pl1 : Nat) (hr : RefR W q qb v B pl1 0) => dUint_read k h0 h1 q v B pl1 W hr hB hN)
  have HQB : Hid (qb < w.heap.size) := by
    rcases h.rd with ⟨e, e2⟩ | ⟨b0, off, cap, e, _, _, qq, _⟩
    · rw [e2] at hd; simp at hd
    · have := h.ap b0 off _ cap e
      unfold Hid; omega
  have HO := hide dOperand_any
  obtain ⟨o, ho⟩ : ∃ o, Hid (o = rd1 n t) := ⟨_, rfl⟩
  rw [← unhide ho]
  have hn256 : n < 256 := by omega
  clear h h1 hB hN hd hbb
  go_enter Try.func64, Try.ntmps64
  go_wp2_with fail
  rw [← unhide hw0]
  refine (unhide HBy).mono ?_
  rintro e w1 ⟨he, pl1, hR1, hD1', hF1⟩
  have he' : e = .returned (.int .u8 (n : Int)) := he
  have D1 : Hid (RefR w1 q qb v B pl1 0) := hR1
  have hD1 : Hid (B.drop pl1 = t) := hD1'
  subst he'
  have F1 := hide ((unhide F0).trans hF1)
  have s1 : w0.heap.size = w.heap.size + 1 + 1 := by rw [unhide hw0]; simp
  have hN1 : Hid (w.heap.size + 1 < w1.heap.size) := by have := hF1.size; unfold Hid; omega
  have N1 : Hid (w1.cell? ⟨w.heap.size + 1, 0, none⟩ = some (.int .i64 0) ∧ w1.cell? ⟨w.heap.size + 1, 1, none⟩ = some (.int .i64 0)) := ⟨(hF1.cell (a := ⟨w.heap.size + 1, 0, none⟩) (World.block_lt_of_cell? _ _ (unhide N0).1) (show ¬ w.heap.size + 1 = q by omega)).trans (unhide N0).1, (hF1.cell (a := ⟨w.heap.size + 1, 1, none⟩) (World.block_lt_of_cell? _ _ (unhide N0).2) (show ¬ w.heap.size + 1 = q by omega)).trans (unhide N0).2⟩
  have Q1 := hide ((unhide Q0).fr hF1 (show ¬ w.heap.size = q by omega))
  have hq1' : Hid (q < w1.heap.size) := (unhide D1).ltq
  clear he hR1 hD1' hF1 s1 HBy N0 Q0 F0
  go_wp2_with fail
  refine (unhide HO _ _).mono ?_
  rintro e w3 ⟨rfl, hb3⟩
  have fal : Fr (fun _ => False) w1 w3 := ((Fr.refl (fun _ => False) w1).alloc _).trans (Fr.of_below hb3)
  have D3 := hide ((unhide D1).keepF fal)
  have F3 := hide ((unhide F1).trans (fal.mono (fun _ _ e => e.elim)))
  have N3 : Hid (w3.cell? ⟨w.heap.size + 1, 0, none⟩ = some (.int .i64 0) ∧ w3.cell? ⟨w.heap.size + 1, 1, none⟩ = some (.int .i64 0)) := ⟨(fal.cell (a := ⟨w.heap.size + 1, 0, none⟩) (World.block_lt_of_cell? _ _ (unhide N1).1) (fun e => e)).trans (unhide N1).1, (fal.cell (a := ⟨w.heap.size + 1, 1, none⟩) (World.block_lt_of_cell? _ _ (unhide N1).2) (fun e => e)).trans (unhide N1).2⟩
  have Q3 := hide ((unhide Q1).fr fal (fun e => e))
  have pc := par_cells hb3
  have I3 := hide pc.1
  have I31 := hide pc.2
  have Bi3 := hide ((Bk.new w1 (.int .i64 (n : Int)) (.int .i64 0)).below hb3)
  clear hb3 fal pc N1 Q1 D1 F1
  by_cases hop : 0 ≤ (n : Int) ∧ (n : Int) < 67
  · have hn : n < 67 := by omega
    rw [kdI_nat hn, isOp_nat hn]
    have eO : Hid (rd1 n t = match opR (kd n) t with | .error e => .error e | .ok (a, t') => if okB n a then .ok (((n : Int), a), t') else .error 7) := by
      unfold Hid rd1; rw [isOp_nat hn]; rfl
    generalize kd n = d at *
    by_cases hd0 : d = 0
    · subst hd0
      have e0 : opR 0 t = .ok (0, t) := rfl
      have eo : Hid (o = if okB n (0 : Int) then .ok (((n : Int), (0 : Int)), t) else .error 7) := by unfold Hid; rw [unhide ho, unhide eO, e0]
      have hIa : I64 0 := ⟨by decide, by decide⟩
      have N4 := N3
      have Q4 := Q3
      have D4 := D3
      have F4 := F3
      have hDr := hD1
      have I4 : Hid (w3.cell? ⟨w1.heap.size, 0, none⟩ = some (.int .i64 (n : Int)) ∧ w3.cell? ⟨w1.heap.size, 1, none⟩ = some (.int .i64 0)) := ⟨unhide I3, unhide I31⟩
      clear e0
      have m0 := (unhide N4).1
      have m1 := (unhide N4).2
      obtain ⟨x0, s0⟩ := (unhide Q4).c0
      obtain ⟨x1, s1⟩ := (unhide Q4).c1
      have g0 := (unhide Q4).f0
      have g1 := (unhide Q4).f1
      have e2 := (unhide D4).c2
      have hq4 := (unhide D4).ltq
      have HCk := hide (fun w => dCheck_any w n 0 hIa)
      have k0 := (unhide I4).1
      have k1 := (unhide I4).2
      go_wp2_with fail
      refine (unhide HCk _).mono ?_
      rintro e w5 ⟨rfl, hb5⟩
      have n50 := (hb5.cell (p := ⟨w.heap.size + 1, 0, none⟩) (World.block_lt_of_cell? _ _ m0)).trans m0
      have n51 := (hb5.cell (p := ⟨w.heap.size + 1, 1, none⟩) (World.block_lt_of_cell? _ _ m1)).trans m1
      have i50 := (hb5.cell (p := ⟨w1.heap.size, 0, none⟩) (World.block_lt_of_cell? _ _ k0)).trans k0
      have i51 := (hb5.cell (p := ⟨w1.heap.size, 1, none⟩) (World.block_lt_of_cell? _ _ k1)).trans k1
      have Q5 := hide ((unhide Q4).below hb5)
      obtain ⟨y0, t0⟩ := (unhide Q5).c0
      obtain ⟨y1, t1⟩ := (unhide Q5).c1
      have u0 := (unhide Q5).f0
      have u1 := (unhide Q5).f1
      have F5 := hide ((unhide F4).trans (Fr.of_below hb5))
      have D5 := hide ((unhide D4).keepF (Fr.of_below hb5))
      clear hb5 s0 s1 g0 g1 e2 m0 m1 k0 k1
      cases hok : okB n (0 : Int)
      · have her : erN n 0 = 7 := by simp [erN, hok]
        have hoo : o = .error 7 := by rw [unhide eo, hok]; rfl
        rw [her]
        clear her hok
        go_wp2_with fail
        refine bodyPost_ret (v := .tuple #[.agg #[.int .i64 0, .int .i64 0], .int .i64 7]) ?_ rfl ?_
        · rw [results_cell_tmp rfl]
          go_simp
        · rw [hoo]
          exact ⟨0, 0, rfl, by decide, ((unhide F5).setCell _ (.inl (Nat.le_refl _)) _).setCell _ (.inl (Nat.le_refl _)) _⟩
      · have her : erN n 0 = 0 := by simp [erN, hok]
        have hoo : o = .ok (((n : Int), (0 : Int)), t) := by rw [unhide eo, hok]; rfl
        rw [her]
        clear her hok
        go_wp2_with fail
        refine bodyPost_ret (v := .tuple #[.agg #[.int .i64 (n : Int), .int .i64 0], .int .i64 0]) ?_ rfl ?_
        · rw [results_cell_tmp rfl]
          go_simp
        · rw [hoo]
          have hq5 := (unhide D5).ltq
          have ff : Fr (fun k => k = w.heap.size) w5 ((w5.setCell ⟨w.heap.size, 0, none⟩ (.int .i64 (n : Int))).setCell ⟨w.heap.size, 1, none⟩ (.int .i64 0)) := ((Fr.refl (fun k => k = w.heap.size) w5).setCell ⟨w.heap.size, 0, none⟩ (.inr rfl) _).setCell ⟨w.heap.size, 1, none⟩ (.inr rfl) _
          exact ⟨rfl, pl1, (unhide D5).keep ff (show ¬ q = w.heap.size by omega) (fun b off len cap e qq => by have q1 := (unhide D5).ap b off len cap e; have q2 : b = w.heap.size := qq; have := unhide HQB; omega), unhide hDr, ((unhide F5).setCell _ (.inl (Nat.le_refl _)) _).setCell _ (.inl (Nat.le_refl _)) _⟩
    · by_cases hd1 : d = 1
      · subst hd1
        have HRd := hide (unhide HRI w3 pl1 (unhide D3))
        rw [unhide hD1] at HRd
        clear hd0
        go_wp2_with fail
        refine (unhide HRd).mono ?_
        intro e w4 hp
        cases hr4 : opR 1 t with
        | error er =>
          rw [hr4] at hp
          obtain ⟨he, pl4, hD4, hF4⟩ := hp
          have he' : e = .returned (.int .i64 0) := he
          subst he'
          have her : er ≠ 0 := opR_err hr4
          have eo : Hid (o = .error er) := by unfold Hid; rw [unhide ho, unhide eO, hr4]
          have fset : Fr (fun k => k = w1.heap.size) w4 (w4.setCell ⟨w1.heap.size, 1, none⟩ (.int .i64 0)) := (Fr.refl (fun k => k = w1.heap.size) w4).setCell ⟨w1.heap.size, 1, none⟩ (.inr rfl) _
          have hq1 := unhide hq1'
          have b3 := unhide Bi3
          have bi4 := b3.fr hF4 (show ¬ w1.heap.size = q by omega)
          obtain ⟨z1, zc1⟩ := bi4.c1
          have zf1 := bi4.f1
          have zc0 := (hF4.cell (a := ⟨w1.heap.size, 0, none⟩) b3.lt (show ¬ w1.heap.size = q by omega)).trans (unhide I3)
          have I4 : Hid ((w4.setCell ⟨w1.heap.size, 1, none⟩ (.int .i64 0)).cell? ⟨w1.heap.size, 0, none⟩ = some (.int .i64 (n : Int)) ∧ (w4.setCell ⟨w1.heap.size, 1, none⟩ (.int .i64 0)).cell? ⟨w1.heap.size, 1, none⟩ = some (.int .i64 0)) := ⟨(World.cell?_setCell_other _ _ _ _ (by simp)).trans zc0, World.cell?_setCell_same _ _ _ zc1⟩
          have N4 : Hid ((w4.setCell ⟨w1.heap.size, 1, none⟩ (.int .i64 0)).cell? ⟨w.heap.size + 1, 0, none⟩ = some (.int .i64 0) ∧ (w4.setCell ⟨w1.heap.size, 1, none⟩ (.int .i64 0)).cell? ⟨w.heap.size + 1, 1, none⟩ = some (.int .i64 0)) := by
            obtain ⟨a1, a2⟩ := unhide N3
            have a1' := (hF4.cell (a := ⟨w.heap.size + 1, 0, none⟩) (World.block_lt_of_cell? _ _ a1) (show ¬ w.heap.size + 1 = q by omega)).trans a1
            have a2' := (hF4.cell (a := ⟨w.heap.size + 1, 1, none⟩) (World.block_lt_of_cell? _ _ a2) (show ¬ w.heap.size + 1 = q by omega)).trans a2
            have hne : ¬ w.heap.size + 1 = w1.heap.size := by have := unhide hN1; omega
            exact ⟨(fset.cell (a := ⟨w.heap.size + 1, 0, none⟩) (World.block_lt_of_cell? _ _ a1') hne).trans a1', (fset.cell (a := ⟨w.heap.size + 1, 1, none⟩) (World.block_lt_of_cell? _ _ a2') hne).trans a2'⟩
          have Q4 : Hid (Bk (w4.setCell ⟨w1.heap.size, 1, none⟩ (.int .i64 0)) w.heap.size) := ((unhide Q3).fr hF4 (show ¬ w.heap.size = q by omega)).fr fset (by have := unhide hN1; omega)
          have D4 : Hid (RefR (w4.setCell ⟨w1.heap.size, 1, none⟩ (.int .i64 0)) q qb v B pl4 er) := hD4.keep fset (by omega) (fun b off len cap e qq => by have q1 := hD4.ap b off len cap e; have q2 : b = w1.heap.size := qq; have := unhide HQB; have := unhide hN1; omega)
          have F4 : Hid (Fr (fun k => k = q) w (w4.setCell ⟨w1.heap.size, 1, none⟩ (.int .i64 0))) := ((unhide F3).trans hF4).setCell ⟨w1.heap.size, 1, none⟩ (.inl (by have := unhide hN1; show w.heap.size ≤ w1.heap.size; omega)) _
          clear he hD4 hF4 hr4 fset bi4 b3 zc0 HRd
          have m0 := (unhide N4).1
          have m1 := (unhide N4).2
          obtain ⟨x0, s0⟩ := (unhide Q4).c0
          obtain ⟨x1, s1⟩ := (unhide Q4).c1
          have g0 := (unhide Q4).f0
          have g1 := (unhide Q4).f1
          have e2 := (unhide D4).c2
          have hq4 := (unhide D4).ltq
          have her' : (er != 0) = true := by simpa using her
          have HER := hide her
          have hS : (w4.setCell ⟨w1.heap.size, 1, none⟩ (.int .i64 0)).cell? ⟨w.heap.size + 1, 0, none⟩ = some (.int .i64 0) ∧ (w4.setCell ⟨w1.heap.size, 1, none⟩ (.int .i64 0)).cell? ⟨w.heap.size + 1, 1, none⟩ = some (.int .i64 0) ∧ (w4.setCell ⟨w1.heap.size, 1, none⟩ (.int .i64 0)).cell? ⟨q, 2, none⟩ = some (.int .i64 er) := ⟨m0, m1, e2⟩
          clear her
          go_wp2_with fail
          refine wp_region_held_drew (S := (fun wx => wx.cell? ⟨w.heap.size + 1, 0, none⟩ = some (.int .i64 0) ∧ wx.cell? ⟨w.heap.size + 1, 1, none⟩ = some (.int .i64 0) ∧ wx.cell? ⟨q, 2, none⟩ = some (.int .i64 er))) (by kernel_rfl) hS (fun hHeld => ?_)
          refine wpAnyH_take (i := 0) (oi := _) (v := .agg #[.int .i64 0, .int .i64 0]) rfl (by kernel_rfl) (by kernel_rfl) (by kernel_rfl) (fun _ _ _ h => h) (Or.inl ⟨by rfl, (by intro w hSw; obtain ⟨hs0, hs1, hs2⟩ := hSw; go_simp)⟩) (by assumption) ?_
          refine wpAnyH_take (i := 1) (oi := _) (v := .pointer (some ⟨q, 0, none⟩)) rfl (by kernel_rfl) (by kernel_rfl) (by kernel_rfl) (fun _ _ _ h => h) (Or.inl ⟨by rfl, (by intro w hSw; go_simp)⟩) (by assumption) ?_
          refine wpAnyH_take (i := 2) (oi := _) (v := .pointer (some ⟨q, 0, none⟩)) rfl (by kernel_rfl) (by kernel_rfl) (by kernel_rfl) (fun _ _ _ h => h) (Or.inl ⟨by rfl, (by intro w hSw; obtain ⟨hs0, hs1, hs2⟩ := hSw; go_simp)⟩) (by assumption) ?_
          go_simp
          refine wpAnyH_take (i := 3) (oi := _) (v := .pointer (some ⟨q, 2, none⟩)) rfl (by kernel_rfl) (by kernel_rfl) (by kernel_rfl) (fun _ _ _ h => h) (Or.inl ⟨by rfl, (by intro w hSw; go_simp)⟩) (by assumption) ?_
          refine wpAnyH_take (i := 4) (oi := _) (v := .int .i64 er) rfl (by kernel_rfl) (by kernel_rfl) (by kernel_rfl) (fun _ _ _ h => h) (Or.inl ⟨by rfl, (by intro w hSw; obtain ⟨hs0, hs1, hs2⟩ := hSw; go_simp)⟩) (by assumption) ?_
          go_simp
          refine wpAnyH_ready (rs := [5]) (by kernel_rfl) (by simp) ?_
          refine AllReadyH.cons (o := _) rfl (fun K hK => ?_) AllReadyH.nil
          go_simp
          have ff : Fr (fun k => k = w.heap.size) (w4.setCell ⟨w1.heap.size, 1, none⟩ (.int .i64 0)) (((w4.setCell ⟨w1.heap.size, 1, none⟩ (.int .i64 0)).drew.setCell ⟨w.heap.size, 0, none⟩ (.int .i64 0)).setCell ⟨w.heap.size, 1, none⟩ (.int .i64 0)) := (((Fr.refl (fun k => k = w.heap.size) (w4.setCell ⟨w1.heap.size, 1, none⟩ (.int .i64 0))).drew).setCell ⟨w.heap.size, 0, none⟩ (.inr rfl) _).setCell ⟨w.heap.size, 1, none⟩ (.inr rfl) _
          have S6 : (((w4.setCell ⟨w1.heap.size, 1, none⟩ (.int .i64 0)).drew.setCell ⟨w.heap.size, 0, none⟩ (.int .i64 0)).setCell ⟨w.heap.size, 1, none⟩ (.int .i64 0)).cell? ⟨w.heap.size + 1, 0, none⟩ = some (.int .i64 0) ∧ (((w4.setCell ⟨w1.heap.size, 1, none⟩ (.int .i64 0)).drew.setCell ⟨w.heap.size, 0, none⟩ (.int .i64 0)).setCell ⟨w.heap.size, 1, none⟩ (.int .i64 0)).cell? ⟨w.heap.size + 1, 1, none⟩ = some (.int .i64 0) ∧ (((w4.setCell ⟨w1.heap.size, 1, none⟩ (.int .i64 0)).drew.setCell ⟨w.heap.size, 0, none⟩ (.int .i64 0)).setCell ⟨w.heap.size, 1, none⟩ (.int .i64 0)).cell? ⟨q, 2, none⟩ = some (.int .i64 er) :=
            ⟨(ff.cell (a := ⟨w.heap.size + 1, 0, none⟩) (World.block_lt_of_cell? _ _ hS.1) (show ¬ (w.heap.size + 1 = w.heap.size) by omega)).trans hS.1, (ff.cell (a := ⟨w.heap.size + 1, 1, none⟩) (World.block_lt_of_cell? _ _ hS.2.1) (show ¬ (w.heap.size + 1 = w.heap.size) by omega)).trans hS.2.1, (ff.cell (a := ⟨q, 2, none⟩) (World.block_lt_of_cell? _ _ hS.2.2) (show ¬ (q = w.heap.size) by omega)).trans hS.2.2⟩
          have FF := hide ff
          clear ff
          refine hK.out _ _ S6 (fun hHeld2 => ?_)
          clear hK K
          refine wpAnyH_take (i := 6) (oi := _) (v := .int .i64 er) rfl (by kernel_rfl) (by kernel_rfl) (by kernel_rfl) (fun _ _ _ h => h) (Or.inl ⟨by rfl, (by intro w hSw; go_simp)⟩) (by assumption) ?_
          refine wpAnyH_done (by kernel_rfl) ?_ _
          clear hHeld hHeld2 hS S6
          go_wp2_with fail
          refine bodyPost_ret (v := .tuple #[.agg #[.int .i64 0, .int .i64 0], .int .i64 er]) ?_ rfl ?_
          · rw [results_cell_tmp rfl]
            go_simp
          · rw [unhide eo]
            exact ⟨0, 0, rfl, unhide HER, (((unhide F4).drew).setCell _ (.inl (Nat.le_refl _)) _).setCell _ (.inl (Nat.le_refl _)) _⟩
        | ok p =>
          obtain ⟨a, t4⟩ := p
          rw [hr4] at hp
          obtain ⟨he, pl4, hD4, hdr, hF4⟩ := hp
          have hIa : I64 a := opR_I64 hr4 (unhide HBt)
          have hDr := hide hdr
          have eo : Hid (o = if okB n a then .ok (((n : Int), a), t4) else .error 7) := by unfold Hid; rw [unhide ho, unhide eO, hr4]
          have he' : e = .returned (.int .i64 a) := he
          subst he'
          have fset : Fr (fun k => k = w1.heap.size) w4 (w4.setCell ⟨w1.heap.size, 1, none⟩ (.int .i64 a)) := (Fr.refl (fun k => k = w1.heap.size) w4).setCell ⟨w1.heap.size, 1, none⟩ (.inr rfl) _
          have hq1 := unhide hq1'
          have b3 := unhide Bi3
          have bi4 := b3.fr hF4 (show ¬ w1.heap.size = q by omega)
          obtain ⟨z1, zc1⟩ := bi4.c1
          have zf1 := bi4.f1
          have zc0 := (hF4.cell (a := ⟨w1.heap.size, 0, none⟩) b3.lt (show ¬ w1.heap.size = q by omega)).trans (unhide I3)
          have I4 : Hid ((w4.setCell ⟨w1.heap.size, 1, none⟩ (.int .i64 a)).cell? ⟨w1.heap.size, 0, none⟩ = some (.int .i64 (n : Int)) ∧ (w4.setCell ⟨w1.heap.size, 1, none⟩ (.int .i64 a)).cell? ⟨w1.heap.size, 1, none⟩ = some (.int .i64 a)) := ⟨(World.cell?_setCell_other _ _ _ _ (by simp)).trans zc0, World.cell?_setCell_same _ _ _ zc1⟩
          have N4 : Hid ((w4.setCell ⟨w1.heap.size, 1, none⟩ (.int .i64 a)).cell? ⟨w.heap.size + 1, 0, none⟩ = some (.int .i64 0) ∧ (w4.setCell ⟨w1.heap.size, 1, none⟩ (.int .i64 a)).cell? ⟨w.heap.size + 1, 1, none⟩ = some (.int .i64 0)) := by
            obtain ⟨a1, a2⟩ := unhide N3
            have a1' := (hF4.cell (a := ⟨w.heap.size + 1, 0, none⟩) (World.block_lt_of_cell? _ _ a1) (show ¬ w.heap.size + 1 = q by omega)).trans a1
            have a2' := (hF4.cell (a := ⟨w.heap.size + 1, 1, none⟩) (World.block_lt_of_cell? _ _ a2) (show ¬ w.heap.size + 1 = q by omega)).trans a2
            have hne : ¬ w.heap.size + 1 = w1.heap.size := by have := unhide hN1; omega
            exact ⟨(fset.cell (a := ⟨w.heap.size + 1, 0, none⟩) (World.block_lt_of_cell? _ _ a1') hne).trans a1', (fset.cell (a := ⟨w.heap.size + 1, 1, none⟩) (World.block_lt_of_cell? _ _ a2') hne).trans a2'⟩
          have Q4 : Hid (Bk (w4.setCell ⟨w1.heap.size, 1, none⟩ (.int .i64 a)) w.heap.size) := ((unhide Q3).fr hF4 (show ¬ w.heap.size = q by omega)).fr fset (by have := unhide hN1; omega)
          have D4 : Hid (RefR (w4.setCell ⟨w1.heap.size, 1, none⟩ (.int .i64 a)) q qb v B pl4 0) := hD4.keep fset (by omega) (fun b off len cap e qq => by have q1 := hD4.ap b off len cap e; have q2 : b = w1.heap.size := qq; have := unhide HQB; have := unhide hN1; omega)
          have F4 : Hid (Fr (fun k => k = q) w (w4.setCell ⟨w1.heap.size, 1, none⟩ (.int .i64 a))) := ((unhide F3).trans hF4).setCell ⟨w1.heap.size, 1, none⟩ (.inl (by have := unhide hN1; show w.heap.size ≤ w1.heap.size; omega)) _
          clear he hD4 hdr hF4 hr4 fset bi4 b3 zc0 HRd
          have m0 := (unhide N4).1
          have m1 := (unhide N4).2
          obtain ⟨x0, s0⟩ := (unhide Q4).c0
          obtain ⟨x1, s1⟩ := (unhide Q4).c1
          have g0 := (unhide Q4).f0
          have g1 := (unhide Q4).f1
          have e2 := (unhide D4).c2
          have hq4 := (unhide D4).ltq
          have HCk := hide (fun w => dCheck_any w n a hIa)
          have k0 := (unhide I4).1
          have k1 := (unhide I4).2
          go_wp2_with fail
          refine (unhide HCk _).mono ?_
          rintro e w5 ⟨rfl, hb5⟩
          have n50 := (hb5.cell (p := ⟨w.heap.size + 1, 0, none⟩) (World.block_lt_of_cell? _ _ m0)).trans m0
          have n51 := (hb5.cell (p := ⟨w.heap.size + 1, 1, none⟩) (World.block_lt_of_cell? _ _ m1)).trans m1
          have i50 := (hb5.cell (p := ⟨w1.heap.size, 0, none⟩) (World.block_lt_of_cell? _ _ k0)).trans k0
          have i51 := (hb5.cell (p := ⟨w1.heap.size, 1, none⟩) (World.block_lt_of_cell? _ _ k1)).trans k1
          have Q5 := hide ((unhide Q4).below hb5)
          obtain ⟨y0, t0⟩ := (unhide Q5).c0
          obtain ⟨y1, t1⟩ := (unhide Q5).c1
          have u0 := (unhide Q5).f0
          have u1 := (unhide Q5).f1
          have F5 := hide ((unhide F4).trans (Fr.of_below hb5))
          have D5 := hide ((unhide D4).keepF (Fr.of_below hb5))
          clear hb5 s0 s1 g0 g1 e2 m0 m1 k0 k1
          cases hok : okB n a
          · have her : erN n a = 7 := by simp [erN, hok]
            have hoo : o = .error 7 := by rw [unhide eo, hok]; rfl
            rw [her]
            clear her hok
            go_wp2_with fail
            refine bodyPost_ret (v := .tuple #[.agg #[.int .i64 0, .int .i64 0], .int .i64 7]) ?_ rfl ?_
            · rw [results_cell_tmp rfl]
              go_simp
            · rw [hoo]
              exact ⟨0, 0, rfl, by decide, ((unhide F5).setCell _ (.inl (Nat.le_refl _)) _).setCell _ (.inl (Nat.le_refl _)) _⟩
          · have her : erN n a = 0 := by simp [erN, hok]
            have hoo : o = .ok (((n : Int), a), t4) := by rw [unhide eo, hok]; rfl
            rw [her]
            clear her hok
            go_wp2_with fail
            refine bodyPost_ret (v := .tuple #[.agg #[.int .i64 (n : Int), .int .i64 a], .int .i64 0]) ?_ rfl ?_
            · rw [results_cell_tmp rfl]
              go_simp
            · rw [hoo]
              have hq5 := (unhide D5).ltq
              have ff : Fr (fun k => k = w.heap.size) w5 ((w5.setCell ⟨w.heap.size, 0, none⟩ (.int .i64 (n : Int))).setCell ⟨w.heap.size, 1, none⟩ (.int .i64 a)) := ((Fr.refl (fun k => k = w.heap.size) w5).setCell ⟨w.heap.size, 0, none⟩ (.inr rfl) _).setCell ⟨w.heap.size, 1, none⟩ (.inr rfl) _
              exact ⟨rfl, pl4, (unhide D5).keep ff (show ¬ q = w.heap.size by omega) (fun b off len cap e qq => by have q1 := (unhide D5).ap b off len cap e; have q2 : b = w.heap.size := qq; have := unhide HQB; omega), unhide hDr, ((unhide F5).setCell _ (.inl (Nat.le_refl _)) _).setCell _ (.inl (Nat.le_refl _)) _⟩
      · have hd1' : ((d : Int) == 1) = false := by simp; omega
        have hd0' : ((d : Int) != 0) = true := by simp; omega
        have HRd := hide (unhide HRU d hd0 hd1 w3 pl1 (unhide D3))
        rw [unhide hD1] at HRd
        go_wp2_with fail
        refine (unhide HRd).mono ?_
        intro e w4 hp
        cases hr4 : opR d t with
        | error er =>
          rw [hr4] at hp
          obtain ⟨he, pl4, hD4, hF4⟩ := hp
          have he' : e = .returned (.int .u64 0) := by rw [if_neg hd1] at he; exact he
          subst he'
          have her : er ≠ 0 := opR_err hr4
          have eo : Hid (o = .error er) := by unfold Hid; rw [unhide ho, unhide eO, hr4]
          have fset : Fr (fun k => k = w1.heap.size) w4 (w4.setCell ⟨w1.heap.size, 1, none⟩ (.int .i64 0)) := (Fr.refl (fun k => k = w1.heap.size) w4).setCell ⟨w1.heap.size, 1, none⟩ (.inr rfl) _
          have hq1 := unhide hq1'
          have b3 := unhide Bi3
          have bi4 := b3.fr hF4 (show ¬ w1.heap.size = q by omega)
          obtain ⟨z1, zc1⟩ := bi4.c1
          have zf1 := bi4.f1
          have zc0 := (hF4.cell (a := ⟨w1.heap.size, 0, none⟩) b3.lt (show ¬ w1.heap.size = q by omega)).trans (unhide I3)
          have I4 : Hid ((w4.setCell ⟨w1.heap.size, 1, none⟩ (.int .i64 0)).cell? ⟨w1.heap.size, 0, none⟩ = some (.int .i64 (n : Int)) ∧ (w4.setCell ⟨w1.heap.size, 1, none⟩ (.int .i64 0)).cell? ⟨w1.heap.size, 1, none⟩ = some (.int .i64 0)) := ⟨(World.cell?_setCell_other _ _ _ _ (by simp)).trans zc0, World.cell?_setCell_same _ _ _ zc1⟩
          have N4 : Hid ((w4.setCell ⟨w1.heap.size, 1, none⟩ (.int .i64 0)).cell? ⟨w.heap.size + 1, 0, none⟩ = some (.int .i64 0) ∧ (w4.setCell ⟨w1.heap.size, 1, none⟩ (.int .i64 0)).cell? ⟨w.heap.size + 1, 1, none⟩ = some (.int .i64 0)) := by
            obtain ⟨a1, a2⟩ := unhide N3
            have a1' := (hF4.cell (a := ⟨w.heap.size + 1, 0, none⟩) (World.block_lt_of_cell? _ _ a1) (show ¬ w.heap.size + 1 = q by omega)).trans a1
            have a2' := (hF4.cell (a := ⟨w.heap.size + 1, 1, none⟩) (World.block_lt_of_cell? _ _ a2) (show ¬ w.heap.size + 1 = q by omega)).trans a2
            have hne : ¬ w.heap.size + 1 = w1.heap.size := by have := unhide hN1; omega
            exact ⟨(fset.cell (a := ⟨w.heap.size + 1, 0, none⟩) (World.block_lt_of_cell? _ _ a1') hne).trans a1', (fset.cell (a := ⟨w.heap.size + 1, 1, none⟩) (World.block_lt_of_cell? _ _ a2') hne).trans a2'⟩
          have Q4 : Hid (Bk (w4.setCell ⟨w1.heap.size, 1, none⟩ (.int .i64 0)) w.heap.size) := ((unhide Q3).fr hF4 (show ¬ w.heap.size = q by omega)).fr fset (by have := unhide hN1; omega)
          have D4 : Hid (RefR (w4.setCell ⟨w1.heap.size, 1, none⟩ (.int .i64 0)) q qb v B pl4 er) := hD4.keep fset (by omega) (fun b off len cap e qq => by have q1 := hD4.ap b off len cap e; have q2 : b = w1.heap.size := qq; have := unhide HQB; have := unhide hN1; omega)
          have F4 : Hid (Fr (fun k => k = q) w (w4.setCell ⟨w1.heap.size, 1, none⟩ (.int .i64 0))) := ((unhide F3).trans hF4).setCell ⟨w1.heap.size, 1, none⟩ (.inl (by have := unhide hN1; show w.heap.size ≤ w1.heap.size; omega)) _
          clear he hD4 hF4 hr4 fset bi4 b3 zc0 HRd
          have m0 := (unhide N4).1
          have m1 := (unhide N4).2
          obtain ⟨x0, s0⟩ := (unhide Q4).c0
          obtain ⟨x1, s1⟩ := (unhide Q4).c1
          have g0 := (unhide Q4).f0
          have g1 := (unhide Q4).f1
          have e2 := (unhide D4).c2
          have hq4 := (unhide D4).ltq
          have her' : (er != 0) = true := by simpa using her
          have HER := hide her
          have hS : (w4.setCell ⟨w1.heap.size, 1, none⟩ (.int .i64 0)).cell? ⟨w.heap.size + 1, 0, none⟩ = some (.int .i64 0) ∧ (w4.setCell ⟨w1.heap.size, 1, none⟩ (.int .i64 0)).cell? ⟨w.heap.size + 1, 1, none⟩ = some (.int .i64 0) ∧ (w4.setCell ⟨w1.heap.size, 1, none⟩ (.int .i64 0)).cell? ⟨q, 2, none⟩ = some (.int .i64 er) := ⟨m0, m1, e2⟩
          clear her
          go_wp2_with fail
          refine wp_region_held_drew (S := (fun wx => wx.cell? ⟨w.heap.size + 1, 0, none⟩ = some (.int .i64 0) ∧ wx.cell? ⟨w.heap.size + 1, 1, none⟩ = some (.int .i64 0) ∧ wx.cell? ⟨q, 2, none⟩ = some (.int .i64 er))) (by kernel_rfl) hS (fun hHeld => ?_)
          refine wpAnyH_take (i := 0) (oi := _) (v := .agg #[.int .i64 0, .int .i64 0]) rfl (by kernel_rfl) (by kernel_rfl) (by kernel_rfl) (fun _ _ _ h => h) (Or.inl ⟨by rfl, (by intro w hSw; obtain ⟨hs0, hs1, hs2⟩ := hSw; go_simp)⟩) (by assumption) ?_
          refine wpAnyH_take (i := 1) (oi := _) (v := .pointer (some ⟨q, 0, none⟩)) rfl (by kernel_rfl) (by kernel_rfl) (by kernel_rfl) (fun _ _ _ h => h) (Or.inl ⟨by rfl, (by intro w hSw; go_simp)⟩) (by assumption) ?_
          refine wpAnyH_take (i := 2) (oi := _) (v := .pointer (some ⟨q, 0, none⟩)) rfl (by kernel_rfl) (by kernel_rfl) (by kernel_rfl) (fun _ _ _ h => h) (Or.inl ⟨by rfl, (by intro w hSw; obtain ⟨hs0, hs1, hs2⟩ := hSw; go_simp)⟩) (by assumption) ?_
          go_simp
          refine wpAnyH_take (i := 3) (oi := _) (v := .pointer (some ⟨q, 2, none⟩)) rfl (by kernel_rfl) (by kernel_rfl) (by kernel_rfl) (fun _ _ _ h => h) (Or.inl ⟨by rfl, (by intro w hSw; go_simp)⟩) (by assumption) ?_
          refine wpAnyH_take (i := 4) (oi := _) (v := .int .i64 er) rfl (by kernel_rfl) (by kernel_rfl) (by kernel_rfl) (fun _ _ _ h => h) (Or.inl ⟨by rfl, (by intro w hSw; obtain ⟨hs0, hs1, hs2⟩ := hSw; go_simp)⟩) (by assumption) ?_
          go_simp
          refine wpAnyH_ready (rs := [5]) (by kernel_rfl) (by simp) ?_
          refine AllReadyH.cons (o := _) rfl (fun K hK => ?_) AllReadyH.nil
          go_simp
          have ff : Fr (fun k => k = w.heap.size) (w4.setCell ⟨w1.heap.size, 1, none⟩ (.int .i64 0)) (((w4.setCell ⟨w1.heap.size, 1, none⟩ (.int .i64 0)).drew.setCell ⟨w.heap.size, 0, none⟩ (.int .i64 0)).setCell ⟨w.heap.size, 1, none⟩ (.int .i64 0)) := (((Fr.refl (fun k => k = w.heap.size) (w4.setCell ⟨w1.heap.size, 1, none⟩ (.int .i64 0))).drew).setCell ⟨w.heap.size, 0, none⟩ (.inr rfl) _).setCell ⟨w.heap.size, 1, none⟩ (.inr rfl) _
          have S6 : (((w4.setCell ⟨w1.heap.size, 1, none⟩ (.int .i64 0)).drew.setCell ⟨w.heap.size, 0, none⟩ (.int .i64 0)).setCell ⟨w.heap.size, 1, none⟩ (.int .i64 0)).cell? ⟨w.heap.size + 1, 0, none⟩ = some (.int .i64 0) ∧ (((w4.setCell ⟨w1.heap.size, 1, none⟩ (.int .i64 0)).drew.setCell ⟨w.heap.size, 0, none⟩ (.int .i64 0)).setCell ⟨w.heap.size, 1, none⟩ (.int .i64 0)).cell? ⟨w.heap.size + 1, 1, none⟩ = some (.int .i64 0) ∧ (((w4.setCell ⟨w1.heap.size, 1, none⟩ (.int .i64 0)).drew.setCell ⟨w.heap.size, 0, none⟩ (.int .i64 0)).setCell ⟨w.heap.size, 1, none⟩ (.int .i64 0)).cell? ⟨q, 2, none⟩ = some (.int .i64 er) :=
            ⟨(ff.cell (a := ⟨w.heap.size + 1, 0, none⟩) (World.block_lt_of_cell? _ _ hS.1) (show ¬ (w.heap.size + 1 = w.heap.size) by omega)).trans hS.1, (ff.cell (a := ⟨w.heap.size + 1, 1, none⟩) (World.block_lt_of_cell? _ _ hS.2.1) (show ¬ (w.heap.size + 1 = w.heap.size) by omega)).trans hS.2.1, (ff.cell (a := ⟨q, 2, none⟩) (World.block_lt_of_cell? _ _ hS.2.2) (show ¬ (q = w.heap.size) by omega)).trans hS.2.2⟩
          have FF := hide ff
          clear ff
          refine hK.out _ _ S6 (fun hHeld2 => ?_)
          clear hK K
          refine wpAnyH_take (i := 6) (oi := _) (v := .int .i64 er) rfl (by kernel_rfl) (by kernel_rfl) (by kernel_rfl) (fun _ _ _ h => h) (Or.inl ⟨by rfl, (by intro w hSw; go_simp)⟩) (by assumption) ?_
          refine wpAnyH_done (by kernel_rfl) ?_ _
          clear hHeld hHeld2 hS S6
          go_wp2_with fail
          refine bodyPost_ret (v := .tuple #[.agg #[.int .i64 0, .int .i64 0], .int .i64 er]) ?_ rfl ?_
          · rw [results_cell_tmp rfl]
            go_simp
          · rw [unhide eo]
            exact ⟨0, 0, rfl, unhide HER, (((unhide F4).drew).setCell _ (.inl (Nat.le_refl _)) _).setCell _ (.inl (Nat.le_refl _)) _⟩
        | ok p =>
          obtain ⟨a, t4⟩ := p
          rw [hr4] at hp
          obtain ⟨he, pl4, hD4, hdr, hF4⟩ := hp
          have hIa : I64 a := opR_I64 hr4 (unhide HBt)
          have hDr := hide hdr
          have eo : Hid (o = if okB n a then .ok (((n : Int), a), t4) else .error 7) := by unfold Hid; rw [unhide ho, unhide eO, hr4]
          rw [if_neg hd1] at he
          obtain ⟨x, rfl, hx⟩ := he
          have fset : Fr (fun k => k = w1.heap.size) w4 (w4.setCell ⟨w1.heap.size, 1, none⟩ (.int .i64 a)) := (Fr.refl (fun k => k = w1.heap.size) w4).setCell ⟨w1.heap.size, 1, none⟩ (.inr rfl) _
          have hq1 := unhide hq1'
          have b3 := unhide Bi3
          have bi4 := b3.fr hF4 (show ¬ w1.heap.size = q by omega)
          obtain ⟨z1, zc1⟩ := bi4.c1
          have zf1 := bi4.f1
          have zc0 := (hF4.cell (a := ⟨w1.heap.size, 0, none⟩) b3.lt (show ¬ w1.heap.size = q by omega)).trans (unhide I3)
          have I4 : Hid ((w4.setCell ⟨w1.heap.size, 1, none⟩ (.int .i64 a)).cell? ⟨w1.heap.size, 0, none⟩ = some (.int .i64 (n : Int)) ∧ (w4.setCell ⟨w1.heap.size, 1, none⟩ (.int .i64 a)).cell? ⟨w1.heap.size, 1, none⟩ = some (.int .i64 a)) := ⟨(World.cell?_setCell_other _ _ _ _ (by simp)).trans zc0, World.cell?_setCell_same _ _ _ zc1⟩
          have N4 : Hid ((w4.setCell ⟨w1.heap.size, 1, none⟩ (.int .i64 a)).cell? ⟨w.heap.size + 1, 0, none⟩ = some (.int .i64 0) ∧ (w4.setCell ⟨w1.heap.size, 1, none⟩ (.int .i64 a)).cell? ⟨w.heap.size + 1, 1, none⟩ = some (.int .i64 0)) := by
            obtain ⟨a1, a2⟩ := unhide N3
            have a1' := (hF4.cell (a := ⟨w.heap.size + 1, 0, none⟩) (World.block_lt_of_cell? _ _ a1) (show ¬ w.heap.size + 1 = q by omega)).trans a1
            have a2' := (hF4.cell (a := ⟨w.heap.size + 1, 1, none⟩) (World.block_lt_of_cell? _ _ a2) (show ¬ w.heap.size + 1 = q by omega)).trans a2
            have hne : ¬ w.heap.size + 1 = w1.heap.size := by have := unhide hN1; omega
            exact ⟨(fset.cell (a := ⟨w.heap.size + 1, 0, none⟩) (World.block_lt_of_cell? _ _ a1') hne).trans a1', (fset.cell (a := ⟨w.heap.size + 1, 1, none⟩) (World.block_lt_of_cell? _ _ a2') hne).trans a2'⟩
          have Q4 : Hid (Bk (w4.setCell ⟨w1.heap.size, 1, none⟩ (.int .i64 a)) w.heap.size) := ((unhide Q3).fr hF4 (show ¬ w.heap.size = q by omega)).fr fset (by have := unhide hN1; omega)
          have D4 : Hid (RefR (w4.setCell ⟨w1.heap.size, 1, none⟩ (.int .i64 a)) q qb v B pl4 0) := hD4.keep fset (by omega) (fun b off len cap e qq => by have q1 := hD4.ap b off len cap e; have q2 : b = w1.heap.size := qq; have := unhide HQB; have := unhide hN1; omega)
          have F4 : Hid (Fr (fun k => k = q) w (w4.setCell ⟨w1.heap.size, 1, none⟩ (.int .i64 a))) := ((unhide F3).trans hF4).setCell ⟨w1.heap.size, 1, none⟩ (.inl (by have := unhide hN1; show w.heap.size ≤ w1.heap.size; omega)) _
          clear hD4 hdr hF4 hr4 fset bi4 b3 zc0 HRd
          have m0 := (unhide N4).1
          have m1 := (unhide N4).2
          obtain ⟨x0, s0⟩ := (unhide Q4).c0
          obtain ⟨x1, s1⟩ := (unhide Q4).c1
          have g0 := (unhide Q4).f0
          have g1 := (unhide Q4).f1
          have e2 := (unhide D4).c2
          have hq4 := (unhide D4).ltq
          have HCk := hide (fun w => dCheck_any w n a hIa)
          have k0 := (unhide I4).1
          have k1 := (unhide I4).2
          go_wp2_with fail
          refine (unhide HCk _).mono ?_
          rintro e w5 ⟨rfl, hb5⟩
          have n50 := (hb5.cell (p := ⟨w.heap.size + 1, 0, none⟩) (World.block_lt_of_cell? _ _ m0)).trans m0
          have n51 := (hb5.cell (p := ⟨w.heap.size + 1, 1, none⟩) (World.block_lt_of_cell? _ _ m1)).trans m1
          have i50 := (hb5.cell (p := ⟨w1.heap.size, 0, none⟩) (World.block_lt_of_cell? _ _ k0)).trans k0
          have i51 := (hb5.cell (p := ⟨w1.heap.size, 1, none⟩) (World.block_lt_of_cell? _ _ k1)).trans k1
          have Q5 := hide ((unhide Q4).below hb5)
          obtain ⟨y0, t0⟩ := (unhide Q5).c0
          obtain ⟨y1, t1⟩ := (unhide Q5).c1
          have u0 := (unhide Q5).f0
          have u1 := (unhide Q5).f1
          have F5 := hide ((unhide F4).trans (Fr.of_below hb5))
          have D5 := hide ((unhide D4).keepF (Fr.of_below hb5))
          clear hb5 s0 s1 g0 g1 e2 m0 m1 k0 k1
          cases hok : okB n a
          · have her : erN n a = 7 := by simp [erN, hok]
            have hoo : o = .error 7 := by rw [unhide eo, hok]; rfl
            rw [her]
            clear her hok
            go_wp2_with fail
            refine bodyPost_ret (v := .tuple #[.agg #[.int .i64 0, .int .i64 0], .int .i64 7]) ?_ rfl ?_
            · rw [results_cell_tmp rfl]
              go_simp
            · rw [hoo]
              exact ⟨0, 0, rfl, by decide, ((unhide F5).setCell _ (.inl (Nat.le_refl _)) _).setCell _ (.inl (Nat.le_refl _)) _⟩
          · have her : erN n a = 0 := by simp [erN, hok]
            have hoo : o = .ok (((n : Int), a), t4) := by rw [unhide eo, hok]; rfl
            rw [her]
            clear her hok
            go_wp2_with fail
            refine bodyPost_ret (v := .tuple #[.agg #[.int .i64 (n : Int), .int .i64 a], .int .i64 0]) ?_ rfl ?_
            · rw [results_cell_tmp rfl]
              go_simp
            · rw [hoo]
              have hq5 := (unhide D5).ltq
              have ff : Fr (fun k => k = w.heap.size) w5 ((w5.setCell ⟨w.heap.size, 0, none⟩ (.int .i64 (n : Int))).setCell ⟨w.heap.size, 1, none⟩ (.int .i64 a)) := ((Fr.refl (fun k => k = w.heap.size) w5).setCell ⟨w.heap.size, 0, none⟩ (.inr rfl) _).setCell ⟨w.heap.size, 1, none⟩ (.inr rfl) _
              exact ⟨rfl, pl4, (unhide D5).keep ff (show ¬ q = w.heap.size by omega) (fun b off len cap e qq => by have q1 := (unhide D5).ap b off len cap e; have q2 : b = w.heap.size := qq; have := unhide HQB; omega), unhide hDr, ((unhide F5).setCell _ (.inl (Nat.le_refl _)) _).setCell _ (.inl (Nat.le_refl _)) _⟩
  · rw [kdI_no hop, isOp_no hop]
    have e1 : rd1 n t = .error 7 := by unfold rd1; rw [isOp_no hop]; rfl
    have m0 := (unhide N3).1
    have m1 := (unhide N3).2
    obtain ⟨x0, s0⟩ := (unhide Q3).c0
    obtain ⟨x1, s1⟩ := (unhide Q3).c1
    have g0 := (unhide Q3).f0
    have g1 := (unhide Q3).f1
    go_wp2_with fail
    refine bodyPost_ret (v := .tuple #[.agg #[.int .i64 0, .int .i64 0], .int .i64 7]) ?_ rfl ?_
    · rw [results_cell_tmp rfl]
      go_simp
    · rw [unhide ho, e1]
      exact ⟨0, 0, rfl, by decide, ((unhide F3).setCell _ (.inl (Nat.le_refl _)) _).setCell _ (.inl (Nat.le_refl _)) _⟩

set_option linter.unusedVariables false

set_option maxHeartbeats 400000 in
set_option maxRecDepth 100000 in
theorem refRead_or (v : Value) (B : List Int) (w : World) (hR : Rd w v B) (hN : B.length ≤ 140737488355328) :
    Calls Try.prog 62 #[v] w fun e w' => ∃ q qb v2, e = .returned (.pointer (some ⟨q, 0, none⟩)) ∧ w.heap.size ≤ q ∧ RefR w' q qb v2 B 0 0 ∧ Below w.heap.size w w' := by
  have hC := hide (copyBytes_any v B w hR hN)
  clear hR
  go_enter Try.func62, Try.ntmps62
  go_wp2_with fail
  refine (unhide hC).mono ?_
  rintro e w1 ⟨v2, rfl, hG⟩
  have HG := hide hG
  have hlt := hG.1.lt
  obtain ⟨a2, l2, c2, hv2⟩ := own_shape hG.1
  subst hv2
  clear hG
  go_wp2
  go_ret
  generalize hv2 : Value.slice a2 l2 c2 = v2 at *
  have hz : w.heap.size ≤ w1.heap.size := (unhide HG).2.size
  have hRd := Rd.of_own (unhide HG).1
  have hkeep : Rd (w1.alloc (.cells #[v2, .int .i64 0, .int .i64 0] 108)) v2 B := hRd.below ((Below.refl _ _).alloc (Nat.le_refl _) _)
  have hBel := (unhide HG).2.alloc hz (.cells #[v2, .int .i64 0, .int .i64 0] 108)
  rcases hb : v2.ownBlock with _ | g
  · refine ⟨w1.heap.size, w1.heap.size + 1, v2, rfl, hz, ⟨by simp, by simp, by simp, by simp, by simp, hkeep, fun b off len cap e => ?_, by omega, Nat.zero_le _⟩, hBel⟩
    rw [e] at hb; simp [Value.ownBlock] at hb
  · have := hlt g hb
    refine ⟨w1.heap.size, g, v2, rfl, hz, ⟨by simp, by simp, by simp, by simp, by simp, hkeep, fun b off len cap e => ?_, by omega, Nat.zero_le _⟩, hBel⟩
    rw [e] at hb; simpa [Value.ownBlock] using hb

/-- A reader of the document's and a list that grows. -/
structure DR (w : World) (r rb : Nat) (acc : List (Int × Int)) (v : Value) (B : List Int) (pl : Nat) (vr : Value) (wr : World) : Prop where
  rdr : RefR wr r rb vr B pl 0
  row : Ro wr 2 v acc.length (flat acc)
  bel : Below w.heap.size w wr
  own : ∀ k, v.ownBlock = some k → w.heap.size ≤ k ∧ k ≠ r ∧ k ≠ rb
  rlo : w.heap.size ≤ r
theorem drewFr (w : World) (n : Nat) : Fr (fun _ => False) w (w.drewN n) := ⟨rfl, rfl, rfl, Nat.le_refl _, fun _ _ _ => rfl⟩
theorem DR.drew {w : World} {r rb : Nat} {acc : List (Int × Int)} {v : Value} {B : List Int} {pl : Nat} {vr : Value} {wr : World} (h : DR w r rb acc v B pl vr wr) (n : Nat) : DR w r rb acc v B pl vr (wr.drewN n) :=
  ⟨h.rdr.keepF (drewFr wr n), Fr.row2 h.row (drewFr wr n) (fun _ _ e => e), Below.drewNB h.bel n, h.own, h.rlo⟩
theorem RefR.qb_lt {w : World} {q qb : Nat} {v : Value} {B : List Int} {pl : Nat} {e : Int} {b : Int} {t : List Int} (h : RefR w q qb v B pl e) (hd : B.drop pl = b :: t) : qb < w.heap.size := by
  rcases h.rd with ⟨_, e2⟩ | ⟨b0, off, cap, e, _, _, qq, _⟩
  · rw [e2] at hd; simp at hd
  · have := h.ap b0 off _ cap e
    omega

set_option maxRecDepth 100000 in
set_option maxHeartbeats 4000000 in
theorem dDecode_any (bv : Value) (B : List Int) (w : World) (hR : Rd w bv B) (hB : BOk B) (hN : B.length ≤ 140737488355328) :
    Calls Try.prog 43 #[bv] w fun e w' => DecPost w (dec B) e w' := by
  have HNR := hide (refRead_or bv B w hR hN)
  have HBB := hide hB
  have HNN := hide hN
  obtain ⟨o, ho⟩ : ∃ o, Hid (o = dec B) := ⟨_, rfl⟩
  rw [← unhide ho]
  obtain ⟨N, hNN⟩ : ∃ N, Hid (N = B.length) := ⟨_, rfl⟩
  clear hR hB hN
  go_enter Try.func43, Try.ntmps43
  go_wp2_with fail
  refine (unhide HNR).mono ?_
  rintro e w1 ⟨r, rb, v2, rfl, h1, h3, h4⟩
  have J0 : Hid (DR w r rb [] (.slice none 0 0) B 0 v2 w1) := ⟨h3, by simpa [flat] using Ro.nil _ _, h4, by simp [Value.ownBlock], h1⟩
  clear h1 h3 h4 HNR
  go_wp2_with fail
  go_loopg [5] N (fun g t5 wr => ∃ (acc : List (Int × Int)) (rest : List Int) (pl : Nat) (v : Value) (f : Nat), Hid (rest.length = g ∧ rest.length < f ∧ acc.length ≤ 2000 ∧ BOk rest ∧ B.drop pl = rest) ∧ t5 = v ∧ Hid (o = decG f acc rest) ∧ Hid (DR w r rb acc v B pl v2 wr))
  case atStart => exact ⟨[], B, 0, _, B.length + 1, ⟨(unhide hNN).symm, by omega, by simp, unhide HBB, rfl⟩, rfl, unhide ho, unhide J0⟩
  case round =>
    clear J0
    obtain ⟨acc, rest, pl, v, f, hM, rfl, hO, hJ⟩ := hrel
    have hLf := refLeft_any r v2 B pl 0 wr (unhide hJ).rdr (unhide HNN)
    rw [(unhide hM).2.2.2.2] at hLf
    have HLf := hide hLf
    clear hLf
    obtain ⟨va, vc, ve, vl, _⟩ := (unhide hJ).row.shape
    cases rest with
    | nil =>
      have HO : Hid (o = .ok acc) := by unfold Hid; rw [unhide hO, decG_nil]
      have HL0 : Hid (Calls Try.prog 63 #[.pointer (some ⟨r, 0, none⟩)] wr fun e w' => e = .returned (.int .i64 0) ∧ ∃ n, w' = wr.drewN n) := unhide HLf
      clear HLf hO ve vl
      go_wp2_with fail
      refine (unhide HL0).mono ?_
      rintro e w2 ⟨rfl, kl, rfl⟩
      go_wp2_with fail
      go_ret2
      rw [unhide HO]
      exact ⟨_, rfl, ((unhide hJ).drew kl).row, ((unhide hJ).drew kl).bel, fun k hk => ((unhide hJ).own k hk).1⟩
    | cons b t =>
      obtain ⟨L, hL⟩ : ∃ L : Nat, Hid (((b :: t).length : Int) = (L : Int) ∧ 0 < L) := ⟨t.length + 1, by unfold Hid; simp⟩
      rw [(unhide hL).1] at HLf
      have hL0 := (unhide hL).2
      obtain ⟨A, hA⟩ : ∃ A, Hid (acc.length = A) := ⟨_, rfl⟩
      rw [unhide hA] at ve vl
      subst ve
      have HNx := hide (fun kl => dNext_any r v2 B pl b t (wr.drewN kl) ((unhide hJ).drew kl).rdr (unhide hM).2.2.2.2 (unhide HBB) (unhide HNN))
      obtain ⟨f', rfl⟩ : ∃ f', f = f' + 1 := ⟨f - 1, by have := unhide hM; omega⟩
      have hOO : Hid (o = if acc.length = 2000 then .error 5 else match rd1 b t with
        | .error e => .error e
        | .ok (p, t') => decG f' (acc ++ [p]) t') := unhide hO
      by_cases hfull : A = 2000
      · have HO : Hid (o = .error 5) := by unfold Hid; rw [unhide hOO, if_pos (by rw [unhide hA]; exact hfull)]
        subst hfull
        clear hOO hO
        go_wp2_with fail
        refine (unhide HLf).mono ?_
        rintro e w2 ⟨rfl, kl, rfl⟩
        go_wp2_with fail
        go_ret2
        rw [unhide HO]
        exact ⟨_, rfl, Gw.nil ((unhide hJ).drew kl).bel⟩
      · have hf' : ((A : Int) == 2000) = false := by simp; omega
        have hO2 : Hid (o = match rd1 b t with
          | .error e => .error e
          | .ok (p, t') => decG f' (acc ++ [p]) t') := by unfold Hid; rw [unhide hOO, if_neg (by rw [unhide hA]; exact hfull)]
        clear hOO hO
        have hmv := unhide HNx
        cases hrd : rd1 b t with
        | error er =>
          rw [hrd] at hmv
          have HNx2 := hide hmv
          have HO : Hid (o = .error er) := by unfold Hid; rw [unhide hO2, hrd]
          clear hmv HNx hO2
          go_wp2_with fail
          refine (unhide HLf).mono ?_
          rintro e w2 ⟨rfl, kl, rfl⟩
          go_wp2_with fail
          refine (unhide HNx2 kl).mono ?_
          rintro e w3 ⟨x, y, rfl, her, hF3⟩
          have her' : (er != 0) = true := by simpa using her
          have F3 := hide hF3
          clear her hF3
          go_wp2_with fail
          go_ret2
          rw [unhide HO]
          refine ⟨_, rfl, Gw.nil ?_⟩
          have hb := ((unhide hJ).drew kl).bel
          exact (hb.trans ((unhide F3).below hb.size (fun k hk e => by have := (unhide hJ).rlo; omega))).alloc (by have := (unhide F3).size; have := hb.size; omega) _
        | ok q =>
          obtain ⟨⟨op, a⟩, t'⟩ := q
          rw [hrd] at hmv
          have HNx2 := hide hmv
          have HO : Hid (o = decG f' (acc ++ [(op, a)]) t') := by unfold Hid; rw [unhide hO2, hrd]
          have HT := hide (rd1_ok (fun x hx => (unhide hM).2.2.2.1 x (List.mem_cons_of_mem _ hx)) hrd)
          clear hmv HNx hO2
          go_wp2_with fail
          refine (unhide HLf).mono ?_
          rintro e w2 ⟨rfl, kl, rfl⟩
          go_wp2_with fail
          refine (unhide HNx2 kl).mono ?_
          rintro e w3 ⟨rfl, pl3, hD3, hdr3, hF3⟩
          have HDR := hide hdr3
          clear hdr3
          have hrow3 : Ro w3 2 (.slice va A vc) acc.length (flat acc) := Fr.row2 ((unhide hJ).drew kl).row hF3 (fun k hk e => ((unhide hJ).own k hk).2.1 e)
          have HRo := hide hrow3
          have D3 := hide hD3
          have F3 := hide hF3
          have HRo2 : Hid (Ro ((w3.alloc (.cells #[.int .i64 op, .int .i64 a] 24)).alloc (.cells #[.int .i64 op, .int .i64 a] 24)) 2 (.slice va A vc) acc.length (flat acc)) :=
            Fr.row2 (S := fun _ => False) hrow3 (((Fr.refl _ w3).alloc _).alloc _) (fun _ _ e => e)
          have HTN : Hid (∀ j u, [Value.int .i64 op, .int .i64 a][j]? = some u → ((w3.alloc (.cells #[.int .i64 op, .int .i64 a] 24)).alloc (.cells #[.int .i64 op, .int .i64 a] 24)).cell? ((⟨w3.heap.size + 1, 0, none⟩ : Addr).add j) = some u) := by
            have q := two_new' (w3.alloc (.cells #[.int .i64 op, .int .i64 a] 24)) (.int .i64 op) (.int .i64 a) 24
            rw [show (w3.alloc (.cells #[.int .i64 op, .int .i64 a] 24)).heap.size = w3.heap.size + 1 by simp] at q
            exact q
          have HLN : Hid (acc.length ≤ 8796093022207) := by have := unhide hM; unfold Hid; omega
          clear hrow3 hD3 hF3
          go_wp2_with (first | (at_builtin; refine wpList_appW rfl _ _ rfl _ acc rfl (unhide HRo2) ⟨w3.heap.size + 1, 0, none⟩ 1 op a rfl (unhide HTN) (unhide HLN) ?_))
          intro v5 w5 hr5 hg5 hat5
          have f5 : Fr (fun k => (Value.slice va A vc).ownBlock = some k) w3 w5 := (((Fr.refl (fun k => (Value.slice va A vc).ownBlock = some k) w3).alloc _).alloc _).grown hg5 (fun k e => .inr e)
          have hrl := (unhide D3).ltq
          have hrbl : rb < w3.heap.size := Nat.lt_of_lt_of_le ((unhide hJ).rdr.qb_lt (unhide hM).2.2.2.2) (unhide F3).size
          have hb := ((unhide hJ).drew kl).bel
          have hb3 := hb.trans ((unhide F3).below hb.size (fun k hk e => by have := (unhide hJ).rlo; omega))
          have J5 : Hid (DR w r rb (acc ++ [(op, a)]) v5 B pl3 v2 w5) := by
            refine ⟨(unhide D3).keep f5 (fun e => ((unhide hJ).own r e).2.1 rfl) (fun b0 off len cap e q => ?_), by simpa using hr5, hb3.trans (f5.below hb3.size (fun k hk e => by have := ((unhide hJ).own k e).1; omega)), fun k hk => ?_, (unhide hJ).rlo⟩
            · have q1 := (unhide D3).ap b0 off len cap e
              exact ((unhide hJ).own b0 q).2.2 q1
            · rcases hat5 with e | e
              · rw [e] at hk; exact (unhide hJ).own k hk
              · rw [e] at hk
                cases hk
                have := hb3.size
                simp
                omega
          clear hr5 hg5 hat5 f5 hrl hrbl hb hb3
          go_wp2_with fail
          go_roundg (t'.length)
          case measure =>
            have h1 := (unhide hM).1
            have h2 := (unhide HT).2.1
            simp at h1
            omega
          case rel =>
            refine ⟨acc ++ [(op, a)], t', pl3, v5, f', ?_, rfl, unhide HO, unhide J5⟩
            have h1 := (unhide hM).1
            have h2 := (unhide hM).2.1
            have h3 := (unhide hM).2.2.1
            have h4 := unhide HT
            have h5 := unhide hA
            simp at h1 h2
            refine ⟨rfl, by omega, ?_, h4.1, unhide HDR⟩
            rw [List.length_append, List.length_singleton]
            omega
end Go.Proofs.Ytonnkaphomonpaa
