/-
  What an instruction takes and puts.
-/
import Derived.Test.YtncmegafkccblaaOps2
import Derived.BigQuiet
import Derived.Deep.Draws
namespace Go.Proofs.Ytncmegafkccblaa
open Go.RowKit

theorem Below.drewN {B : Nat} {a w : World} (h : Below B a w) (n : Nat) : Below B a (w.drewN n) := ⟨h.os, h.tape, h.output, h.size, h.block⟩

/-- The document's text of shapes. -/
def SH : ByteArray := ⟨(([48, 48, 32, 48, 49, 32, 48, 49, 32, 48, 49, 32, 48, 49, 32, 48, 49, 32, 48, 49, 32, 49, 48, 32, 49, 50, 32, 50, 50, 32, 48, 49, 32, 49, 48, 32, 50, 49, 32, 50, 49, 32, 50, 49, 32, 50, 49, 32, 50, 49].append [32, 49, 49, 32, 50, 49, 32, 50, 49, 32, 50, 49, 32, 49, 49, 32, 50, 49, 32, 50, 49, 32, 49, 49, 32, 50, 49, 32, 50, 49, 32, 50, 49, 32, 50, 49, 32, 49, 49, 32, 49, 49, 32, 49, 49, 32, 49, 49, 32, 49]).append ([49, 32, 49, 49, 32, 49, 49, 32, 49, 49, 32, 49, 49, 32, 50, 49, 32, 51, 49, 32, 48, 48, 32, 49, 48, 32, 49, 48, 32, 109, 49, 32, 49, 48, 32, 49, 48, 32, 109, 49, 32, 110, 49, 32, 48, 49, 32, 50, 49, 32].append [51, 48, 32, 50, 48, 32, 49, 49, 32, 49, 49, 32, 50, 48, 32, 49, 49, 32, 49, 48, 32, 49, 49, 32, 49, 48, 32, 48, 49, 32, 109, 48, 32, 48, 48, 32, 48, 49, 32, 50, 48, 32, 49, 49, 32, 49, 48, 32, 50, 49, 32])).toArray⟩
def bS (i : Nat) : Nat := (SH.data.toList.getD i 0).toNat
theorem SH_size : SH.size = 201 := by decide +kernel
theorem SH_at (i : Nat) (h : i < 201) : SH[i]? = some (UInt8.ofNat (bS i)) := by
  have : ∀ i : Fin 201, SH[i.val]? = some (UInt8.ofNat (bS i.val)) := by decide +kernel
  exact this ⟨i, h⟩
theorem bS_lt (i : Nat) : bS i < 256 := by unfold bS; exact UInt8.toNat_lt _
theorem SH_put (k : Nat) (h : k < 67) : bS (3 * k + 1) = 48 + pt k ∧ pt k ≤ 2 := by
  have : ∀ k : Fin 67, bS (3 * k.val + 1) = 48 + pt k.val ∧ pt k.val ≤ 2 := by decide +kernel
  exact this ⟨k, h⟩
theorem SH_take (k : Nat) (h : k < 67) : tk k ≤ 3 ∧ (kd k ≠ 6 → bS (3 * k) = 48 + tk k) ∧ (kd k = 6 → bS (3 * k) = 110 ∧ tk k = 0 ∨ bS (3 * k) = 109 ∧ tk k = 1) := by
  have : ∀ k : Fin 67, tk k.val ≤ 3 ∧ (kd k.val ≠ 6 → bS (3 * k.val) = 48 + tk k.val) ∧ (kd k.val = 6 → bS (3 * k.val) = 110 ∧ tk k.val = 0 ∨ bS (3 * k.val) = 109 ∧ tk k.val = 1) := by decide +kernel
  exact this ⟨k, h⟩

/-- What is taken, what is put. -/
def tkI (op a : Int) : Int := if okB op a then (tk op.toNat : Int) + (if kd op.toNat = 6 then a else 0) else 0
def ptI (op a : Int) : Int := if okB op a then (pt op.toNat : Int) else 0
theorem okB_op {k : Nat} (h : k < 67) (a : Int) : okB k a = rightB (kd k) a := by simp [okB, isOp_nat h]
theorem right6 {a : Int} (h : rightB 6 a = true) : 0 ≤ a ∧ a < 64 := by
  have e1 : lo 6 = 0 := rfl
  have e2 : hi 6 = 63 := rfl
  simp only [rightB, e1, e2] at h
  simp at h
  omega

set_option maxRecDepth 100000 in
set_option maxHeartbeats 2000000 in
theorem number_n (w : World) (a : Int) : Calls Try.prog 15 #[.int .u8 110, .int .i64 a] w fun e w' => e = .returned (.int .i64 a) ∧ w' = w := by
  go_enter Try.func15, Try.ntmps15
  go_wp2
  go_ret
  exact ⟨rfl, rfl⟩
set_option maxRecDepth 100000 in
set_option maxHeartbeats 2000000 in
theorem number_m (w : World) (a : Int) (h0 : 0 ≤ a) (h1 : a < 64) : Calls Try.prog 15 #[.int .u8 109, .int .i64 a] w fun e w' => e = .returned (.int .i64 (a + 1)) ∧ w' = w := by
  have e : IntKind.i64.wrap (a + 1) = a + 1 := by rw [IntKind.wrap_i64]; omega
  go_enter Try.func15, Try.ntmps15
  go_wp2
  go_ret
  exact ⟨rfl, rfl⟩
set_option maxRecDepth 100000 in
set_option maxHeartbeats 2000000 in
theorem number_d (w : World) (a : Int) (d : Nat) (h : d ≤ 3) : Calls Try.prog 15 #[.int .u8 ((48 + d : Nat) : Int), .int .i64 a] w fun e w' => e = .returned (.int .i64 d) ∧ w' = w := by
  have : d = 0 ∨ d = 1 ∨ d = 2 ∨ d = 3 := by omega
  rcases this with rfl | rfl | rfl | rfl
  all_goals
    go_enter Try.func15, Try.ntmps15
    go_wp2
    go_ret
    exact ⟨rfl, rfl⟩

def Good (c a : Int) : Prop := c = 110 ∨ (c = 109 ∧ 0 ≤ a ∧ a < 64) ∨ (48 ≤ c ∧ c ≤ 51)
def numb (c a : Int) : Int := if c = 110 then a else if c = 109 then a + 1 else c - 48
theorem nbr_any (w : World) (c a : Int) (h : Good c a) : Calls Try.prog 15 #[.int .u8 c, .int .i64 a] w fun e w' => e = .returned (.int .i64 (numb c a)) ∧ w' = w := by
  unfold numb
  rcases h with rfl | ⟨rfl, h0, h1⟩ | ⟨h0, h1⟩
  · exact number_n w a
  · exact number_m w a h0 h1
  · obtain ⟨d, rfl⟩ : ∃ d : Nat, c = ((48 + d : Nat) : Int) := ⟨(c - 48).toNat, by omega⟩
    have := number_d w a d (by omega)
    rw [if_neg (by omega), if_neg (by omega)]
    have e : (((48 + d : Nat) : Int) - 48) = (d : Int) := by omega
    rw [e]
    exact this

set_option maxRecDepth 100000 in
set_option maxHeartbeats 2000000 in
theorem effect_any (w : World) (op a : Int) : Calls Try.prog 16 #[.agg #[.int .i64 op, .int .i64 a]] w fun e w' => e = .returned (.tuple #[.int .i64 (tkI op a), .int .i64 (ptI op a), .bool (okB op a)]) ∧ Below w.heap.size w w' := by
  have H1 := hide (fun w => check_any w op a)
  cases hok : okB op a
  · have e1 : erN op a = 7 := by simp [erN, hok]
    have e2 : tkI op a = 0 := by simp [tkI, hok]
    have e3 : ptI op a = 0 := by simp [ptI, hok]
    rw [e2, e3]
    rw [e1] at H1
    clear e1 e2 e3 hok
    go_enter Try.func16, Try.ntmps16
    go_wp2_with fail
    refine (unhide H1 _).mono ?_
    rintro e w1 ⟨rfl, hb⟩
    have HB := hide hb
    clear hb
    go_wp2
    go_ret3
    exact ⟨rfl, Bl.par (unhide HB)⟩
  · have hop : isOp op = true := by simp [okB] at hok; exact hok.1
    have h : 0 ≤ op ∧ op < 67 := by simpa [isOp] using hop
    obtain ⟨k, rfl⟩ : ∃ k : Nat, op = k := ⟨op.toNat, by omega⟩
    have hk : k < 67 := by omega
    have e1 : erN k a = 0 := by simp [erN, hok]
    have e3 : ptI k a = pt k := by simp [ptI, hok]
    rw [e3]
    rw [e1] at H1
    have H2 := hide (fun w => shapeOf_any w k hk)
    have ht := (SH_take k hk).1
    by_cases h6 : kd k = 6
    · have hr : rightB 6 a = true := by rw [okB_op hk, h6] at hok; exact hok
      have hr := right6 hr
      have e2 : tkI k a = tk k + a := by simp [tkI, hok, h6]
      rw [e2]
      rw [h6] at H2
      generalize tk k = t at *
      generalize ((pt k : Nat) : Int) = p at *
      have ew : IntKind.i64.wrap ((t : Int) + a) = (t : Int) + a := by rw [IntKind.wrap_i64]; omega
      clear e1 e2 e3 hok hop h h6 hk hr ht
      go_enter Try.func16, Try.ntmps16
      go_wp2_with fail
      refine (unhide H1 _).mono ?_
      rintro e w1 ⟨rfl, hb⟩
      have HB := hide hb
      obtain ⟨c0, c1⟩ := par_cells hb
      clear hb
      go_wp2_with fail
      refine (unhide H2 _).mono ?_
      rintro e w2 ⟨rfl, hb2⟩
      have HB2 := hide hb2
      have d1 := (hb2.cell (p := ⟨w.heap.size, 1, none⟩) (World.block_lt_of_cell? _ _ c1)).trans c1
      have lt := World.block_lt_of_cell? _ _ d1
      clear hb2 c0 c1
      go_wp2_with fail
      go_quiet (fail)
      go_wp2_with fail
      go_ret3
      refine ⟨rfl, Below.drewN ?_ _⟩
      exact (Bl.go (Bl.par (unhide HB)) (by have := (unhide HB).size; simp at this; omega) (unhide HB2)).alloc (by have := (unhide HB).size; have := (unhide HB2).size; simp at *; omega) _
    · have h6' : (((kd k : Nat) : Int) == 6) = false := by simp; omega
      have e2 : tkI k a = tk k := by simp [tkI, hok, h6]
      rw [e2]
      generalize tk k = t at *
      generalize ((pt k : Nat) : Int) = p at *
      generalize ((kd k : Nat) : Int) = d at *
      clear e1 e2 e3 hok hop h h6 hk ht
      go_enter Try.func16, Try.ntmps16
      go_wp2_with fail
      refine (unhide H1 _).mono ?_
      rintro e w1 ⟨rfl, hb⟩
      have HB := hide hb
      obtain ⟨c0, c1⟩ := par_cells hb
      clear hb
      go_wp2_with fail
      refine (unhide H2 _).mono ?_
      rintro e w2 ⟨rfl, hb2⟩
      have HB2 := hide hb2
      clear hb2 c0 c1
      go_wp2_with fail
      go_quiet (fail)
      go_wp2_with fail
      go_ret3
      refine ⟨rfl, Below.drewN ?_ _⟩
      exact (Bl.go (Bl.par (unhide HB)) (by have := (unhide HB).size; simp at this; omega) (unhide HB2)).alloc (by have := (unhide HB).size; have := (unhide HB2).size; simp at *; omega) _

set_option maxRecDepth 100000 in
set_option maxHeartbeats 2000000 in
theorem dEffect_any (w : World) (op a : Int) (ha : I64 a) : Calls Try.prog 8 #[.agg #[.int .i64 op, .int .i64 a]] w fun e w' => e = .returned (.tuple #[.int .i64 (tkI op a), .int .i64 (ptI op a), .bool (okB op a)]) ∧ Below w.heap.size w w' := by
  have H1 := hide (fun w => dCheck_any w op a ha)
  clear ha
  cases hok : okB op a
  · have e1 : erN op a = 7 := by simp [erN, hok]
    have e2 : tkI op a = 0 := by simp [tkI, hok]
    have e3 : ptI op a = 0 := by simp [ptI, hok]
    rw [e2, e3]
    rw [e1] at H1
    clear e1 e2 e3 hok
    go_enter Try.func8, Try.ntmps8
    go_wp2_with fail
    refine (unhide H1 _).mono ?_
    rintro e w1 ⟨rfl, hb⟩
    have HB := hide hb
    clear hb
    go_wp2
    go_ret3
    exact ⟨rfl, Bl.par (unhide HB)⟩
  · have hop : isOp op = true := by simp [okB] at hok; exact hok.1
    have h : 0 ≤ op ∧ op < 67 := by simpa [isOp] using hop
    obtain ⟨k, rfl⟩ : ∃ k : Nat, op = k := ⟨op.toNat, by omega⟩
    have hk : k < 67 := by omega
    have e1 : erN k a = 0 := by simp [erN, hok]
    have e3 : ptI k a = pt k := by simp [ptI, hok]
    rw [e3]
    rw [e1] at H1
    have hA := hide SH_at
    have hS := SH_size
    obtain ⟨p1, p2⟩ := SH_put k hk
    obtain ⟨t1, t2, t3⟩ := SH_take k hk
    obtain ⟨b0, hb0⟩ : ∃ b, Hid (b = bS (3 * k)) := ⟨_, rfl⟩
    have HC : Hid (Good b0 a ∧ Good ((48 + pt k : Nat) : Int) a ∧ numb b0 a = tkI k a ∧ numb ((48 + pt k : Nat) : Int) a = pt k) := by
      unfold Hid Good numb
      rw [unhide hb0]
      refine ⟨?_, by omega, ?_, by rw [if_neg (by omega), if_neg (by omega)]; omega⟩
      all_goals
        by_cases h6 : kd k = 6
        · have hr : rightB 6 a = true := by rw [okB_op hk, h6] at hok; exact hok
          have hr := right6 hr
          have e2 : tkI k a = tk k + a := by simp [tkI, hok, h6]
          rcases t3 h6 with ⟨q1, q2⟩ | ⟨q1, q2⟩ <;> first | omega | (rw [q1, e2, q2]; simp) | (rw [q1, e2, q2]; simp; omega)
        · have e2 : tkI k a = tk k := by simp [tkI, hok, h6]
          have q1 := t2 h6
          first | omega | (rw [e2, q1, if_neg (by omega), if_neg (by omega)]; omega)
    have HT : Hid (∀ (c : Int), Good c a → ∀ w, Calls Try.prog 15 #[.int .u8 c, .int .i64 a] w fun e w' => e = .returned (.int .i64 (numb c a)) ∧ w' = w) := fun c h w => nbr_any w c a h
    generalize tkI k a = t at *
    have hB0 : ∀ h, (SH[3 * k]'h).toNat = b0 := fun h => by
      have e := unhide hA (3 * k) (by omega)
      rw [getElem?_pos SH _ h] at e
      rw [Option.some.inj e, UInt8.toNat_ofNat', Nat.mod_eq_of_lt (bS_lt _)]
      exact (unhide hb0).symm
    have hB1 : ∀ h, (SH[3 * k + 1]'h).toNat = 48 + pt k := fun h => by
      have e := unhide hA (3 * k + 1) (by omega)
      rw [getElem?_pos SH _ h] at e
      rw [Option.some.inj e, UInt8.toNat_ofNat', Nat.mod_eq_of_lt (bS_lt _), p1]
    clear e1 e3 hok hop h t1 t2 t3 p1 p2 hA hb0
    generalize pt k = p at *
    have ew1 : IntKind.i64.wrap (3 * (k : Int)) = 3 * (k : Int) := by rw [IntKind.wrap_i64]; omega
    have ew2 : IntKind.i64.wrap (3 * (k : Int) + 1) = 3 * (k : Int) + 1 := by rw [IntKind.wrap_i64]; omega
    have et1 : (3 * (k : Int)).toNat = 3 * k := by omega
    have et2 : (3 * (k : Int) + 1).toNat = 3 * k + 1 := by omega
    have ez1 : (0 : Int) ≤ 3 * (k : Int) := by omega
    have ez2 : (0 : Int) ≤ 3 * (k : Int) + 1 := by omega
    have es1 : 3 * k < SH.size := by rw [hS]; omega
    have es2 : 3 * k + 1 < SH.size := by rw [hS]; omega
    clear hS
    go_enter Try.func8, Try.ntmps8
    generalize hM : ByteArray.mk ((([48, 48, 32, 48, 49, 32, 48, 49, 32, 48, 49, 32, 48, 49, 32, 48, 49, 32, 48, 49, 32, 49, 48, 32, 49, 50, 32, 50, 50, 32, 48, 49, 32, 49, 48, 32, 50, 49, 32, 50, 49, 32, 50, 49, 32, 50, 49, 32, 50, 49].append [32, 49, 49, 32, 50, 49, 32, 50, 49, 32, 50, 49, 32, 49, 49, 32, 50, 49, 32, 50, 49, 32, 49, 49, 32, 50, 49, 32, 50, 49, 32, 50, 49, 32, 50, 49, 32, 49, 49, 32, 49, 49, 32, 49, 49, 32, 49, 49, 32, 49]).append ([49, 32, 49, 49, 32, 49, 49, 32, 49, 49, 32, 49, 49, 32, 50, 49, 32, 51, 49, 32, 48, 48, 32, 49, 48, 32, 49, 48, 32, 109, 49, 32, 49, 48, 32, 49, 48, 32, 109, 49, 32, 110, 49, 32, 48, 49, 32, 50, 49, 32].append [51, 48, 32, 50, 48, 32, 49, 49, 32, 49, 49, 32, 50, 48, 32, 49, 49, 32, 49, 48, 32, 49, 49, 32, 49, 48, 32, 48, 49, 32, 109, 48, 32, 48, 48, 32, 48, 49, 32, 50, 48, 32, 49, 49, 32, 49, 48, 32, 50, 49, 32])).toArray) = M at *
    have hM' : SH = M := hM
    clear hM
    subst hM'
    go_wp2_with fail
    refine (unhide H1 _).mono ?_
    rintro e w1 ⟨rfl, hb⟩
    have HB := hide hb
    obtain ⟨c0, c1⟩ := par_cells hb
    clear hb
    go_wp2_with fail
    go_quiet (first | (go_at_call 15; exact Calls.quiet_of_same (unhide HT _ (by first | exact (unhide HC).1 | exact (unhide HC).2.1) _)))
    go_wp2_with fail
    go_ret3
    have q1 := (unhide HC).2.2.1
    have q2 := (unhide HC).2.2.2
    refine ⟨?_, Below.drewN (Bl.par (unhide HB)) _⟩
    show Ending.returned (.tuple #[.int .i64 (numb (b0 : Int) a), .int .i64 (numb ((48 + p : Nat) : Int) a), .bool true]) = _
    rw [q1, q2]
end Go.Proofs.Ytncmegafkccblaa
