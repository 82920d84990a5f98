/-
  A spot's form.
-/
import Derived.Test.YtclcebdcdbcpjaaGreatE2
namespace Go.Proofs.YtclcebdcdbcpjaaGreat
open Go.RowKit
set_option linter.unusedVariables false
set_option linter.unusedSimpArgs false
def flP (c a b k : Int) : Nat → Int
  | 0 => 0
  | 1 => if c = 0 then 0 else 1
  | 2 => (if c = 0 then 0 else 1) + (if a = 0 then 0 else 2)
  | 3 => (if c = 0 then 0 else 1) + (if a = 0 then 0 else 2) + (if b = 0 then 0 else 4)
  | _ => (if c = 0 then 0 else 1) + (if a = 0 then 0 else 2) + (if b = 0 then 0 else 4) + (if k = 0 then 0 else 8)
theorem flP_or0 {c a b k : Int} (h : ¬ c = 0) : bits .or .u8 (flP c a b k 0) 1 = flP c a b k 1 := by
  simp only [flP, if_neg h]
  rfl
theorem flP_or1 {c a b k : Int} (h : ¬ a = 0) : bits .or .u8 (flP c a b k 1) 2 = flP c a b k 2 := by
  simp only [flP, if_neg h]
  by_cases hc : c = 0 <;> simp only [*, ↓reduceIte] <;> rfl
theorem flP_or2 {c a b k : Int} (h : ¬ b = 0) : bits .or .u8 (flP c a b k 2) 4 = flP c a b k 3 := by
  simp only [flP, if_neg h]
  by_cases hc : c = 0 <;> by_cases ha : a = 0 <;> simp only [*, ↓reduceIte] <;> rfl
theorem flP_or3 {c a b k : Int} (h : ¬ k = 0) : bits .or .u8 (flP c a b k 3) 8 = flP c a b k 4 := by
  simp only [flP, if_neg h]
  by_cases hc : c = 0 <;> by_cases ha : a = 0 <;> by_cases hb : b = 0 <;> simp only [*, ↓reduceIte] <;> rfl
/-- What is written of a field. -/
def fdE (x : Int) (sg : Bool) : List Int := if x = 0 then [] else if sg then Wm.uform 9 (foldI x).toNat else Wm.uform 9 x.toNat
def prt (c a b k : Int) : Nat → List Int
  | 0 => [flP c a b k 4]
  | 1 => [flP c a b k 4] ++ fdE c false
  | 2 => [flP c a b k 4] ++ fdE c false ++ fdE a false
  | 3 => [flP c a b k 4] ++ fdE c false ++ fdE a false ++ fdE b false
  | _ => [flP c a b k 4] ++ fdE c false ++ fdE a false ++ fdE b false ++ fdE k true
/-- The form of a spot. -/
def encS (s : Sp) : List Int := prt s.c s.a s.b s.k 4
theorem uform_le (x : Nat) : (Wm.uform 9 x).length ≤ 10 := by rw [Wm.uform_length]; exact (Wm.ulen_bd 9 x).2
theorem fdE_len (x : Int) (sg : Bool) : (fdE x sg).length ≤ 10 := by
  unfold fdE
  split
  · simp
  · split <;> exact uform_le _
theorem prt_len (c a b k : Int) (i : Nat) : (prt c a b k i).length ≤ 41 := by
  have h1 := fdE_len c false
  have h2 := fdE_len a false
  have h3 := fdE_len b false
  have h4 := fdE_len k true
  unfold prt
  split <;> simp <;> omega
theorem encS_len (s : Sp) : (encS s).length ≤ 41 := prt_len _ _ _ _ _
/-- The writer at p holds these bytes, behind calls that turned it alone. -/
def WP (p : Nat) (w : World) (v : Value) (bs : List Int) (wr : World) : Prop := ∃ v', Wtr wr p v' bs ∧ WStep p w v wr v'
set_option maxRecDepth 100000 in
set_option maxHeartbeats 3200000 in
theorem writeSpot_any (p : Nat) (v : Value) (bs : List Int) (s : Sp) (w : World) (h : Wtr w p v bs) (hb : bs.length + 64 ≤ 140737488355328) (hok : okS s) (htk : tkB s = true) :
    Calls Tryz.prog 28 #[.pointer (some ⟨p, 0, none⟩), nmV s] w fun e w' => e = .returned (.tuple #[]) ∧ WP p w v (bs ++ encS s) w' := by
  obtain ⟨c, a, b, k⟩ := s
  have ht := tkB_ok htk
  unfold okS at hok
  unfold nmV encS
  simp only at ht hok ⊢
  obtain ⟨C, rfl⟩ : ∃ C : Nat, c = (C : Int) := ⟨c.toNat, by omega⟩
  obtain ⟨A, rfl⟩ : ∃ C : Nat, a = (C : Int) := ⟨a.toNat, by omega⟩
  obtain ⟨B, rfl⟩ : ∃ C : Nat, b = (C : Int) := ⟨b.toNat, by omega⟩
  have hC : C < 9223372036854775808 := by omega
  have hA : A < 65536 := by omega
  have hB0 : B < 65536 := by omega
  have hk0 : -1 ≤ k := by omega
  have hk1 : k ≤ 128 := by omega
  clear ht hok htk
  have hlt := h.lt
  have hbx := heap_alloc_new w (.cells #[.int .i64 (C : Int), .int .i64 (A : Int), .int .i64 (B : Int), .int .i64 k] 75)
  have HW0 : Hid (Wtr (w.alloc (.cells #[.int .i64 (C : Int), .int .i64 (A : Int), .int .i64 (B : Int), .int .i64 k] 75)) p v bs) := h.keep (S := fun _ => False) ((Fr.refl _ w).alloc _) (fun e => e) (fun _ _ e => e)
  have HBX := hide hbx
  have hrow := h.row_lt
  have HRL := hide hrow
  clear hbx h hrow
  have HB : Hid True := trivial
  go_enter Tryz.func28, Tryz.ntmps28
  go_wp2_with fail
  go_loopg [4, 10] 4 (fun gg t4 t10 wr => ∃ (i : Nat), Hid (i + gg = 4) ∧ t4 = .int .u8 (flP (C : Int) (A : Int) (B : Int) k i) ∧ t10 = .int .i64 (i : Int) ∧ Hid (IsW wr (w.alloc (.cells #[.int .i64 (C : Int), .int .i64 (A : Int), .int .i64 (B : Int), .int .i64 k] 75))))
  case atStart => exact ⟨0, by unfold Hid; omega, rfl, rfl, rfl⟩
  case round =>
    obtain ⟨i, hi, rfl, rfl, hB⟩ := hrel
    by_cases hlt4 : i < 4
    · have h4 : i = 0 ∨ i = 1 ∨ i = 2 ∨ i = 3 := by omega
      rcases h4 with rfl | rfl | rfl | rfl
      · have hix := ix0 (.int .i64 (C : Int)) (.int .i64 (A : Int)) (.int .i64 (B : Int)) (.int .i64 k)
        by_cases hz : (C : Int) = 0
        · have d1 : ((C : Int) != 0) = false := by simpa using hz
          have HN : Hid (flP (C : Int) (A : Int) (B : Int) k 1 = flP (C : Int) (A : Int) (B : Int) k 0) := by unfold Hid; simp [flP, hz]
          have HI1 : Hid (1 + (gk - 1) = 4) := by have := unhide hi; unfold Hid; omega
          clear hz
          go_wp2_with fail
          go_roundg (gk - 1)
          case measure => have := unhide hi; omega
          case rel => exact ⟨1, HI1, by rw [unhide HN], rfl, hB⟩
        · have d1 : ((C : Int) != 0) = true := by simpa using hz
          have HN : Hid (bits .or .u8 (flP (C : Int) (A : Int) (B : Int) k 0) 1 = flP (C : Int) (A : Int) (B : Int) k 1) := by unfold Hid; exact flP_or0 hz
          have HI1 : Hid (1 + (gk - 1) = 4) := by have := unhide hi; unfold Hid; omega
          clear hz
          go_wp2_with fail
          go_roundg (gk - 1)
          case measure => have := unhide hi; omega
          case rel => exact ⟨1, HI1, by first | rw [← unhide HN] | (rw [← unhide HN]; rfl) | skip, rfl, hB⟩
      · have hix := ix1 (.int .i64 (C : Int)) (.int .i64 (A : Int)) (.int .i64 (B : Int)) (.int .i64 k)
        by_cases hz : (A : Int) = 0
        · have d1 : ((A : Int) != 0) = false := by simpa using hz
          have HN : Hid (flP (C : Int) (A : Int) (B : Int) k 2 = flP (C : Int) (A : Int) (B : Int) k 1) := by unfold Hid; simp [flP, hz]
          have HI1 : Hid (2 + (gk - 1) = 4) := by have := unhide hi; unfold Hid; omega
          clear hz
          go_wp2_with fail
          go_roundg (gk - 1)
          case measure => have := unhide hi; omega
          case rel => exact ⟨2, HI1, by rw [unhide HN], rfl, hB⟩
        · have d1 : ((A : Int) != 0) = true := by simpa using hz
          have HN : Hid (bits .or .u8 (flP (C : Int) (A : Int) (B : Int) k 1) 2 = flP (C : Int) (A : Int) (B : Int) k 2) := by unfold Hid; exact flP_or1 hz
          have HI1 : Hid (2 + (gk - 1) = 4) := by have := unhide hi; unfold Hid; omega
          clear hz
          go_wp2_with fail
          go_roundg (gk - 1)
          case measure => have := unhide hi; omega
          case rel => exact ⟨2, HI1, by first | rw [← unhide HN] | (rw [← unhide HN]; rfl) | skip, rfl, hB⟩
      · have hix := ix2 (.int .i64 (C : Int)) (.int .i64 (A : Int)) (.int .i64 (B : Int)) (.int .i64 k)
        by_cases hz : (B : Int) = 0
        · have d1 : ((B : Int) != 0) = false := by simpa using hz
          have HN : Hid (flP (C : Int) (A : Int) (B : Int) k 3 = flP (C : Int) (A : Int) (B : Int) k 2) := by unfold Hid; simp [flP, hz]
          have HI1 : Hid (3 + (gk - 1) = 4) := by have := unhide hi; unfold Hid; omega
          clear hz
          go_wp2_with fail
          go_roundg (gk - 1)
          case measure => have := unhide hi; omega
          case rel => exact ⟨3, HI1, by rw [unhide HN], rfl, hB⟩
        · have d1 : ((B : Int) != 0) = true := by simpa using hz
          have HN : Hid (bits .or .u8 (flP (C : Int) (A : Int) (B : Int) k 2) 4 = flP (C : Int) (A : Int) (B : Int) k 3) := by unfold Hid; exact flP_or2 hz
          have HI1 : Hid (3 + (gk - 1) = 4) := by have := unhide hi; unfold Hid; omega
          clear hz
          go_wp2_with fail
          go_roundg (gk - 1)
          case measure => have := unhide hi; omega
          case rel => exact ⟨3, HI1, by first | rw [← unhide HN] | (rw [← unhide HN]; rfl) | skip, rfl, hB⟩
      · have hix := ix3 (.int .i64 (C : Int)) (.int .i64 (A : Int)) (.int .i64 (B : Int)) (.int .i64 k)
        by_cases hz : k = 0
        · have d1 : (k != 0) = false := by simpa using hz
          have HN : Hid (flP (C : Int) (A : Int) (B : Int) k 4 = flP (C : Int) (A : Int) (B : Int) k 3) := by unfold Hid; simp [flP, hz]
          have HI1 : Hid (4 + (gk - 1) = 4) := by have := unhide hi; unfold Hid; omega
          clear hz
          go_wp2_with fail
          go_roundg (gk - 1)
          case measure => have := unhide hi; omega
          case rel => exact ⟨4, HI1, by rw [unhide HN], rfl, hB⟩
        · have d1 : (k != 0) = true := by simpa using hz
          have HN : Hid (bits .or .u8 (flP (C : Int) (A : Int) (B : Int) k 3) 8 = flP (C : Int) (A : Int) (B : Int) k 4) := by unfold Hid; exact flP_or3 hz
          have HI1 : Hid (4 + (gk - 1) = 4) := by have := unhide hi; unfold Hid; omega
          clear hz
          go_wp2_with fail
          go_roundg (gk - 1)
          case measure => have := unhide hi; omega
          case rel => exact ⟨4, HI1, by first | rw [← unhide HN] | (rw [← unhide HN]; rfl) | skip, rfl, hB⟩
    · have hiL : i = 4 := by have := unhide hi; omega
      subst hiL
      have hw := unhide hB
      unfold IsW at hw
      subst hw
      have HC := hide (byte_any p v bs (flP (C : Int) (A : Int) (B : Int) k 4) _ (unhide HW0) (by omega))
      obtain ⟨fl, hfl⟩ : ∃ fl, Hid (flP (C : Int) (A : Int) (B : Int) k 4 = fl) := ⟨_, hide rfl⟩
      rw [unhide hfl] at HC ⊢
      clear hB hi hlt4
      go_wp2_with fail
      refine (unhide HC).mono ?_
      rintro e w1 ⟨rfl, v1, W1, T1⟩
      have HP0 : Hid (WP p w v (bs ++ prt (C : Int) (A : Int) (B : Int) k 0) w1) := by
        refine ⟨v1, by unfold prt; rw [unhide hfl]; exact W1, WStep.trans (w1 := w.alloc (.cells #[.int .i64 (C : Int), .int .i64 (A : Int), .int .i64 (B : Int), .int .i64 k] 75)) ⟨(Fr.refl _ w).alloc _, .inl rfl⟩ T1⟩
      have hbx1 : w1.heap[w.heap.size]? = some (.cells #[.int .i64 (C : Int), .int .i64 (A : Int), .int .i64 (B : Int), .int .i64 k] 75) := by
        refine (T1.fr.block _ (by simp) (fun e => ?_)).trans (unhide HBX)
        rcases e with e | e
        · omega
        · have := unhide HRL _ e; omega
      obtain ⟨cc, -, zz⟩ := blk_cells hbx1
      have q0 := cc 0
      have q1 := cc 1
      have q2 := cc 2
      have q3 := cc 3
      simp at q0 q1 q2 q3
      clear W1 T1 HC hbx1 cc HW0 HBX HRL
      go_wp2_with fail
      clear q0 q1 q2 q3 zz
      go_loopg [25] 4 (fun gg t25 wr => ∃ (i : Nat), Hid (i + gg = 4) ∧ t25 = .int .i64 (i : Int) ∧ Hid (WP p w v (bs ++ prt (C : Int) (A : Int) (B : Int) k i) wr))
      case atStart => exact ⟨0, by unfold Hid; omega, rfl, HP0⟩
      case round =>
        clear HP0
        obtain ⟨i, hi, rfl, hW⟩ := hrel
        by_cases hlt4 : i < 4
        · have h4 : i = 0 ∨ i = 1 ∨ i = 2 ∨ i = 3 := by omega
          rcases h4 with rfl | rfl | rfl | rfl
          · have hix := ix0 (.int .i64 (C : Int)) (.int .i64 (A : Int)) (.int .i64 (B : Int)) (.int .i64 k)
            by_cases hz : (C : Int) = 0
            · have d1 : ((C : Int) == 0) = true := by simpa using hz
              have HN : Hid (WP p w v (bs ++ prt (C : Int) (A : Int) (B : Int) k 1) wr) := by
                have := unhide hW
                unfold Hid
                rw [show prt (C : Int) (A : Int) (B : Int) k 1 = prt (C : Int) (A : Int) (B : Int) k 0 by simp [prt, fdE, hz]]
                exact this
              have HI1 : Hid (1 + (gk - 1) = 4) := by have := unhide hi; unfold Hid; omega
              clear hz hW
              go_wp2_with fail
              go_roundg (gk - 1)
              case measure => have := unhide hi; omega
              case rel => exact ⟨1, HI1, rfl, HN⟩
            · have d1 : ((C : Int) == 0) = false := by simpa using hz
              obtain ⟨v1, W1, T1⟩ := unhide hW
              have HC := hide (uint_any p v1 (bs ++ prt (C : Int) (A : Int) (B : Int) k 0) C wr W1 (by rw [List.length_append]; have := prt_len (C : Int) (A : Int) (B : Int) k 0; omega) (by omega))
              have ew : IntKind.u64.wrap (C : Int) = (C : Int) := by rw [IntKind.wrap_u64]; omega
              have HT1 := hide T1
              have HZ := hide hz
              have HI1 : Hid (1 + (gk - 1) = 4) := by have := unhide hi; unfold Hid; omega
              clear hW W1 T1 hz
              go_wp2_with fail
              refine (unhide HC).mono ?_
              rintro e w2 ⟨rfl, v2, W2, T2⟩
              have HN : Hid (WP p w v (bs ++ prt (C : Int) (A : Int) (B : Int) k 1) w2) := by
                refine ⟨v2, ?_, (unhide HT1).trans T2⟩
                rw [show prt (C : Int) (A : Int) (B : Int) k 1 = prt (C : Int) (A : Int) (B : Int) k 0 ++ Wm.uform 9 C by (have hz1 := unhide HZ; have hz2 : ¬ C = 0 := (by omega); simp [prt, fdE, hz2]), ← List.append_assoc]
                exact W2
              clear W2 T2 HC
              go_wp2_with fail
              go_roundg (gk - 1)
              case measure => have := unhide hi; omega
              case rel => exact ⟨1, HI1, rfl, HN⟩
          · have hix := ix1 (.int .i64 (C : Int)) (.int .i64 (A : Int)) (.int .i64 (B : Int)) (.int .i64 k)
            by_cases hz : (A : Int) = 0
            · have d1 : ((A : Int) == 0) = true := by simpa using hz
              have HN : Hid (WP p w v (bs ++ prt (C : Int) (A : Int) (B : Int) k 2) wr) := by
                have := unhide hW
                unfold Hid
                rw [show prt (C : Int) (A : Int) (B : Int) k 2 = prt (C : Int) (A : Int) (B : Int) k 1 by simp [prt, fdE, hz]]
                exact this
              have HI1 : Hid (2 + (gk - 1) = 4) := by have := unhide hi; unfold Hid; omega
              clear hz hW
              go_wp2_with fail
              go_roundg (gk - 1)
              case measure => have := unhide hi; omega
              case rel => exact ⟨2, HI1, rfl, HN⟩
            · have d1 : ((A : Int) == 0) = false := by simpa using hz
              obtain ⟨v1, W1, T1⟩ := unhide hW
              have HC := hide (uint_any p v1 (bs ++ prt (C : Int) (A : Int) (B : Int) k 1) A wr W1 (by rw [List.length_append]; have := prt_len (C : Int) (A : Int) (B : Int) k 1; omega) (by omega))
              have ew : IntKind.u64.wrap (A : Int) = (A : Int) := by rw [IntKind.wrap_u64]; omega
              have HT1 := hide T1
              have HZ := hide hz
              have HI1 : Hid (2 + (gk - 1) = 4) := by have := unhide hi; unfold Hid; omega
              clear hW W1 T1 hz
              go_wp2_with fail
              refine (unhide HC).mono ?_
              rintro e w2 ⟨rfl, v2, W2, T2⟩
              have HN : Hid (WP p w v (bs ++ prt (C : Int) (A : Int) (B : Int) k 2) w2) := by
                refine ⟨v2, ?_, (unhide HT1).trans T2⟩
                rw [show prt (C : Int) (A : Int) (B : Int) k 2 = prt (C : Int) (A : Int) (B : Int) k 1 ++ Wm.uform 9 A by (have hz1 := unhide HZ; have hz2 : ¬ A = 0 := (by omega); simp [prt, fdE, hz2]), ← List.append_assoc]
                exact W2
              clear W2 T2 HC
              go_wp2_with fail
              go_roundg (gk - 1)
              case measure => have := unhide hi; omega
              case rel => exact ⟨2, HI1, rfl, HN⟩
          · have hix := ix2 (.int .i64 (C : Int)) (.int .i64 (A : Int)) (.int .i64 (B : Int)) (.int .i64 k)
            by_cases hz : (B : Int) = 0
            · have d1 : ((B : Int) == 0) = true := by simpa using hz
              have HN : Hid (WP p w v (bs ++ prt (C : Int) (A : Int) (B : Int) k 3) wr) := by
                have := unhide hW
                unfold Hid
                rw [show prt (C : Int) (A : Int) (B : Int) k 3 = prt (C : Int) (A : Int) (B : Int) k 2 by simp [prt, fdE, hz]]
                exact this
              have HI1 : Hid (3 + (gk - 1) = 4) := by have := unhide hi; unfold Hid; omega
              clear hz hW
              go_wp2_with fail
              go_roundg (gk - 1)
              case measure => have := unhide hi; omega
              case rel => exact ⟨3, HI1, rfl, HN⟩
            · have d1 : ((B : Int) == 0) = false := by simpa using hz
              obtain ⟨v1, W1, T1⟩ := unhide hW
              have HC := hide (uint_any p v1 (bs ++ prt (C : Int) (A : Int) (B : Int) k 2) B wr W1 (by rw [List.length_append]; have := prt_len (C : Int) (A : Int) (B : Int) k 2; omega) (by omega))
              have ew : IntKind.u64.wrap (B : Int) = (B : Int) := by rw [IntKind.wrap_u64]; omega
              have HT1 := hide T1
              have HZ := hide hz
              have HI1 : Hid (3 + (gk - 1) = 4) := by have := unhide hi; unfold Hid; omega
              clear hW W1 T1 hz
              go_wp2_with fail
              refine (unhide HC).mono ?_
              rintro e w2 ⟨rfl, v2, W2, T2⟩
              have HN : Hid (WP p w v (bs ++ prt (C : Int) (A : Int) (B : Int) k 3) w2) := by
                refine ⟨v2, ?_, (unhide HT1).trans T2⟩
                rw [show prt (C : Int) (A : Int) (B : Int) k 3 = prt (C : Int) (A : Int) (B : Int) k 2 ++ Wm.uform 9 B by (have hz1 := unhide HZ; have hz2 : ¬ B = 0 := (by omega); simp [prt, fdE, hz2]), ← List.append_assoc]
                exact W2
              clear W2 T2 HC
              go_wp2_with fail
              go_roundg (gk - 1)
              case measure => have := unhide hi; omega
              case rel => exact ⟨3, HI1, rfl, HN⟩
          · have hix := ix3 (.int .i64 (C : Int)) (.int .i64 (A : Int)) (.int .i64 (B : Int)) (.int .i64 k)
            by_cases hz : k = 0
            · have d1 : (k == 0) = true := by simpa using hz
              have HN : Hid (WP p w v (bs ++ prt (C : Int) (A : Int) (B : Int) k 4) wr) := by
                have := unhide hW
                unfold Hid
                rw [show prt (C : Int) (A : Int) (B : Int) k 4 = prt (C : Int) (A : Int) (B : Int) k 3 by simp [prt, fdE, hz]]
                exact this
              have HI1 : Hid (4 + (gk - 1) = 4) := by have := unhide hi; unfold Hid; omega
              clear hz hW
              go_wp2_with fail
              go_roundg (gk - 1)
              case measure => have := unhide hi; omega
              case rel => exact ⟨4, HI1, rfl, HN⟩
            · have d1 : (k == 0) = false := by simpa using hz
              obtain ⟨v1, W1, T1⟩ := unhide hW
              have HC := hide (int_any p v1 (bs ++ prt (C : Int) (A : Int) (B : Int) k 3) k wr W1 (by rw [List.length_append]; have := prt_len (C : Int) (A : Int) (B : Int) k 3; omega) (by omega) (by omega))
              have HT1 := hide T1
              have HZ := hide hz
              have HI1 : Hid (4 + (gk - 1) = 4) := by have := unhide hi; unfold Hid; omega
              clear hW W1 T1 hz
              go_wp2_with fail
              refine (unhide HC).mono ?_
              rintro e w2 ⟨rfl, v2, W2, T2⟩
              have HN : Hid (WP p w v (bs ++ prt (C : Int) (A : Int) (B : Int) k 4) w2) := by
                refine ⟨v2, ?_, (unhide HT1).trans T2⟩
                rw [show prt (C : Int) (A : Int) (B : Int) k 4 = prt (C : Int) (A : Int) (B : Int) k 3 ++ Wm.uform 9 (foldI k).toNat by have this := unhide HZ; simp [prt, fdE, this], ← List.append_assoc]
                exact W2
              clear W2 T2 HC
              go_wp2_with fail
              go_roundg (gk - 1)
              case measure => have := unhide hi; omega
              case rel => exact ⟨4, HI1, rfl, HN⟩
        · have hiL : i = 4 := by have := unhide hi; omega
          subst hiL
          go_wp2_with fail
          go_end0
          exact ⟨rfl, unhide hW⟩
end Go.Proofs.YtclcebdcdbcpjaaGreat
