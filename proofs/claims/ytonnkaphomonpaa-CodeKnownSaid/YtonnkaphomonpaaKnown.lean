/-
  The chapter's examples.
-/
import Derived.Test.YtonnkaphomonpaaIRow
import Derived.Deep.RegionHeld3
import Derived.Test.YtonnkaphomonpaaEdge2
import Derived.Lib.SlBytesConst
namespace Go.Proofs.Ytonnkaphomonpaa
open Go.RowKit
set_option linter.unusedVariables false

/-- Is the instruction at a place a safepoint? -/
def sfB (l : List (Int × Int)) (pc : Int) : Bool :=
  if 0 ≤ pc ∧ pc < l.length then (match l[pc.toNat]? with
    | some p => decide (p.1 = 43) || (jmB p.1 && decide (p.2 ≤ pc))
    | none => false) else false

set_option maxRecDepth 100000 in
set_option maxHeartbeats 2000000 in
theorem safe_any {w : World} {lv : Value} {l : List (Int × Int)} (h : RtV w lv l) (pc : Int) :
    Calls Try.prog 5 #[lv, .int .i64 pc] w fun e w' => e = .returned (.bool (sfB l pc)) ∧ Below w.heap.size w w' := by
  have HJ := hide jumps_any
  obtain ⟨a, cap, rfl, hlc, hcm, hcell⟩ := h
  have HC := hide hcell
  obtain ⟨L, hL⟩ : ∃ L, Hid (l.length = L) := ⟨_, rfl⟩
  rw [unhide hL] at hlc ⊢
  clear hcell
  by_cases hin : 0 ≤ pc ∧ pc < L
  · obtain ⟨i, rfl⟩ : ∃ i : Nat, pc = i := ⟨pc.toNat, by omega⟩
    have hil : i < l.length := by rw [unhide hL]; omega
    obtain ⟨p, hp⟩ : ∃ p, l[i]? = some p := ⟨_, List.getElem?_eq_getElem hil⟩
    obtain ⟨b, off, rfl, hb, c0, c1⟩ := unhide HC i p hp
    have hsf : Hid (sfB l i = (decide (p.1 = 43) || (jmB p.1 && decide (p.2 ≤ (i : Int))))) := by
      unfold Hid sfB
      rw [if_pos (by rw [unhide hL]; exact hin), Int.toNat_natCast, hp]
    rw [unhide hsf]
    obtain ⟨x, y⟩ := p
    simp only at c0 c1 ⊢
    have i0 : (0 : Int) ≤ (i : Int) := by omega
    have i1 : (i : Int) < (L : Int) := by omega
    have hJ2 := hide (fun w => unhide HJ w x)
    clear hp hsf hin hil HC hL HJ
    generalize jmB x = jb at *
    by_cases hx : x = 43
    · subst hx
      go_enter Try.func5, Try.ntmps5
      go_wp2_with fail
      go_ret
      exact ⟨rfl, (Below.refl _ _).alloc (Nat.le_refl _) _⟩
    · have hx' : (x == 43) = false := by simpa using hx
      have hd : decide (x = 43) = false := by simpa using hx
      rw [hd]
      clear hd hx
      by_cases hy : y ≤ (i : Int) <;> cases jb
      all_goals
        go_enter Try.func5, Try.ntmps5
        go_wp2_with fail
        refine (unhide hJ2 _).mono ?_
        rintro e w1 ⟨rfl, hb1⟩
        have B1 := hide hb1
        obtain ⟨d0, d1⟩ := par_cells hb1
        clear hb1
        go_wp2_with fail
        go_ret
        exact ⟨by simp_all, Bl.par (unhide B1)⟩
  · have e : sfB l pc = false := by unfold sfB; rw [if_neg (by rw [unhide hL]; exact hin)]
    rw [e]
    clear e
    have hor : pc < 0 ∨ (0 ≤ pc ∧ (L : Int) ≤ pc) := by omega
    clear hin
    rcases hor with h0 | ⟨h0, h1⟩
    all_goals
      go_enter Try.func5, Try.ntmps5
      go_wp2_with fail
      go_ret
      exact ⟨rfl, Below.refl _ _⟩



set_option linter.unusedVariables false

def kl : List (Int × Int) := [(40, 0), (41, 2), (43, 99)]
theorem kl_row (w : World) : Ro (w.alloc (.cells #[.int .i64 40, .int .i64 0, .int .i64 41, .int .i64 2, .int .i64 43, .int .i64 99] 24)) 2 (.slice (some ⟨w.heap.size, 0, none⟩) 3 3) kl.length (flat kl) :=
  Ro.of_own (World.ownsRow_lit (base := 0) (size := 2) w #[.int .i64 40, .int .i64 0, .int .i64 41, .int .i64 2, .int .i64 43, .int .i64 99] 3 (Nat.zero_le _) (by decide) rfl)
/-- Bytes of a constant. -/
theorem rdc (w : World) (bs : List Int) (h : bs.length ≤ 100) : Rd (w.alloc (.cells (bs.map By).toArray 5 (bs.length, bs.length + 1))) (.slice (some ⟨w.heap.size, 0, none⟩) bs.length bs.length) bs := by
  refine .inr ⟨w.heap.size, 0, bs.length, rfl, Nat.le_refl _, by unfold maxLen; omega, by simp, fun i hi => ?_⟩
  have hg := heap_alloc_new w (.cells (bs.map By).toArray 5 (bs.length, bs.length + 1))
  simp only [World.cell?, hg]
  rw [Nat.zero_add, List.getElem?_toArray, List.getElem?_map, List.getElem?_eq_getElem hi, List.getD_eq_getElem?_getD, List.getElem?_eq_getElem hi]
  rfl

set_option maxRecDepth 100000 in
set_option maxHeartbeats 8000000 in
theorem knownLaw (w : World) : Calls Try.prog 3 #[] w fun e w' => e = .returned (.bool true) ∧ Below w.heap.size w w' := by
  have HEd := hide edged_any
  have HW := hide works_any
  have kc := fun (w : World) (C : Array Value) (n c : Nat) => Lib.run_convert_bytes_const (P := Try.prog) w 32 5 C n c Try.underlying32 Try.underlying5
  have HF1 := hide (fun w => effect_any w 43 2)
  have HF2 := hide (fun w => effect_any w 43 64)
  rw [show tkI 43 2 = 3 by decide +kernel, show ptI 43 2 = 1 by decide +kernel, show okB 43 2 = true by decide +kernel] at HF1
  rw [show okB 43 64 = false by decide +kernel] at HF2
  go_enter Try.func3, Try.ntmps3
  go_wp2_with fail
  refine (unhide HEd _).mono ?_
  rintro e w1 ⟨rfl, hb1⟩
  have B1 := hide hb1
  clear hb1 HEd
  obtain ⟨wa, hwa⟩ : ∃ wa, Hid (wa = w1.alloc (.cells #[.int .i64 40, .int .i64 0, .int .i64 41, .int .i64 2, .int .i64 43, .int .i64 99] 24)) := ⟨_, rfl⟩
  have BA : Hid (Below w1.heap.size w1 wa) := by rw [unhide hwa]; exact (Below.refl _ _).alloc (Nat.le_refl _) _
  have HRT : Hid (RtV wa (.slice (some ⟨w1.heap.size, 0, none⟩) 3 3) kl) := by rw [unhide hwa]; exact RtV.of_ro (kl_row w1)
  have KS0 := hide (fun W (q : Below wa.heap.size wa W) => safe_any ((unhide HRT).below q) 0)
  rw [show sfB kl 0 = true by decide +kernel] at KS0
  have KS1 := hide (fun W (q : Below wa.heap.size wa W) => safe_any ((unhide HRT).below q) 1)
  rw [show sfB kl 1 = false by decide +kernel] at KS1
  have KS2 := hide (fun W (q : Below wa.heap.size wa W) => safe_any ((unhide HRT).below q) 2)
  rw [show sfB kl 2 = true by decide +kernel] at KS2
  have KS3 := hide (fun W (q : Below wa.heap.size wa W) => safe_any ((unhide HRT).below q) 3)
  rw [show sfB kl 3 = false by decide +kernel] at KS3
  have KS4 := hide (fun W (q : Below wa.heap.size wa W) => safe_any ((unhide HRT).below q) (-1))
  rw [show sfB kl (-1) = false by decide +kernel] at KS4
  go_wp2_with fail
  rw [← unhide hwa]
  refine (unhide KS0 _ (Below.refl _ _)).mono ?_
  rintro e ws0 ⟨rfl, hb⟩
  have C0 := hide (hb)
  clear hb
  go_wp2_with fail
  refine (unhide KS1 _ (unhide C0)).mono ?_
  rintro e ws1 ⟨rfl, hb⟩
  have C1 := hide (Bl.go (unhide C0) (unhide C0).size hb)
  clear hb
  go_wp2_with fail
  refine (unhide KS2 _ (unhide C1)).mono ?_
  rintro e ws2 ⟨rfl, hb⟩
  have C2 := hide (Bl.go (unhide C1) (unhide C1).size hb)
  clear hb
  go_wp2_with fail
  refine (unhide KS3 _ (unhide C2)).mono ?_
  rintro e ws3 ⟨rfl, hb⟩
  have C3 := hide (Bl.go (unhide C2) (unhide C2).size hb)
  clear hb
  go_wp2_with fail
  refine (unhide KS4 _ (unhide C3)).mono ?_
  rintro e ws4 ⟨rfl, hb⟩
  have C4 := hide (Bl.go (unhide C3) (unhide C3).size hb)
  clear hb
  have BS := hide (Bl.go (Bl.go (unhide B1) (unhide B1).size (unhide BA)) (Nat.le_trans (unhide B1).size (unhide BA).size) (unhide C4))
  go_wp2_with fail
  refine (unhide HF1 _).mono ?_
  rintro e we1 ⟨rfl, hb⟩
  have BE1 := hide (Bl.go (unhide BS) (unhide BS).size hb)
  clear hb
  go_wp2_with fail
  refine (unhide HF2 _).mono ?_
  rintro e we2 ⟨rfl, hb⟩
  have BE2 := hide (Bl.go (unhide BE1) (unhide BE1).size hb)
  clear hb KS0 KS1 KS2 KS3 KS4
  have KD0 := hide (decode_any (.slice (some ⟨we2.heap.size, 0, none⟩) 1 1) [4] (we2.alloc (.cells #[.int .u8 4] 5 (1, 1 + 1))) (rdc we2 [4] (by simp)) (by intro b hb; simp at hb; omega) (by simp))
  unfold DecPost at KD0
  rw [show errOf (dec [4]) = 2 by decide +kernel] at KD0
  have A0 := hide ((Below.refl _ we2).alloc (Nat.le_refl _) (.cells #[.int .u8 4] 5 (1, 1 + 1)))
  go_wp2_with fail
  refine (unhide KD0).mono ?_
  rintro e wd0 ⟨y0, rfl, hG⟩
  have BD0 := hide (Bl.go (unhide BE2) (unhide BE2).size (Bl.go (unhide A0) (by simp) hG.2.1))
  clear hG
  have KD1 := hide (decode_any (.slice (some ⟨wd0.heap.size, 0, none⟩) 3 3) [40, 128, 0] (wd0.alloc (.cells #[.int .u8 40, .int .u8 128, .int .u8 0] 5 (3, 3 + 1))) (rdc wd0 [40, 128, 0] (by simp)) (by intro b hb; simp at hb; omega) (by simp))
  unfold DecPost at KD1
  rw [show errOf (dec [40, 128, 0]) = 4 by decide +kernel] at KD1
  have A1 := hide ((Below.refl _ wd0).alloc (Nat.le_refl _) (.cells #[.int .u8 40, .int .u8 128, .int .u8 0] 5 (3, 3 + 1)))
  go_wp2_with fail
  refine (unhide KD1).mono ?_
  rintro e wd1 ⟨y1, rfl, hG⟩
  have BD1 := hide (Bl.go (unhide BD0) (unhide BD0).size (Bl.go (unhide A1) (by simp) hG.2.1))
  clear hG
  have KD2 := hide (decode_any (.slice (some ⟨wd1.heap.size, 0, none⟩) 1 1) [67] (wd1.alloc (.cells #[.int .u8 67] 5 (1, 1 + 1))) (rdc wd1 [67] (by simp)) (by intro b hb; simp at hb; omega) (by simp))
  unfold DecPost at KD2
  rw [show errOf (dec [67]) = 7 by decide +kernel] at KD2
  have A2 := hide ((Below.refl _ wd1).alloc (Nat.le_refl _) (.cells #[.int .u8 67] 5 (1, 1 + 1)))
  go_wp2_with fail
  refine (unhide KD2).mono ?_
  rintro e wd2 ⟨y2, rfl, hG⟩
  have BD2 := hide (Bl.go (unhide BD1) (unhide BD1).size (Bl.go (unhide A2) (by simp) hG.2.1))
  clear hG
  have KD3 := hide (decode_any (.slice (some ⟨wd2.heap.size, 0, none⟩) 2 2) [24, 24] (wd2.alloc (.cells #[.int .u8 24, .int .u8 24] 5 (2, 2 + 1))) (rdc wd2 [24, 24] (by simp)) (by intro b hb; simp at hb; omega) (by simp))
  unfold DecPost at KD3
  rw [show errOf (dec [24, 24]) = 7 by decide +kernel] at KD3
  have A3 := hide ((Below.refl _ wd2).alloc (Nat.le_refl _) (.cells #[.int .u8 24, .int .u8 24] 5 (2, 2 + 1)))
  go_wp2_with fail
  refine (unhide KD3).mono ?_
  rintro e wd3 ⟨y3, rfl, hG⟩
  have BD3 := hide (Bl.go (unhide BD2) (unhide BD2).size (Bl.go (unhide A3) (by simp) hG.2.1))
  clear hG
  go_wp2_with fail
  refine (unhide HW _).mono ?_
  rintro e wz ⟨rfl, hb⟩
  have BZ := hide (Bl.go (unhide BD3) (unhide BD3).size hb)
  clear hb
  go_wp2_with fail
  go_ret
  exact ⟨rfl, unhide BZ⟩
end Go.Proofs.Ytonnkaphomonpaa
