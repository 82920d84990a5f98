/-
  A profile that was lent is as it was.
-/
import Derived.Test.YtjjfpokmpcpicaaPLn
namespace Go.Proofs.Ytjjfpokmpcpicaa
open Go.RowKit
set_option linter.unusedVariables false
set_option linter.unusedSimpArgs false
/-- One list of a lent profile: where it lies, and its marks. -/
theorem OW.mark {Z : Nat → Prop} {w : World} {a : Option Addr} {n cap : Nat} {f : List (List Sp)} {vs : List Value} (h : LO Z w (.slice a n cap) f vs) {i : Nat} {l : List Sp} (hl : f[i]? = some l) :
    ∃ b off gb go gc, a = some ⟨b, off, none⟩ ∧ b < w.heap.size ∧ w.cell? ⟨b, off + i, none⟩ = some (.slice (some ⟨gb, go, none⟩) l.length gc) ∧ l.length + 64 ≤ gc ∧ gc ≤ maxLen ∧ gb < w.heap.size ∧
      ∀ j, j < 64 → w.cell? ⟨gb, go + (l.length + j) * 4, none⟩ = some (.int .i64 (-9)) ∧ w.cell? ⟨gb, go + (l.length + j) * 4 + 1, none⟩ = some (.int .u16 0) ∧ w.cell? ⟨gb, go + (l.length + j) * 4 + 2, none⟩ = some (.int .u16 0) ∧ w.cell? ⟨gb, go + (l.length + j) * 4 + 3, none⟩ = some (.int .i64 (j : Int)) := by
  have hi := (List.getElem?_eq_some_iff.1 hl).1
  have hln := h.len
  have hx : vs[i]? = some (vs[i]'(by omega)) := List.getElem?_eq_getElem (by omega)
  have hrow := Rx.of_ro h.row
  rw [← hln] at hrow
  obtain ⟨b, off, cap', e, _, _, hb, hc⟩ := hrow.elem zV hx
  cases e
  obtain ⟨gb, go, gc, eu, hr⟩ := h.el i l _ hl hx
  rw [eu] at hc
  have hc0 := hc 0 _ rfl
  rw [Nat.mul_one, Nat.add_zero] at hc0
  obtain ⟨_, _, _, e2, m1, m2, m3, _⟩ := hr.full (by omega)
  cases e2
  refine ⟨b, off, gb, go, gc, rfl, hb, hc0, m1, m2, m3, fun j hj => ?_⟩
  have hat : (l ++ mkS 64)[l.length + j]? = some ⟨-9, 0, 0, (j : Int)⟩ := by
    rw [List.getElem?_append_right (by omega), show l.length + j - l.length = j by omega]; exact mkS_at hj
  have hrx := Rx.of_ro hr
  rw [show l.length + 64 = (l ++ mkS 64).length by rw [List.length_append, mkS_length]] at hrx
  obtain ⟨_, _, e3, _, s0, s1, s2, s3⟩ := hrx.spot hat
  cases e3
  exact ⟨s0, s1, s2, s3⟩
set_option maxRecDepth 100000 in
set_option maxHeartbeats 3200000 in
theorem keptP_any {Z : Nat → Prop} {w : World} {gv av : Value} {f : List (List Sp)} {vs : List Value} (hg : LO Z w gv f vs) (ha : PfV w av f) :
    Calls Try.prog 7 #[.agg #[gv], .agg #[av]] w fun e w' => e = .returned (.bool true) ∧ Below w.heap.size w w' := by
  obtain ⟨a, acap, rfl, ha1, ha2⟩ := ha.shape
  obtain ⟨b, bcap, rfl, hb1, hb2⟩ := hg.row.shape
  have HA := hide (fun i l (hl : f[i]? = some l) => ha.row hl)
  have HG := hide (fun i l (hl : f[i]? = some l) => hg.mark hl)
  obtain ⟨L, hL⟩ : ∃ L, Hid (f.length = L) := ⟨_, hide rfl⟩
  have HS := hide (fun W (hW : Below w.heap.size w W) => sameP_any (hg.lpf.below hW (Nat.le_refl _)) (ha.below hW (Nat.le_refl _)))
  rw [Dc_true (rfl : f = f)] at HS
  rw [unhide hL] at ha1 hb1 HS ⊢
  unfold maxLen at ha2 hb2
  have HX := hide (Bx2.start w (.slice b L bcap) (.slice a L acap) 28 28)
  have HB2 := hide (bl_two w)
  clear ha hg
  go_enter Try.func7, Try.ntmps7
  go_wp2_with fail
  refine (unhide HS _ (unhide HB2 _ _)).mono ?_
  rintro e w1 ⟨rfl, b1⟩
  have HX1 := hide ((unhide HX).on b1)
  clear HX HB2 b1 HS
  go_wp2_with fail
  go_loopg [5] L (fun gg t5 wr => ∃ (i : Nat), Hid (i + gg = L) ∧ t5 = .int .i64 (i : Int) ∧ Hid (Bx2 w (.slice b L bcap) (.slice a L acap) wr))
  case atStart => exact ⟨0, by unfold Hid; omega, rfl, HX1⟩
  case round =>
    clear HX1
    obtain ⟨i, hi, rfl, hBX⟩ := hrel
    obtain ⟨bl, q0, q1, bs⟩ := unhide hBX
    have HBL := hide bl
    clear bl
    have b0 : w.heap.size < wr.heap.size := by omega
    have b1 : w.heap.size + 1 < wr.heap.size := by omega
    by_cases hlt : i < L
    · have hil : i < f.length := by rw [unhide hL]; exact hlt
      obtain ⟨p, hp⟩ : ∃ p, f[i]? = some p := ⟨_, List.getElem?_eq_getElem hil⟩
      obtain ⟨ab, ao, pa, pc, ea, ha4, ca, _, ha5, ha6⟩ := unhide HA i p hp
      obtain ⟨bb, bo, gb, go, gc, eb, hb4, cb, hb5, hb6, hb7, hmk⟩ := unhide HG i p hp
      subst ea
      subst eb
      unfold maxLen at ha6 hb6
      have k0 : wr.cell? ⟨ab, ao + i, none⟩ = some (.slice pa p.length pc) := ((unhide HBL).cell (p := ⟨ab, ao + i, none⟩) ha4).trans ca
      have r0 : wr.cell? ⟨bb, bo + i, none⟩ = some (.slice (some ⟨gb, go, none⟩) p.length gc) := ((unhide HBL).cell (p := ⟨bb, bo + i, none⟩) hb4).trans cb
      have hbr := Nat.lt_of_lt_of_le ha4 (unhide HBL).size
      have hgr := Nat.lt_of_lt_of_le hb4 (unhide HBL).size
      have i0 : (0 : Int) ≤ (i : Int) := by omega
      have i1 : (i : Int) < (L : Int) := by omega
      have HMK := hide hmk
      clear ca cb hp hmk
      obtain ⟨P, hP⟩ : ∃ P, Hid (p.length = P) := ⟨_, hide rfl⟩
      rw [unhide hP] at k0 r0 ha5 hb5 HMK
      obtain ⟨G0, hG0⟩ : ∃ G0 : Nat, Hid (G0 = gk) := ⟨_, hide rfl⟩
      have p0 : (0 : Int) ≤ (P : Int) := by omega
      have p1 : (P : Int) + 64 ≤ (gc : Int) := by omega
      go_wp2_with fail
      clear q0 q1 k0 r0 hbr hgr b0 b1
      go_loopg [8] 64 (fun gg t8 wr => ∃ (j : Nat), Hid (j + gg = 64) ∧ t8 = .int .i64 (j : Int) ∧ Hid (Bx2 w (.slice (some ⟨bb, bo, none⟩) L bcap) (.slice (some ⟨ab, ao, none⟩) L acap) wr))
      case atStart => exact ⟨0, by unfold Hid; omega, rfl, hBX⟩
      case round =>
        clear HBL hBX bs
        obtain ⟨j, hj, rfl, hBX⟩ := hrel
        obtain ⟨bl, q0, q1, bs⟩ := unhide hBX
        have HBL := hide bl
        clear bl
        by_cases hjt : j < 64
        · obtain ⟨c0, c1, c2, c3⟩ := unhide HMK j hjt
          have s0 : wr.cell? ⟨gb, go + (P + j) * 4, none⟩ = _ := ((unhide HBL).cell (p := ⟨gb, go + (P + j) * 4, none⟩) hb7).trans c0
          have s1 : wr.cell? ⟨gb, go + (P + j) * 4 + 1, none⟩ = _ := ((unhide HBL).cell (p := ⟨gb, go + (P + j) * 4 + 1, none⟩) hb7).trans c1
          have s2 : wr.cell? ⟨gb, go + (P + j) * 4 + 2, none⟩ = _ := ((unhide HBL).cell (p := ⟨gb, go + (P + j) * 4 + 2, none⟩) hb7).trans c2
          have s3 : wr.cell? ⟨gb, go + (P + j) * 4 + 3, none⟩ = _ := ((unhide HBL).cell (p := ⟨gb, go + (P + j) * 4 + 3, none⟩) hb7).trans c3
          have hgr := Nat.lt_of_lt_of_le hb7 (unhide HBL).size
          have j0 : (0 : Int) ≤ (j : Int) := by omega
          have j1 : (j : Int) < 64 := by omega
          have d2 := neqS0 ⟨-9, 0, 0, (j : Int)⟩
          unfold spV at d2
          clear c0 c1 c2 c3
          go_wp2_with fail
          go_roundg (gk - 1)
          case measure => have := unhide hj; omega
          case rel => exact ⟨j + 1, by have := unhide hj; unfold Hid; omega, by go_num, hBX⟩
        · have hjP : j = 64 := by have := unhide hj; omega
          subst hjP
          go_wp2_with fail
          go_roundg (G0 - 1)
          case measure => have h1 := unhide hG0; have h2 := unhide hi; omega
          case rel => exact ⟨i + 1, by have h1 := unhide hG0; have h2 := unhide hi; unfold Hid; omega, by go_num, hBX⟩
    · have hiL : i = L := by have := unhide hi; omega
      subst hiL
      clear HA HG hBX
      go_wp2_with fail
      go_ret
      exact ⟨rfl, unhide HBL⟩
end Go.Proofs.Ytjjfpokmpcpicaa
