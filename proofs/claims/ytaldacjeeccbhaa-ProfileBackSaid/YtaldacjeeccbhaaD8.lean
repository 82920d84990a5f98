/-
  What the law calls fit; a number picked.
-/
import Derived.Test.YtaldacjeeccbhaaD7
import Derived.Test.YtaldacjeeccbhaaD6
namespace Go.Proofs.Ytaldacjeeccbhaa
open Go.RowKit
set_option linter.unusedVariables false
set_option linter.unusedSimpArgs false
def pck (k n : Int) : Int := if k.tmod n < 0 then k.tmod n + n else k.tmod n
theorem pck_bd (k : Int) {n : Int} (hn : 1 ≤ n) : 0 ≤ pck k n ∧ pck k n < n := by
  have hlo : -n < k.tmod n := Int.lt_tmod_of_pos k (show 0 < n by omega)
  have hhi : k.tmod n < n := Int.tmod_lt_of_pos k (by omega)
  unfold pck
  split <;> omega
set_option maxRecDepth 100000 in
theorem pick_any (w : World) (k n : Int) (hn : 1 ≤ n) (hm : n ≤ 17592186044416) :
    Calls Try.prog 26 #[.int .i64 k, .int .i64 n] w fun e w' => e = .returned (.int .i64 (pck k n)) ∧ w' = w := by
  have h1 : ¬ n < 1 := by omega
  have h0 : ¬ n = 0 := by omega
  have hlo : -n < k.tmod n := by have := Int.lt_tmod_of_pos k (show 0 < n by omega); exact this
  have hhi : k.tmod n < n := Int.tmod_lt_of_pos k (by omega)
  go_enter Try.func26, Try.ntmps26
  by_cases hneg : k.tmod n < 0
  · have e : pck k n = k.tmod n + n := if_pos hneg
    rw [e]
    go_wp2_with fail
    go_ret
    exact ⟨rfl, rfl⟩
  · have e : pck k n = k.tmod n := if_neg hneg
    rw [e]
    go_wp2_with fail
    go_ret
    exact ⟨rfl, rfl⟩
def fitP (f : List (List Sp)) : Prop := f.length ≤ 128 ∧ ∀ l ∈ f, l.length ≤ 2000 ∧ ∀ s ∈ l, tkB s = true
theorem fitP_ck {f : List (List Sp)} : fitP f ↔ ckE f = 0 := by
  constructor
  · intro h
    refine ckE_ok (fun q => ?_) (fun q => ?_)
    · rcases q with q | ⟨l, hl, q⟩
      · have := h.1; omega
      · have := (h.2 l hl).1; omega
    · obtain ⟨l, hl, s, hs, q⟩ := q
      rw [(h.2 l hl).2 s hs] at q
      cases q
  · intro h
    obtain ⟨h1, h2, h3⟩ := ck0 h
    exact ⟨h1, fun l hl => ⟨h2 l hl, h3 l hl⟩⟩
set_option maxRecDepth 100000 in
set_option maxHeartbeats 6400000 in
theorem fitsLaw_any {w : World} {av : Value} {f : List (List Sp)} (ha : PfV w av f) : Calls Try.prog 25 #[.agg #[av]] w fun e w' => e = .returned (.bool (Dc (fitP f))) ∧ Below w.heap.size w w' := by
  obtain ⟨a, acap, rfl, ha1, ha2⟩ := ha.shape
  have HA := hide (fun i l (hl : f[i]? = some l) => ha.row hl)
  unfold maxLen at ha2
  clear ha
  obtain ⟨L, hL⟩ : ∃ L, Hid (f.length = L) := ⟨_, hide rfl⟩
  rw [unhide hL] at ha1 ⊢
  have hbx := heap_alloc_new w (.cells #[.slice a L acap] 24)
  have HB0 := hide (bl_one w (.cells #[.slice a L acap] 24))
  have HBOX : Hid (∀ W, Below (w.heap.size + 1) (w.alloc (.cells #[.slice a L acap] 24)) W → W.cell? ⟨w.heap.size, 0, none⟩ = some (.slice a L acap) ∧ w.heap.size < W.heap.size) := fun W hW => by
    obtain ⟨c1, c2, c3⟩ := blk_cells ((hW.block w.heap.size (by omega)).trans hbx)
    exact ⟨c1 0, c3⟩
  clear hbx
  by_cases hl128 : 128 < L
  · have d0 : decide ((L : Int) > 128) = true := decide_eq_true (by omega)
    have d1 : (128 : Int) < (L : Int) := by omega
    go_enter Try.func25, Try.ntmps25
    go_wp2_with fail
    go_ret
    refine ⟨?_, unhide HB0⟩
    rw [Dc_false (fun hf => by have := hf.1; have := unhide hL; omega)]
    rfl
  · have d0 : decide ((L : Int) > 128) = false := decide_eq_false (by omega)
    have d1 : ¬ (128 : Int) < (L : Int) := by omega
    go_enter Try.func25, Try.ntmps25
    go_wp2_with fail
    go_loopg [3] L (fun gg t3 wr => ∃ (i : Nat), Hid (i + gg = L) ∧ t3 = .int .i64 (i : Int) ∧ Hid (Below (w.heap.size + 1) (w.alloc (.cells #[.slice a L acap] 24)) wr) ∧ Hid (∀ l ∈ f.take i, l.length ≤ 2000 ∧ ∀ s ∈ l, tkB s = true))
    case atStart => exact ⟨0, by unfold Hid; omega, rfl, Below.refl _ _, fun l hl => by simp at hl⟩
    case round =>
      obtain ⟨i, hi, rfl, hw, hG⟩ := hrel
      obtain ⟨y0, yl⟩ := unhide HBOX wr (unhide hw)
      have hws := (unhide hw).size
      rw [World.size_alloc] at hws
      have HBL : Hid (Below w.heap.size w wr) := (unhide HB0).trans ((unhide hw).mono (by omega))
      by_cases hlt : i < L
      · obtain ⟨l, hl⟩ : ∃ l, f[i]? = some l := ⟨_, List.getElem?_eq_getElem (by rw [unhide hL]; exact hlt)⟩
        obtain ⟨ab, ao, la, lc, ea, ha4, ca, ra, ha5, ha6⟩ := unhide HA i l hl
        subst ea
        unfold maxLen at ha6
        have hbw := Nat.lt_of_lt_of_le ha4 (unhide HBL).size
        have k0 : wr.cell? ⟨ab, ao + i, none⟩ = some (.slice la l.length lc) := ((unhide HBL).cell (p := ⟨ab, ao + i, none⟩) ha4).trans ca
        have i0 : (0 : Int) ≤ (i : Int) := by omega
        have i1 : (i : Int) < (L : Int) := by omega
        have HP := hide hl
        obtain ⟨N, hN⟩ : ∃ N, Hid (l.length = N) := ⟨_, hide rfl⟩
        have HRA := hide ra
        have HCA := hide ca
        rw [unhide hN] at k0 ha5 HCA
        clear hl ca ra
        by_cases hl2 : 2000 < N
        · have e0 : decide ((N : Int) > 2000) = true := decide_eq_true (by omega)
          have e1 : (2000 : Int) < (N : Int) := by omega
          go_wp2_with fail
          go_ret
          refine ⟨?_, unhide HBL⟩
          rw [Dc_false (fun hf => by have h1 := (hf.2 l (List.mem_of_getElem? (unhide HP))).1; have := unhide hN; omega)]
          rfl
        · have e0 : decide ((N : Int) > 2000) = false := decide_eq_false (by omega)
          have e1 : ¬ (2000 : Int) < (N : Int) := by omega
          obtain ⟨G0, hG0⟩ : ∃ G0 : Nat, Hid (G0 = gk) := ⟨_, hide rfl⟩
          go_wp2_with fail
          have HW0 := hw
          clear y0 yl hbw k0 hws hw
          go_loopg [4] N (fun gg t4 wq => ∃ (j : Nat), Hid (j + gg = N) ∧ t4 = .int .i64 (j : Int) ∧ Hid (Below (w.heap.size + 1) (w.alloc (.cells #[.slice (some ⟨ab, ao, none⟩) L acap] 24)) wq) ∧ Hid (∀ s ∈ l.take j, tkB s = true))
          case atStart => exact ⟨0, by unfold Hid; omega, rfl, HW0, fun l hl => by simp at hl⟩
          case round =>
            clear HBL
            obtain ⟨j, hj, rfl, hw, hT⟩ := hrel
            obtain ⟨y0, yl⟩ := unhide HBOX wr (unhide hw)
            have hws := (unhide hw).size
            rw [World.size_alloc] at hws
            have HBL : Hid (Below w.heap.size w wr) := (unhide HB0).trans ((unhide hw).mono (by omega))
            have hbw := Nat.lt_of_lt_of_le ha4 (unhide HBL).size
            have k0 : wr.cell? ⟨ab, ao + i, none⟩ = some (.slice la N lc) := ((unhide HBL).cell (p := ⟨ab, ao + i, none⟩) ha4).trans (unhide HCA)
            by_cases hjt : j < N
            · obtain ⟨s, hs⟩ : ∃ s, l[j]? = some s := ⟨_, List.getElem?_eq_getElem (by rw [unhide hN]; exact hjt)⟩
              obtain ⟨xb, xo, ex, hx4, c0, c1, c2, c3⟩ := (unhide HRA).spot hs
              subst ex
              have HS := hide hs
              have s0 : wr.cell? ⟨xb, xo + j * 4, none⟩ = _ := ((unhide HBL).cell (p := ⟨xb, xo + j * 4, none⟩) hx4).trans c0
              have s1 : wr.cell? ⟨xb, xo + j * 4 + 1, none⟩ = _ := ((unhide HBL).cell (p := ⟨xb, xo + j * 4 + 1, none⟩) hx4).trans c1
              have s2 : wr.cell? ⟨xb, xo + j * 4 + 2, none⟩ = _ := ((unhide HBL).cell (p := ⟨xb, xo + j * 4 + 2, none⟩) hx4).trans c2
              have s3 : wr.cell? ⟨xb, xo + j * 4 + 3, none⟩ = _ := ((unhide HBL).cell (p := ⟨xb, xo + j * 4 + 3, none⟩) hx4).trans c3
              have hxw := Nat.lt_of_lt_of_le hx4 (unhide HBL).size
              have j0 : (0 : Int) ≤ (j : Int) := by omega
              have j1 : (j : Int) < (N : Int) := by omega
              have HWN : Hid (Below (w.heap.size + 1) (w.alloc (.cells #[.slice (some ⟨ab, ao, none⟩) L acap] 24)) (wr.alloc (.cells #[.int .i64 s.c, .int .u16 s.a, .int .u16 s.b, .int .i64 s.k] 55))) := (unhide hw).alloc (by omega) _
              clear hs c0 c1 c2 c3
              by_cases q0 : s.c < 0
              · have e0 : decide (s.c < 0) = true := decide_eq_true q0
                go_wp2_with fail
                go_ret
                refine ⟨?_, bl_past (unhide HBL) (bl_one wr _)⟩
                rw [Dc_false (fun hf => by
                  have h1 := tkB_ok ((hf.2 l (List.mem_of_getElem? (unhide HP))).2 s (List.mem_of_getElem? (unhide HS)))
                  omega)]
                rfl
              · by_cases q1 : 1023 < s.a
                · have e0 : decide (s.c < 0) = false := decide_eq_false q0
                  have e1 : decide (1023 < s.a) = true := decide_eq_true q1
                  go_wp2_with fail
                  go_ret
                  refine ⟨?_, bl_past (unhide HBL) (bl_one wr _)⟩
                  rw [Dc_false (fun hf => by
                    have h1 := tkB_ok ((hf.2 l (List.mem_of_getElem? (unhide HP))).2 s (List.mem_of_getElem? (unhide HS)))
                    omega)]
                  rfl
                · by_cases q2 : 1023 < s.b
                  · have e0 : decide (s.c < 0) = false := decide_eq_false q0
                    have e1 : decide (1023 < s.a) = false := decide_eq_false q1
                    have e2 : decide (1023 < s.b) = true := decide_eq_true q2
                    go_wp2_with fail
                    go_ret
                    refine ⟨?_, bl_past (unhide HBL) (bl_one wr _)⟩
                    rw [Dc_false (fun hf => by
                      have h1 := tkB_ok ((hf.2 l (List.mem_of_getElem? (unhide HP))).2 s (List.mem_of_getElem? (unhide HS)))
                      omega)]
                    rfl
                  · by_cases q3 : s.k < -1
                    · have e0 : decide (s.c < 0) = false := decide_eq_false q0
                      have e1 : decide (1023 < s.a) = false := decide_eq_false q1
                      have e2 : decide (1023 < s.b) = false := decide_eq_false q2
                      have e3 : decide (s.k < -1) = true := decide_eq_true q3
                      go_wp2_with fail
                      go_ret
                      refine ⟨?_, bl_past (unhide HBL) (bl_one wr _)⟩
                      rw [Dc_false (fun hf => by
                        have h1 := tkB_ok ((hf.2 l (List.mem_of_getElem? (unhide HP))).2 s (List.mem_of_getElem? (unhide HS)))
                        omega)]
                      rfl
                    · by_cases q4 : 128 < s.k
                      · have e0 : decide (s.c < 0) = false := decide_eq_false q0
                        have e1 : decide (1023 < s.a) = false := decide_eq_false q1
                        have e2 : decide (1023 < s.b) = false := decide_eq_false q2
                        have e3 : decide (s.k < -1) = false := decide_eq_false q3
                        have e4 : decide (128 < s.k) = true := decide_eq_true q4
                        go_wp2_with fail
                        go_ret
                        refine ⟨?_, bl_past (unhide HBL) (bl_one wr _)⟩
                        rw [Dc_false (fun hf => by
                          have h1 := tkB_ok ((hf.2 l (List.mem_of_getElem? (unhide HP))).2 s (List.mem_of_getElem? (unhide HS)))
                          omega)]
                        rfl
                      · have e0 : decide (s.c < 0) = false := decide_eq_false q0
                        have e1 : decide (1023 < s.a) = false := decide_eq_false q1
                        have e2 : decide (1023 < s.b) = false := decide_eq_false q2
                        have e3 : decide (s.k < -1) = false := decide_eq_false q3
                        have e4 : decide (128 < s.k) = false := decide_eq_false q4
                        have HTK : tkB s = true := decide_eq_true (by omega)
                        have HI2 : Hid (∀ x ∈ l.take (j + 1), tkB x = true) := fun x hx => by
                          rw [take_push (unhide HS), List.mem_append] at hx
                          rcases hx with hx | hx
                          · exact unhide hT x hx
                          · rw [List.mem_singleton] at hx; subst hx; exact HTK
                        go_wp2_with fail
                        go_roundg (gk - 1)
                        case measure => have := unhide hj; omega
                        case rel => exact ⟨j + 1, by have := unhide hj; unfold Hid; omega, by go_num, HWN, HI2⟩
            · have hjN : j = N := by have := unhide hj; omega
              subst hjN
              have HG2 : Hid (∀ x ∈ f.take (i + 1), x.length ≤ 2000 ∧ ∀ s ∈ x, tkB s = true) := fun x hx => by
                rw [take_push (unhide HP), List.mem_append] at hx
                rcases hx with hx | hx
                · exact unhide hG x hx
                · rw [List.mem_singleton] at hx
                  subst hx
                  have h1 := unhide hT
                  rw [List.take_of_length_le (by rw [unhide hN]; exact Nat.le_refl _)] at h1
                  exact ⟨by rw [unhide hN]; omega, h1⟩
              go_wp2_with fail
              go_roundg (G0 - 1)
              case measure => have h1 := unhide hG0; have h2 := unhide hi; omega
              case rel => exact ⟨i + 1, by have h1 := unhide hG0; have h2 := unhide hi; unfold Hid; omega, by go_num, hw, HG2⟩
      · have hiL : i = L := by have := unhide hi; omega
        subst hiL
        go_wp2_with fail
        go_ret
        refine ⟨?_, unhide HBL⟩
        rw [Dc_true ⟨by rw [unhide hL]; omega, by
          have h1 := unhide hG
          rw [List.take_of_length_le (by rw [unhide hL]; exact Nat.le_refl _)] at h1
          exact h1⟩]
        rfl
end Go.Proofs.Ytaldacjeeccbhaa
