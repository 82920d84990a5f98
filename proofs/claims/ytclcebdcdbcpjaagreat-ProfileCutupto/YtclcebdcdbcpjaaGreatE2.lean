/-
  check: the error for which a profile has no bytes.
-/
import Derived.Test.YtclcebdcdbcpjaaGreatE1
namespace Go.Proofs.YtclcebdcdbcpjaaGreat
open Go.RowKit
set_option linter.unusedVariables false
set_option linter.unusedSimpArgs false
/-- All numbers of a profile have their kinds. -/
def OkF (f : List (List Sp)) : Prop := ∀ l ∈ f, ∀ s ∈ l, okS s
/-- What is wrong of a profile, by its lengths, by its numbers. -/
def LongF (f : List (List Sp)) : Prop := 128 < f.length ∨ ∃ l ∈ f, 2000 < l.length
def BadF (f : List (List Sp)) : Prop := ∃ l ∈ f, ∃ s ∈ l, tkB s = false
noncomputable def ckE (f : List (List Sp)) : Int := if Dc (LongF f) then 5 else if Dc (BadF f) then 1 else 0
theorem ckE_long {f : List (List Sp)} (h : LongF f) : ckE f = 5 := by unfold ckE; rw [Dc_true h]; rfl
theorem ckE_bad {f : List (List Sp)} (h : ¬ LongF f) (k : BadF f) : ckE f = 1 := by unfold ckE; rw [Dc_false h, Dc_true k]; rfl
theorem ckE_ok {f : List (List Sp)} (h : ¬ LongF f) (k : ¬ BadF f) : ckE f = 0 := by unfold ckE; rw [Dc_false h, Dc_false k]; rfl
def IsW (a b : World) : Prop := a = b
theorem tkB_ok {s : Sp} (h : tkB s = true) : 0 ≤ s.c ∧ s.a ≤ 1023 ∧ s.b ≤ 1023 ∧ -1 ≤ s.k ∧ s.k ≤ 128 := of_decide_eq_true h
set_option maxRecDepth 100000 in
set_option maxHeartbeats 3200000 in
theorem check_any {w : World} {av : Value} {f : List (List Sp)} (ha : PfV w av f) (hK : OkF f) :
    Calls Tryz.prog 24 #[.agg #[av]] w fun e w' => e = .returned (.int .i64 (ckE f)) ∧ Below w.heap.size w w' := by
  obtain ⟨a, acap, rfl, ha1, ha2⟩ := ha.shape
  have HA := hide (fun i l (hl : f[i]? = some l) => ha.row hl)
  have HK := hide hK
  have HB0 := hide (box1 w (.slice a f.length acap) 25)
  unfold maxLen at ha2
  clear ha hK
  obtain ⟨L, hL⟩ : ∃ L, Hid (f.length = L) := ⟨_, hide rfl⟩
  by_cases hlong : 128 < f.length
  · rw [ckE_long (.inl hlong)]
    rw [unhide hL] at hlong ha1 HB0 ⊢
    have d0 : (128 : Int) < (L : Int) := by omega
    go_enter Tryz.func24, Tryz.ntmps24
    go_wp2_with fail
    go_ret
    exact ⟨rfl, unhide HB0⟩
  · have HL0 := hide hlong
    rw [unhide hL] at hlong ha1 HB0 ⊢
    have d0 : ¬ (128 : Int) < (L : Int) := by omega
    go_enter Tryz.func24, Tryz.ntmps24
    go_wp2_with fail
    go_loopg [16] L (fun gg t16 wr => ∃ (i : Nat), Hid (i + gg = L) ∧ t16 = .int .i64 (i : Int) ∧ Hid (IsW wr (w.alloc (.cells #[.slice a L acap] 25)) ∧ ∀ j l, j < i → f[j]? = some l → l.length ≤ 2000))
    case atStart => exact ⟨0, by unfold Hid; omega, rfl, rfl, fun j l hj => by omega⟩
    case round =>
      obtain ⟨i, hi, rfl, hW⟩ := hrel
      obtain ⟨e1, hle⟩ := unhide hW
      unfold IsW at e1
      subst e1
      have HLE := hide hle
      clear hle hW
      by_cases hlt : i < L
      · obtain ⟨p, hp⟩ : ∃ p, f[i]? = some p := ⟨_, List.getElem?_eq_getElem (by rw [unhide hL]; exact hlt)⟩
        obtain ⟨ab, ao, pa, pc, ea, ha4, ca, _, ha5, ha6⟩ := unhide HA i p hp
        subst ea
        have HP := hide hp
        obtain ⟨P, hP⟩ : ∃ P, Hid (p.length = P) := ⟨_, hide rfl⟩
        rw [unhide hP] at ca ha5
        have i0 : (0 : Int) ≤ (i : Int) := by omega
        have i1 : (i : Int) < (L : Int) := by omega
        have hab : ab < w.heap.size := ha4
        have hab1 : ab < w.heap.size + 1 := by omega
        clear hp
        by_cases hlp : 2000 < P
        · have HE : Hid (ckE f = 5) := ckE_long (.inr ⟨p, List.mem_of_getElem? (unhide HP), by rw [unhide hP]; exact hlp⟩)
          have d1 : (2000 : Int) < (P : Int) := by omega
          go_wp2_with fail
          go_ret
          exact ⟨by rw [unhide HE]; rfl, unhide HB0⟩
        · have d1 : ¬ (2000 : Int) < (P : Int) := by omega
          have HN : Hid (IsW (w.alloc (.cells #[.slice (some ⟨ab, ao, none⟩) L acap] 25)) (w.alloc (.cells #[.slice (some ⟨ab, ao, none⟩) L acap] 25)) ∧ ∀ j l, j < i + 1 → f[j]? = some l → l.length ≤ 2000) := ⟨rfl, fun j l hj hl => by
            by_cases e : j = i
            · subst e; rw [unhide HP] at hl; cases hl; rw [unhide hP]; omega
            · exact unhide HLE j l (by omega) hl⟩
          go_wp2_with fail
          go_roundg (gk - 1)
          case measure => have := unhide hi; omega
          case rel => exact ⟨i + 1, by have := unhide hi; unfold Hid; omega, by go_num, HN⟩
      · have hiL : i = L := by have := unhide hi; omega
        subst hiL
        have HNL : Hid (¬ LongF f) := by
          rintro (h | ⟨l, hl, h⟩)
          · exact unhide HL0 h
          · obtain ⟨j, hj, rfl⟩ := List.getElem_of_mem hl
            have := unhide HLE j _ (by rw [← unhide hL]; exact hj) (List.getElem?_eq_getElem hj)
            omega
        clear HLE HL0
        go_wp2_with fail
        go_loopg [27] i (fun gg t27 wr => ∃ (n : Nat), Hid (n + gg = i) ∧ t27 = .int .i64 (n : Int) ∧ Hid (Below (w.heap.size + 1) (w.alloc (.cells #[.slice a i acap] 25)) wr ∧ ∀ j l, j < n → f[j]? = some l → ∀ s ∈ l, tkB s = true))
        case atStart => exact ⟨0, by unfold Hid; omega, rfl, Below.refl _ _, fun j l hj => by omega⟩
        case round =>
          obtain ⟨n, hn, rfl, hB⟩ := hrel
          have HBW := hide (bl_past (unhide HB0) ((unhide hB).1.mono (by simp)))
          by_cases hlt2 : n < i
          · obtain ⟨p, hp⟩ : ∃ p, f[n]? = some p := ⟨_, List.getElem?_eq_getElem (by rw [unhide hL]; exact hlt2)⟩
            obtain ⟨ab, ao, pa, pc, ea, ha4, ca, ra, ha5, ha6⟩ := unhide HA n p hp
            subst ea
            have HP := hide hp
            have HR := hide ra
            obtain ⟨P, hP⟩ : ∃ P, Hid (p.length = P) := ⟨_, hide rfl⟩
            rw [unhide hP] at ca ha5
            have k0 : wr.cell? ⟨ab, ao + n, none⟩ = _ := ((unhide HBW).cell (p := ⟨ab, ao + n, none⟩) ha4).trans ca
            have i0 : (0 : Int) ≤ (n : Int) := by omega
            have i1 : (n : Int) < (i : Int) := by omega
            have hab := Nat.lt_of_lt_of_le ha4 (unhide HBW).size
            unfold maxLen at ha6
            obtain ⟨G0, hG0⟩ : ∃ G0 : Nat, Hid (G0 = gk) := ⟨_, hide rfl⟩
            clear hp ca ra
            go_wp2_with fail
            clear k0 hab
            have HB9 := hide (unhide hB).1
            have HT9 := hide (unhide hB).2
            go_loopg [33] P (fun gg t33 wr => ∃ (j : Nat), Hid (j + gg = P) ∧ t33 = .int .i64 (j : Int) ∧ Hid (Below (w.heap.size + 1) (w.alloc (.cells #[.slice (some ⟨ab, ao, none⟩) i acap] 25)) wr ∧ ∀ k s, k < j → p[k]? = some s → tkB s = true))
            case atStart => exact ⟨0, by unfold Hid; omega, rfl, unhide HB9, fun j l hj => by omega⟩
            case round =>
              clear hB HBW HB9
              obtain ⟨j, hj, rfl, hB⟩ := hrel
              have HBW := hide (bl_past (unhide HB0) ((unhide hB).1.mono (by simp)))
              by_cases hjt : j < P
              · obtain ⟨x, hx⟩ : ∃ x, p[j]? = some x := ⟨_, List.getElem?_eq_getElem (by rw [unhide hP]; exact hjt)⟩
                obtain ⟨xb, xo, ex, hx4, c0, c1, c2, c3⟩ := (unhide HR).spot hx
                subst ex
                have bl := unhide HBW
                have s0 : wr.cell? ⟨xb, xo + j * 4, none⟩ = _ := (bl.cell (p := ⟨xb, xo + j * 4, none⟩) hx4).trans c0
                have s1 : wr.cell? ⟨xb, xo + j * 4 + 1, none⟩ = _ := (bl.cell (p := ⟨xb, xo + j * 4 + 1, none⟩) hx4).trans c1
                have s2 : wr.cell? ⟨xb, xo + j * 4 + 2, none⟩ = _ := (bl.cell (p := ⟨xb, xo + j * 4 + 2, none⟩) hx4).trans c2
                have s3 : wr.cell? ⟨xb, xo + j * 4 + 3, none⟩ = _ := (bl.cell (p := ⟨xb, xo + j * 4 + 3, none⟩) hx4).trans c3
                have hxr := Nat.lt_of_lt_of_le hx4 bl.size
                have j0 : (0 : Int) ≤ (j : Int) := by omega
                have j1 : (j : Int) < (P : Int) := by omega
                have HXX := hide hx
                have HOK := hide (unhide HK p (List.mem_of_getElem? (unhide HP)) x (List.mem_of_getElem? hx))
                have HNO := hide (fun W => numbersOf_any W x (unhide HOK))
                have HAF := hide (fun W => allFit_any W x (unhide HOK))
                have HMEM : Hid (p ∈ f ∧ x ∈ p) := ⟨List.mem_of_getElem? (unhide HP), List.mem_of_getElem? hx⟩
                obtain ⟨tb, htb⟩ : ∃ b, Hid (tkB x = b) := ⟨_, hide rfl⟩
                rw [unhide htb] at HAF
                obtain ⟨x0, x1, x2, x3⟩ := x
                unfold nmV spV at HNO
                unfold nmV at HAF
                simp only at HNO HAF s0 s1 s2 s3
                clear bl c0 c1 c2 c3 hx
                go_wp2_with fail
                refine (unhide HNO _).mono ?_
                rintro e w1 ⟨rfl, b1⟩
                go_wp2_with fail
                refine (unhide HAF _).mono ?_
                rintro e w2 ⟨rfl, b2⟩
                have hBn : Below (w.heap.size + 1) (w.alloc (.cells #[.slice (some ⟨ab, ao, none⟩) i acap] 25)) w2 := by
                  have q : Below wr.heap.size wr w2 := bl_past (bl_past ((Below.refl _ wr).alloc (Nat.le_refl _) _) b1) b2
                  refine (unhide hB).1.trans (q.mono ?_)
                  have := (unhide hB).1.size
                  simpa using this
                have HBN := hide hBn
                clear b1 b2 hBn
                cases tb with
                | true =>
                  have HN : Hid (Below (w.heap.size + 1) (w.alloc (.cells #[.slice (some ⟨ab, ao, none⟩) i acap] 25)) w2 ∧ ∀ k s, k < j + 1 → p[k]? = some s → tkB s = true) := ⟨unhide HBN, fun k s hk hs => by
                    by_cases e : k = j
                    · subst e; rw [unhide HXX] at hs; cases hs; exact unhide htb
                    · exact (unhide hB).2 k s (by omega) hs⟩
                  clear hB
                  go_wp2_with fail
                  go_roundg (gk - 1)
                  case measure => have := unhide hj; omega
                  case rel => exact ⟨j + 1, by have := unhide hj; unfold Hid; omega, by go_num, HN⟩
                | false =>
                  have HE : Hid (ckE f = 1) := ckE_bad (unhide HNL) ⟨p, (unhide HMEM).1, _, (unhide HMEM).2, unhide htb⟩
                  have HF := hide (bl_past (unhide HB0) ((unhide HBN).mono (by simp)))
                  clear hB HBN
                  go_wp2_with fail
                  go_ret
                  exact ⟨by rw [unhide HE]; rfl, unhide HF⟩
              · have hjP : j = P := by have := unhide hj; omega
                subst hjP
                have HN : Hid (Below (w.heap.size + 1) (w.alloc (.cells #[.slice (some ⟨ab, ao, none⟩) i acap] 25)) wr ∧ ∀ k l, k < n + 1 → f[k]? = some l → ∀ s ∈ l, tkB s = true) := ⟨(unhide hB).1, fun k l hk hl => by
                  by_cases e : k = n
                  · subst e
                    rw [unhide HP] at hl
                    cases hl
                    intro s hs
                    obtain ⟨q, hq, rfl⟩ := List.getElem_of_mem hs
                    exact (unhide hB).2 q _ (by rw [← unhide hP]; exact hq) (List.getElem?_eq_getElem hq)
                  · exact unhide HT9 k l (by omega) hl⟩
                clear hB
                go_wp2_with fail
                go_roundg (G0 - 1)
                case measure => have h1 := unhide hG0; have h2 := unhide hn; omega
                case rel => exact ⟨n + 1, by have h1 := unhide hG0; have h2 := unhide hn; unfold Hid; omega, by go_num, HN⟩
          · have hni : n = i := by have := unhide hn; omega
            subst hni
            have HE : Hid (ckE f = 0) := ckE_ok (unhide HNL) (by
              rintro ⟨l, hl, s, hs, e⟩
              obtain ⟨j, hj, rfl⟩ := List.getElem_of_mem hl
              have := (unhide hB).2 j _ (by rw [← unhide hL]; exact hj) (List.getElem?_eq_getElem hj) s hs
              rw [this] at e; cases e)
            clear hB
            go_wp2_with fail
            go_ret
            exact ⟨by rw [unhide HE]; rfl, unhide HBW⟩
end Go.Proofs.YtclcebdcdbcpjaaGreat
