/-
  The document's Quote, walked.
-/
import Derived.Test.YthiaenkolakjeaaDoorQRq
namespace Go.Proofs.YthiaenkolakjeaaDoor
open Go.RowKit Go.Shelf
set_option linter.unusedVariables false
set_option linter.unusedSimpArgs false
theorem ro_one (w : World) (k : UInt8) : Ro (w.alloc (.cells #[.int .u8 (k.toNat : Int)] 5)) 1 (.slice (some ⟨w.heap.size, 0, none⟩) 1 1) 1 (Lib.byteCells [k]) :=
  ⟨rfl, .inr ⟨w.heap.size, 0, 1, #[.int .u8 (k.toNat : Int)], 5, rfl, heap_alloc_new _ _, by omega, by unfold maxLen; omega, by simp, fun j hj => by simp [Lib.byteCells]⟩⟩
theorem Ro.str {w : World} {v : Value} {l : List UInt8} (h : Ro w 1 v l.length (Lib.byteCells l)) (h0 : 0 < l.length) : (convert 26 9 v).run Tryd.prog w = .ok (.string ⟨l.toArray⟩) w := by
  obtain ⟨g, off, cap, e, _, _, _, hc⟩ := h.full h0
  subst e
  refine run_convert_bytes_back w 26 9 5 ⟨g, off, none⟩ cap l Tryd.underlying26 Tryd.underlying5 Tryd.underlying9 (fun j hj => ?_)
  have := hc j (by omega)
  rw [Go.WideShapes.add_plain, this]
  simp [Lib.byteCells, hj]
set_option maxHeartbeats 2000000 in
set_option maxRecDepth 100000 in
theorem rquote_any (s : ByteArray) (w : World) (hs : s.size ≤ 17592186044416) :
    Calls Tryd.prog 8 #[.string s] w fun e w' => e = .returned (.string ⟨(quo s.data.toList).toArray⟩) ∧ Below w.heap.size w w' := by
  obtain ⟨W1, eW1⟩ : ∃ W1, W1 = w.alloc (.cells #[.int .u8 34] 5) := ⟨_, rfl⟩
  have B1 : Hid (Gb w.heap.size w [34] (.slice (some ⟨w.heap.size, 0, none⟩) 1 1) W1) := by
    unfold Hid; rw [eW1]
    exact ⟨ro_one w 34, (Below.refl _ _).alloc (Nat.le_refl _) _, by simp, fun k hk => by cases hk; exact Nat.le_refl _⟩
  obtain ⟨N, hN⟩ : ∃ N, Hid (s.size = N) := ⟨_, rfl⟩
  obtain ⟨L, hL⟩ : ∃ L, Hid (s.data.toList = L) := ⟨_, rfl⟩
  have hLN : Hid (L.length = N) := by unfold Hid; rw [← unhide hL, ← unhide hN, Array.length_toList]; rfl
  rw [unhide hL]
  rw [unhide hN] at hs
  have HD := hide (fun (w : World) (d : Nat) (h : d < 16) => digit_any w d h)
  go_enter Tryd.func8, Tryd.ntmps8
  go_wp2_with fail
  rw [← eW1]
  clear eW1
  obtain ⟨v0, ev0⟩ : ∃ v0, v0 = Value.slice (some ⟨w.heap.size, 0, none⟩) 1 1 := ⟨_, rfl⟩
  rw [← ev0] at B1 ⊢
  clear ev0
  go_loopg [3, 4] N (fun gg t3 t4 wi => ∃ (i : Nat), Hid (i + gg = N) ∧ t4 = .int .i64 (i : Int) ∧ Hid (Gb w.heap.size w ([34] ++ (L.take i).flatMap qb) t3 wi))
  case atStart => exact ⟨0, by unfold Hid; omega, rfl, by simpa [Hid] using unhide B1⟩
  case round =>
    obtain ⟨i, hi, rfl, hB⟩ := hrel
    have i0 : (0 : Int) ≤ (i : Int) := by omega
    obtain ⟨P, hP⟩ : ∃ P : List UInt8, Hid (([34] : List UInt8) ++ (L.take i).flatMap qb = P) := ⟨_, Eq.refl _⟩
    have hPl : P.length ≤ 1 + 4 * N := by
      rw [← unhide hP]
      have := flat_le (L.take i)
      have h2 : (L.take i).length ≤ N := by rw [List.length_take, unhide hLN]; omega
      simp only [List.length_append, List.length_singleton]; omega
    rw [unhide hP] at hB
    have HRo := hide (unhide hB).1
    by_cases hlt : i < N
    · have i1 : (i : Int) < (s.size : Int) := by rw [unhide hN]; omega
      have i3 : i < s.size := by rw [unhide hN]; exact hlt
      obtain ⟨c, hcx⟩ : ∃ c, s[i] = c := ⟨_, rfl⟩
      have hat : Hid (L[i]? = some c) := by unfold Hid; rw [← unhide hL, ← hcx]; exact ba_at s i3
      have hNX : Hid ([34] ++ (L.take (i + 1)).flatMap qb = P ++ qb c) := by
        unfold Hid
        rw [List.take_add_one, unhide hat, ← unhide hP]
        simp
      obtain ⟨n, hn⟩ : ∃ n, c.toNat = n := ⟨_, rfl⟩
      have hn2 : n < 256 := by rw [← hn]; exact c.toNat_lt
      have HQB : Hid (qb c = if n = 34 ∨ n = 92 then [92, c] else if n = 10 then [92, 110] else if 32 ≤ n ∧ n ≤ 126 then [c] else [92, 120, hx (n / 16), hx (n % 16)]) := by
        unfold Hid qb
        rw [hn]
      by_cases h1 : n = 34 ∨ n = 92
      · have e1 : Hid (qb c = [92, c]) := by unfold Hid; rw [unhide HQB, if_pos h1]
        have c1 : ((n : Int) == 34 || (n : Int) == 92) = true := by simp; omega
        rcases h1 with rfl | rfl
        all_goals
          go_wp2_with (first | (at_builtin; refine wpList_appB rfl _ _ rfl _ P [92, c] rfl ((unhide HRo).keep (fun g hg => Below.heap_alloc _ _ _ ((unhide HRo).lt g hg))) ⟨wr.heap.size, 0, none⟩ 2 rfl (fun j u hj => new_cells wr #[.int .u8 92, .int .u8 _] 5 j u (by simpa [Lib.byteCells, hn] using hj)) (by simp) (by simp; omega) ?_; intro v6 w6 hr6 hg6 hat6; have G2 := hide ((unhide hB).push hr6 rfl hg6 hat6); clear hr6 hg6 hat6))
          go_roundg (gk - 1)
          case measure => have := unhide hi; omega
          case rel => exact ⟨i + 1, by have := unhide hi; unfold Hid; omega, by go_num, by unfold Hid; rw [unhide hNX, unhide e1]; exact unhide G2⟩
      by_cases h2 : n = 10
      · have e1 : Hid (qb c = [92, 110]) := by unfold Hid; rw [unhide HQB, if_neg h1, if_pos h2]
        subst h2
        go_wp2_with (first | (at_builtin; refine wpList_appB rfl _ _ rfl _ P [92, 110] rfl ((unhide HRo).keep (fun g hg => Below.heap_alloc _ _ _ ((unhide HRo).lt g hg))) ⟨wr.heap.size, 0, none⟩ 2 rfl (fun j u hj => new_cells wr #[.int .u8 92, .int .u8 110] 5 j u (by simpa [Lib.byteCells, hn] using hj)) (by simp) (by simp; omega) ?_; intro v6 w6 hr6 hg6 hat6; have G2 := hide ((unhide hB).push hr6 rfl hg6 hat6); clear hr6 hg6 hat6))
        go_roundg (gk - 1)
        case measure => have := unhide hi; omega
        case rel => exact ⟨i + 1, by have := unhide hi; unfold Hid; omega, by go_num, by unfold Hid; rw [unhide hNX, unhide e1]; exact unhide G2⟩
      have d1 : ((n : Int) == 34) = false := by simp; omega
      have d2 : ((n : Int) == 92) = false := by simp; omega
      have d3 : ((n : Int) == 10) = false := by simp; omega
      by_cases h3 : 32 ≤ n ∧ n ≤ 126
      · have e1 : Hid (qb c = [c]) := by unfold Hid; rw [unhide HQB, if_neg h1, if_neg h2, if_pos h3]
        have d4 : (32 : Int) ≤ (n : Int) := by omega
        have d5 : (n : Int) ≤ 126 := by omega
        go_wp2_with (first | (at_builtin; refine wpList_appB rfl _ _ rfl _ P [c] rfl ((unhide HRo).keep (fun g hg => Below.heap_alloc _ _ _ ((unhide HRo).lt g hg))) ⟨wr.heap.size, 0, none⟩ 1 rfl (fun j u hj => new_cells wr #[.int .u8 (n : Int)] 5 j u (by simpa [Lib.byteCells, hn] using hj)) (by simp) (by simp; omega) ?_; intro v6 w6 hr6 hg6 hat6; have G2 := hide ((unhide hB).push hr6 rfl hg6 hat6); clear hr6 hg6 hat6))
        go_roundg (gk - 1)
        case measure => have := unhide hi; omega
        case rel => exact ⟨i + 1, by have := unhide hi; unfold Hid; omega, by go_num, by unfold Hid; rw [unhide hNX, unhide e1]; exact unhide G2⟩
      · have e1 : Hid (qb c = [92, 120, hx (n / 16), hx (n % 16)]) := by unfold Hid; rw [unhide HQB, if_neg h1, if_neg h2, if_neg h3]
        obtain ⟨x1, hx1⟩ : ∃ x1, Hid (hx (n / 16) = x1) := ⟨_, rfl⟩
        obtain ⟨x2, hx2⟩ : ∃ x2, Hid (hx (n % 16) = x2) := ⟨_, rfl⟩
        rw [unhide hx1, unhide hx2] at e1
        have D1 : Hid (∀ w, Calls Tryd.prog 14 #[.int .u8 ((n : Int) / 16)] w fun e w' => e = .returned (.int .u8 (x1.toNat : Int)) ∧ w' = w) := fun w => by rw [← unhide hx1]; have := unhide HD w (n / 16) (by omega); rw [show ((n / 16 : Nat) : Int) = (n : Int) / 16 by omega] at this; exact this
        have D2 : Hid (∀ w, Calls Tryd.prog 14 #[.int .u8 ((n : Int) % 16)] w fun e w' => e = .returned (.int .u8 (x2.toNat : Int)) ∧ w' = w) := fun w => by rw [← unhide hx2]; have := unhide HD w (n % 16) (by omega); rw [show ((n % 16 : Nat) : Int) = (n : Int) % 16 by omega] at this; exact this
        have d4 : (decide ((32 : Int) ≤ (n : Int)) && decide ((n : Int) ≤ 126)) = false := by simp; omega
        by_cases h4 : n < 32
        · have d5 : ¬ (32 : Int) ≤ (n : Int) := by omega
          go_wp2_with fail
          refine (unhide D1 _).mono ?_
          rintro e W2 ⟨rfl, hX⟩
          obtain rfl := hX.symm
          clear hX
          go_wp2_with fail
          refine (unhide D2 _).mono ?_
          rintro e W2 ⟨rfl, hX⟩
          obtain rfl := hX.symm
          clear hX
          go_wp2_with (first | (at_builtin; refine wpList_appB rfl _ _ rfl _ P [92, 120, x1, x2] rfl ((unhide HRo).keep (fun g hg => Below.heap_alloc _ _ _ ((unhide HRo).lt g hg))) ⟨wr.heap.size, 0, none⟩ 4 rfl (fun j u hj => new_cells wr #[.int .u8 92, .int .u8 120, .int .u8 (x1.toNat : Int), .int .u8 (x2.toNat : Int)] 5 j u (by simpa [Lib.byteCells, hn] using hj)) (by simp) (by simp; omega) ?_; intro v6 w6 hr6 hg6 hat6; have G2 := hide ((unhide hB).push hr6 rfl hg6 hat6); clear hr6 hg6 hat6))
          go_roundg (gk - 1)
          case measure => have := unhide hi; omega
          case rel => exact ⟨i + 1, by have := unhide hi; unfold Hid; omega, by go_num, by unfold Hid; rw [unhide hNX, unhide e1]; exact unhide G2⟩
        · have d5 : (32 : Int) ≤ (n : Int) := by omega
          have d6 : ¬ (n : Int) ≤ 126 := by omega
          go_wp2_with fail
          refine (unhide D1 _).mono ?_
          rintro e W2 ⟨rfl, hX⟩
          obtain rfl := hX.symm
          clear hX
          go_wp2_with fail
          refine (unhide D2 _).mono ?_
          rintro e W2 ⟨rfl, hX⟩
          obtain rfl := hX.symm
          clear hX
          go_wp2_with (first | (at_builtin; refine wpList_appB rfl _ _ rfl _ P [92, 120, x1, x2] rfl ((unhide HRo).keep (fun g hg => Below.heap_alloc _ _ _ ((unhide HRo).lt g hg))) ⟨wr.heap.size, 0, none⟩ 4 rfl (fun j u hj => new_cells wr #[.int .u8 92, .int .u8 120, .int .u8 (x1.toNat : Int), .int .u8 (x2.toNat : Int)] 5 j u (by simpa [Lib.byteCells, hn] using hj)) (by simp) (by simp; omega) ?_; intro v6 w6 hr6 hg6 hat6; have G2 := hide ((unhide hB).push hr6 rfl hg6 hat6); clear hr6 hg6 hat6))
          go_roundg (gk - 1)
          case measure => have := unhide hi; omega
          case rel => exact ⟨i + 1, by have := unhide hi; unfold Hid; omega, by go_num, by unfold Hid; rw [unhide hNX, unhide e1]; exact unhide G2⟩
    · have i1 : ¬ (i : Int) < (s.size : Int) := by rw [unhide hN]; omega
      have hPe : Hid (P = [34] ++ L.flatMap qb) := by unfold Hid; rw [← unhide hP, List.take_of_length_le (by rw [unhide hLN]; omega)]
      have hq : Hid (P ++ [34] = quo L) := by unfold Hid quo; rw [unhide hPe]
      go_wp2_with (first | (at_builtin; refine wpList_appB rfl _ _ rfl _ P [34] rfl ((unhide HRo).keep (fun g hg => Below.heap_alloc _ _ _ ((unhide HRo).lt g hg))) ⟨wr.heap.size, 0, none⟩ 1 rfl (fun j u hj => new_cells wr #[.int .u8 34] 5 j u (by simpa [Lib.byteCells, hPl] using hj)) (by simp) (by simp; omega) ?_; intro v6 w6 hr6 hg6 hat6; have G2 := hide ((unhide hB).push hr6 rfl hg6 hat6); have hcv := (unhide G2).1.str (by simp); rw [unhide hq] at hcv; clear hr6 hg6 hat6))
      have HF : Hid (Below w.heap.size w w6) := (unhide G2).2.1
      go_ret
      exact ⟨rfl, unhide HF⟩
end Go.Proofs.YthiaenkolakjeaaDoor
