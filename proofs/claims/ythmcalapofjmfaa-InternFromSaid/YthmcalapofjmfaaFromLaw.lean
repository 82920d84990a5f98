/-
  P5.1, P5.9.
-/
import Derived.Test.YthmcalapofjmfaaLives
import Derived.Test.YthmcalapofjmfaaFrom
import Derived.Test.YthmcalapofjmfaaBackLaw
namespace Go.Proofs.Ythmcalapofjmfaa
open Go.RowKit Go.Maps
set_option linter.unusedVariables false
set_option linter.unusedSimpArgs false

theorem twice {rs : List ByteArray} {i : Nat} (hi : i < rs.length) : ¬ (rs ++ [tx rs i]).Nodup := by
  intro h
  rw [List.nodup_append] at h
  exact h.2.2 _ (tx_mem hi) _ (List.mem_singleton.2 rfl) rfl

set_option maxRecDepth 100000 in
set_option maxHeartbeats 3200000 in
theorem from_walk {w : World} {v : Value} {l : List ByteArray} (h : Rt w v l) (hok : ∀ i, i < l.length → (tx l i).size ≤ maxLen) (hM : l.length ≤ 8796093021952) (t : ByteArray) (ht : t.size ≤ maxLen) :
    Calls Try.prog 8 #[v, .string t] w fun e w' => e = .returned (.bool true) ∧ Below w.heap.size w w' := by
  have HR := hide h
  have HOK := hide hok
  have HTT := hide ht
  obtain ⟨a, cap, rfl, h1, h2, h3⟩ := h
  obtain ⟨n, hn⟩ : ∃ n, Hid (l.length = n) := ⟨_, rfl⟩
  have HRn : Hid (Rt w (.slice a n cap) l) := by rw [← unhide hn]; exact unhide HR
  rw [unhide hn] at h1 hM ⊢
  unfold maxLen at h2
  have H := hide h3
  clear h3 hok HR ht
  have hNew := hide (OX.new w w (Below.refl _ _))
  go_enter Try.func8, Try.ntmps8
  go_wp2_with fail
  refine (unhide hNew).mono ?_
  rintro e w1 ⟨p, rfl, hp, hO⟩
  have hL := hide (lives_any w1)
  have HO1 := hide hO
  clear hO hNew hp
  go_wp2_with fail
  refine (unhide hL).mono ?_
  rintro e w2 ⟨rfl, hB⟩
  have HO : Hid (OX w p (rowOf l 0) w2) := (unhide HO1).below hB
  clear hL HO1 hB
  go_wp2
  go_loopg [6] n (fun g t6 wr => ∃ j : Nat, Hid (j + g = n) ∧ t6 = .int .i64 (j : Int) ∧ Hid (OX w p (rowOf l j) wr))
  case atStart => exact ⟨0, by unfold Hid; omega, rfl, HO⟩
  case round =>
    clear HO
    obtain ⟨j, hj, rfl, HO⟩ := hrel
    by_cases hlt : j < n
    · obtain ⟨b, off, rfl, hb, hcl⟩ := unhide H j (by rw [unhide hn]; exact hlt)
      have c1 : wr.cell? ⟨b, off + j, none⟩ = some (.string (tx l j)) := by rw [(unhide HO).bel.cell (p := ⟨b, off + j, none⟩) hb, hcl]
      have hadd := hide ((unhide HO).add (tx l j) (unhide HOK j (by rw [unhide hn]; exact hlt)) (by have := rowOf_length l j; omega))
      obtain ⟨tj, HTJ⟩ : ∃ tj, Hid (tx l j = tj) := ⟨_, rfl⟩
      rw [unhide HTJ] at c1 hadd
      have i0 : (0 : Int) ≤ (j : Int) := by omega
      have i1 : (j : Int) < (n : Int) := by omega
      clear hcl
      go_wp2_with fail
      refine (unhide hadd).mono ?_
      rintro e w3 ⟨rfl, hO3⟩
      have HO3 : Hid (OX w p (rowOf l (j + 1)) w3) := by rw [← unhide HTJ] at hO3; exact hO3
      clear hO3 hadd HO c1
      go_wp2
      go_roundg (gk - 1)
      case measure => have := unhide hj; omega
      case rel => exact ⟨j + 1, by have := unhide hj; unfold Hid; omega, by go_num, HO3⟩
    · have hjn : j = n := by have := unhide hj; omega
      have HOn : Hid (OX w p (rowOf l n) wr) := by rw [← hjn]; exact HO
      have hcn2 := rowOf_length l n
      have HML : Hid (∀ i, i < n → ∃ q, idx (rowOf l n) (tx l i) = some q) := fun i hi => idx_mem ((rowOf_mem l n _).2 ⟨i, hi, rfl⟩)
      clear HO hjn
      generalize rowOf l n = rs at *
      obtain ⟨c, hcn⟩ : ∃ c, Hid (rs.length = c) := ⟨_, rfl⟩
      rw [unhide hcn] at hcn2
      have hIt := (unhide HOn).items (by rw [unhide hcn]; omega)
      rw [unhide hcn] at hIt
      have HIt := hide hIt
      clear hIt
      go_wp2_with fail
      refine (unhide HIt).mono ?_
      rintro e w3 ⟨g, rfl, hg, hown, hO2, hB2, hS⟩
      have HRi : Hid (Rt w3 (.slice (some ⟨g, 0, none⟩) c c) rs) := Rt.own (by rw [unhide hcn]; exact hown)
      have HOwn := hide hown
      have HX := hide hO2
      have hg2 : w.heap.size ≤ g := Nat.le_trans (unhide HOn).bel.size hg
      have HOKr : Hid (∀ i, i < rs.length → (tx rs i).size ≤ maxLen) := fun i hi => by
        obtain ⟨_, b, v, h, _⟩ := hS
        exact h.ok _ (tx_mem hi)
      have hFr := hide (from_yes (unhide HRi) (unhide HOKr) (by rw [unhide hcn]; omega) hO2.nd)
      clear hown hO2 hB2 HIt HOn hg hS
      go_wp2_with fail
      refine (unhide hFr).mono ?_
      rintro e w4 ⟨py, rfl, hY⟩
      have HY := hide hY
      have HX4 := hide ((unhide HX).below hY.bel)
      have hLy := hY.len
      have hLx := (unhide HX4).len
      rw [unhide hcn] at hLx hLy
      have HLx := hide hLx
      have HLy := hide hLy
      clear hY hLx hLy hFr
      go_wp2_with fail
      refine (unhide HLy).mono ?_
      rintro e w5 ⟨rfl, hw5⟩
      rw [hw5]
      clear hw5 w5
      go_wp2_with fail
      refine (unhide HLx).mono ?_
      rintro e w5 ⟨rfl, hw5⟩
      rw [hw5]
      clear hw5 w5
      go_wp2
      go_loopg [10] n (fun g2 t10 wr => ∃ i : Nat, Hid (i + g2 = n) ∧ t10 = .int .i64 (i : Int) ∧ wr = w4)
      case atStart => exact ⟨0, by unfold Hid; omega, rfl, rfl⟩
      case round =>
        clear hj
        obtain ⟨i, hj, rfl, rfl⟩ := hrel
        by_cases hlt2 : i < n
        · obtain ⟨b, off, rfl, hb, hcl⟩ := unhide H i (by rw [unhide hn]; exact hlt2)
          have c1 : wr.cell? ⟨b, off + i, none⟩ = some (.string (tx l i)) := by rw [(unhide HX4).bel.cell (p := ⟨b, off + i, none⟩) hb, hcl]
          obtain ⟨q, hq⟩ := unhide HML i hlt2
          have hts := unhide HOK i (by rw [unhide hn]; exact hlt2)
          have hF1 := (unhide HX4).find (tx l i) hts
          have hF2 := (unhide HY).find (tx l i) hts
          rw [hq] at hF1 hF2
          simp only [Option.getD_some, Option.isSome_some] at hF1 hF2
          have HF1 := hide hF1
          have HF2 := hide hF2
          clear hq hF1 hF2 hcl hts
          obtain ⟨s, es⟩ : ∃ s, s = tx l i := ⟨_, rfl⟩
          rw [← es] at c1 HF1 HF2
          clear es
          have i0 : (0 : Int) ≤ (i : Int) := by omega
          have i1 : (i : Int) < (n : Int) := by omega
          go_wp2_with fail
          refine (unhide HF1).mono ?_
          rintro e w5 ⟨rfl, hw5⟩
          rw [hw5]
          clear hw5 w5
          go_wp2_with fail
          refine (unhide HF2).mono ?_
          rintro e w5 ⟨rfl, hw5⟩
          rw [hw5]
          clear hw5 w5
          go_wp2
          go_roundg (gk - 1)
          case measure => have := unhide hj; omega
          case rel => exact ⟨i + 1, by have := unhide hj; unfold Hid; omega, by go_num, rfl⟩
        · have hF1 := (unhide HX4).find t (unhide HTT)
          have hA := hide ((unhide HY).add t (unhide HTT) (by rw [unhide hcn]; omega))
          have hbn := bool_neq
          cases hix : idx rs t with
          | none =>
            rw [hix] at hF1
            simp only [Option.getD_none, Option.isSome_none] at hF1
            rw [(ins_new hix).1, (ins_new hix).2, unhide hcn] at hA
            have HF1 := hide hF1
            have HIX := hide hix
            clear hF1 hix
            go_wp2_with fail
            refine (unhide HF1).mono ?_
            rintro e w5 ⟨rfl, hw5⟩
            rw [hw5]
            clear hw5 w5
            go_wp2_with fail
            refine (unhide hA).mono ?_
            rintro e w5 ⟨rfl, hY5⟩
            have HX5 := hide ((unhide HX).below hY5.bel)
            have HB5 := hY5.bel
            have hF2 := (unhide HX5).find t (unhide HTT)
            rw [unhide HIX] at hF2
            simp only [Option.getD_none, Option.isSome_none, Option.getD_some, Option.isSome_some] at hF2
            have HF2 := hide hF2
            have hLx := (unhide HX5).len
            rw [unhide hcn] at hLx
            have HLx5 := hide hLx
            clear hF2 hLx
            have hLy := hY5.len
            rw [List.length_append, unhide hcn, List.length_singleton] at hLy
            have HLy5 := hide hLy
            clear hLy hY5
            go_wp2_with fail
            refine (unhide HF2).mono ?_
            rintro e w6 ⟨rfl, hw6⟩
            rw [hw6]
            clear hw6 w6
            go_wp2_with fail
            refine (unhide HLx5).mono ?_
            rintro e w6 ⟨rfl, hw6⟩
            rw [hw6]
            clear hw6 w6
            go_wp2_with fail
            refine (unhide HLy5).mono ?_
            rintro e w6 ⟨rfl, hw6⟩
            rw [hw6]
            clear hw6 w6
            go_wp2_with fail
            refine (unhide HLx5).mono ?_
            rintro e w6 ⟨rfl, hw6⟩
            rw [hw6]
            clear hw6 w6
            have HOwn5 : Hid (w5.ownsRow 0 9 1 (.slice (some ⟨g, 0, none⟩) c c) c (rs.map Value.string)) := own_keep (unhide HOwn) (fun k hk => HB5.block k ((unhide HOwn).lt k hk).2)
            have HB6 := hide (unhide HX5).bel
            clear HB5 HX5
            by_cases hc0 : c = 0
            · have hcz : ((c : Int) == 0) = true := by rw [hc0]; rfl
              clear hc0
              go_wp2
              go_ret
              exact ⟨rfl, unhide HB6⟩
            · have hcz : ((c : Int) == 0) = false := by rw [beq_eq_false_iff_ne]; omega
              have hcp : 0 < c := by omega
              have hh : c / 2 < c := by omega
              have c2 := (Rt.own (rs := rs) (by rw [unhide hcn]; exact unhide HOwn5)).cell0 (i := c / 2) (by rw [unhide hcn]; exact hh)
              have htw := hide (twice (rs := rs) (i := c / 2) (by rw [unhide hcn]; exact hh))
              have hts := hide (unhide HOKr (c / 2) (by rw [unhide hcn]; exact hh))
              obtain ⟨s, es⟩ : ∃ s, s = tx rs (c / 2) := ⟨_, rfl⟩
              rw [← es] at c2 htw hts
              clear es hc0
              obtain ⟨i0, hi0, hz0, hz1, hz2⟩ := info_parts Try.info9
              have cb : (0 : Int) ≤ (c : Int) := by omega
              have HC := hide hcn
              have HOs : Hid (∀ i, i < (rs ++ [s]).length → (tx (rs ++ [s]) i).size ≤ maxLen) := fun i hi => by
                by_cases q : i < rs.length
                · rw [tx_append_left q]; exact unhide HOKr i q
                · rw [show i = rs.length from by simp at hi; omega, tx_append_at]; exact unhide hts
              go_wp2_with (first | (at_builtin; refine wpList_append_own_at _ rfl _ _ 26 rfl 0 9 i0 _ 1 16 Try.underlying26 hi0 hz0 hz1 hz2 rfl (by decide) (.slice (some ⟨g, 0, none⟩) c c) c (rs.map Value.string) rfl ((unhide HOwn5).alloc _) ⟨w5.heap.size, 0, none⟩ 1 1 [.string s] rfl rfl (cell_one_new _ _ _) (by simp [Value.oneCell']) (by unfold maxLen; omega) (by omega) (Nat.zero_le _) ?_; intro v' w6 hown' hgrow hnil hloc; obtain ⟨gg, cap', rfl⟩ := own_slice hown'; have hFN := hide (from_no (w := w6) (v := .slice (some ⟨gg, 0, none⟩) (c + 1) cap') (l := rs ++ [s]) (by have := Rt.own (rs := rs ++ [s]) (v := .slice (some ⟨gg, 0, none⟩) (c + 1) cap') (w := w6) (base := 0) (by rw [List.length_append, unhide hcn, List.map_append]; exact hown'); exact this) (unhide HOs) (by rw [List.length_append, unhide hcn, List.length_singleton]; omega) (unhide htw)); have HB7 := hide (((unhide HB6).alloc (unhide HB6).size _).grown hgrow (Nat.le_trans (unhide HB6).size (by simp)) (fun k hk => by simp [Value.ownBlock] at hk; omega)); clear hown' hgrow hnil hloc) | fail)
              refine (unhide hFN).mono ?_
              rintro e w7 ⟨rfl, hB8⟩
              have HB8 := hide ((unhide HB7).trans (hB8.mono (unhide HB7).size))
              clear hB8
              go_wp2
              go_ret
              exact ⟨rfl, unhide HB8⟩
          | some q =>
            rw [hix] at hF1
            simp only [Option.getD_some, Option.isSome_some] at hF1
            rw [(ins_old hix).1, (ins_old hix).2] at hA
            have HF1 := hide hF1
            have HIX := hide hix
            clear hF1 hix
            go_wp2_with fail
            refine (unhide HF1).mono ?_
            rintro e w5 ⟨rfl, hw5⟩
            rw [hw5]
            clear hw5 w5
            go_wp2_with fail
            refine (unhide hA).mono ?_
            rintro e w5 ⟨rfl, hY5⟩
            have HX5 := hide ((unhide HX).below hY5.bel)
            have HB5 := hY5.bel
            have hF2 := (unhide HX5).find t (unhide HTT)
            rw [unhide HIX] at hF2
            simp only [Option.getD_none, Option.isSome_none, Option.getD_some, Option.isSome_some] at hF2
            have HF2 := hide hF2
            have hLx := (unhide HX5).len
            rw [unhide hcn] at hLx
            have HLx5 := hide hLx
            clear hF2 hLx
            clear hY5
            go_wp2_with fail
            refine (unhide HF2).mono ?_
            rintro e w6 ⟨rfl, hw6⟩
            rw [hw6]
            clear hw6 w6
            have HOwn5 : Hid (w5.ownsRow 0 9 1 (.slice (some ⟨g, 0, none⟩) c c) c (rs.map Value.string)) := own_keep (unhide HOwn) (fun k hk => HB5.block k ((unhide HOwn).lt k hk).2)
            have HB6 := hide (unhide HX5).bel
            clear HB5 HX5
            by_cases hc0 : c = 0
            · have hcz : ((c : Int) == 0) = true := by rw [hc0]; rfl
              clear hc0
              go_wp2
              go_ret
              exact ⟨rfl, unhide HB6⟩
            · have hcz : ((c : Int) == 0) = false := by rw [beq_eq_false_iff_ne]; omega
              have hcp : 0 < c := by omega
              have hh : c / 2 < c := by omega
              have c2 := (Rt.own (rs := rs) (by rw [unhide hcn]; exact unhide HOwn5)).cell0 (i := c / 2) (by rw [unhide hcn]; exact hh)
              have htw := hide (twice (rs := rs) (i := c / 2) (by rw [unhide hcn]; exact hh))
              have hts := hide (unhide HOKr (c / 2) (by rw [unhide hcn]; exact hh))
              obtain ⟨s, es⟩ : ∃ s, s = tx rs (c / 2) := ⟨_, rfl⟩
              rw [← es] at c2 htw hts
              clear es hc0
              obtain ⟨i0, hi0, hz0, hz1, hz2⟩ := info_parts Try.info9
              have cb : (0 : Int) ≤ (c : Int) := by omega
              have HC := hide hcn
              have HOs : Hid (∀ i, i < (rs ++ [s]).length → (tx (rs ++ [s]) i).size ≤ maxLen) := fun i hi => by
                by_cases q : i < rs.length
                · rw [tx_append_left q]; exact unhide HOKr i q
                · rw [show i = rs.length from by simp at hi; omega, tx_append_at]; exact unhide hts
              go_wp2_with (first | (at_builtin; refine wpList_append_own_at _ rfl _ _ 26 rfl 0 9 i0 _ 1 16 Try.underlying26 hi0 hz0 hz1 hz2 rfl (by decide) (.slice (some ⟨g, 0, none⟩) c c) c (rs.map Value.string) rfl ((unhide HOwn5).alloc _) ⟨w5.heap.size, 0, none⟩ 1 1 [.string s] rfl rfl (cell_one_new _ _ _) (by simp [Value.oneCell']) (by unfold maxLen; omega) (by omega) (Nat.zero_le _) ?_; intro v' w6 hown' hgrow hnil hloc; obtain ⟨gg, cap', rfl⟩ := own_slice hown'; have hFN := hide (from_no (w := w6) (v := .slice (some ⟨gg, 0, none⟩) (c + 1) cap') (l := rs ++ [s]) (by have := Rt.own (rs := rs ++ [s]) (v := .slice (some ⟨gg, 0, none⟩) (c + 1) cap') (w := w6) (base := 0) (by rw [List.length_append, unhide hcn, List.map_append]; exact hown'); exact this) (unhide HOs) (by rw [List.length_append, unhide hcn, List.length_singleton]; omega) (unhide htw)); have HB7 := hide (((unhide HB6).alloc (unhide HB6).size _).grown hgrow (Nat.le_trans (unhide HB6).size (by simp)) (fun k hk => by simp [Value.ownBlock] at hk; omega)); clear hown' hgrow hnil hloc) | fail)
              refine (unhide hFN).mono ?_
              rintro e w7 ⟨rfl, hB8⟩
              have HB8 := hide ((unhide HB7).trans (hB8.mono (unhide HB7).size))
              clear hB8
              go_wp2
              go_ret
              exact ⟨rfl, unhide HB8⟩
end Go.Proofs.Ythmcalapofjmfaa
