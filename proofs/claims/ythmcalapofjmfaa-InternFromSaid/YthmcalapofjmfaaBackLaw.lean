/-
  P5.2 to P5.5.
-/
import Derived.Test.YthmcalapofjmfaaLives
namespace Go.Proofs.Ythmcalapofjmfaa
open Go.RowKit Go.Maps
set_option linter.unusedVariables false
set_option linter.unusedSimpArgs false

theorem ins_num {rs : List ByteArray} {t : ByteArray} : num rs t < (ins rs t).length ∧ tx (ins rs t) (num rs t) = t := idx_some num_idx
theorem ins_only {rs : List ByteArray} {t : ByteArray} (hd : rs.Nodup) {i : Nat} (hi : i < (ins rs t).length) (e : tx (ins rs t) i = t) : i = num rs t := by
  have h1 := idx_at (ins_nodup (s := t) hd) hi
  rw [e, num_idx] at h1
  cases h1
  rfl
theorem ins_front {rs : List ByteArray} {t : ByteArray} {i : Nat} (hi : i < rs.length) : tx (ins rs t) i = tx rs i := by
  cases e : idx rs t with
  | some j => rw [(ins_old e).1]
  | none => rw [(ins_new e).1, tx_append_left hi]
theorem bool_neq : ∀ (b c : Bool) (w : World), (binOp .neq 4 (.bool b) (.bool c)).run Try.prog w = .ok (.bool (b != c)) w := fun b c w => by cases b <;> cases c <;> kernel_rfl
theorem eqs_self (s : ByteArray) : (s.toList == s.toList) = true := by simp

set_option maxRecDepth 100000 in
set_option maxHeartbeats 3200000 in
theorem back_walk {w : World} {v : Value} {l : List ByteArray} (h : Rt w v l) (hok : ∀ i, i < l.length → (tx l i).size ≤ maxLen) (hM : l.length ≤ 8796093021952) (t : ByteArray) (ht : t.size ≤ maxLen) :
    Calls Try.prog 6 #[v, .string t] w fun e w' => e = .returned (.bool true) ∧ Below w.heap.size w w' := by
  have HR := hide h
  have HOK := hide hok
  have HTT := hide ht
  obtain ⟨a, cap, rfl, h1, h2, h3⟩ := h
  obtain ⟨n, hn⟩ : ∃ n, Hid (l.length = n) := ⟨_, rfl⟩
  have HRn : Hid (Rt w (.slice a n cap) l) := by rw [← unhide hn]; exact unhide HR
  rw [unhide hn] at h1 hM ⊢
  unfold maxLen at h2
  have H := hide h3
  clear h3 hok HR ht
  have hNew := hide (OX.new w w (Below.refl _ _))
  go_enter Try.func6, Try.ntmps6
  go_wp2_with fail
  refine (unhide hNew).mono ?_
  rintro e w1 ⟨p, rfl, hp, hO⟩
  have hL := hide (lives_any w1)
  have HO1 := hide hO
  clear hO hNew hp
  go_wp2_with fail
  refine (unhide hL).mono ?_
  rintro e w2 ⟨rfl, hB⟩
  have HO : Hid (OX w p (rowOf l 0) w2) := (unhide HO1).below hB
  clear hL HO1 hB
  go_wp2
  go_loopg [6] n (fun g t6 wr => ∃ j : Nat, Hid (j + g = n) ∧ t6 = .int .i64 (j : Int) ∧ Hid (OX w p (rowOf l j) wr))
  case atStart => exact ⟨0, by unfold Hid; omega, rfl, HO⟩
  case round =>
    clear HO
    obtain ⟨j, hj, rfl, HO⟩ := hrel
    by_cases hlt : j < n
    · obtain ⟨b, off, rfl, hb, hcl⟩ := unhide H j (by rw [unhide hn]; exact hlt)
      have c1 : wr.cell? ⟨b, off + j, none⟩ = some (.string (tx l j)) := by rw [(unhide HO).bel.cell (p := ⟨b, off + j, none⟩) hb, hcl]
      have hadd := hide ((unhide HO).add (tx l j) (unhide HOK j (by rw [unhide hn]; exact hlt)) (by have := rowOf_length l j; omega))
      obtain ⟨tj, HTJ⟩ : ∃ tj, Hid (tx l j = tj) := ⟨_, rfl⟩
      rw [unhide HTJ] at c1 hadd
      have i0 : (0 : Int) ≤ (j : Int) := by omega
      have i1 : (j : Int) < (n : Int) := by omega
      clear hcl
      go_wp2_with fail
      refine (unhide hadd).mono ?_
      rintro e w3 ⟨rfl, hO3⟩
      have HO3 : Hid (OX w p (rowOf l (j + 1)) w3) := by rw [← unhide HTJ] at hO3; exact hO3
      clear hO3 hadd HO c1
      go_wp2
      go_roundg (gk - 1)
      case measure => have := unhide hj; omega
      case rel => exact ⟨j + 1, by have := unhide hj; unfold Hid; omega, by go_num, HO3⟩
    · have hjn : j = n := by have := unhide hj; omega
      have HOn : Hid (OX w p (rowOf l n) wr) := by rw [← hjn]; exact HO
      have hcn2 := rowOf_length l n
      clear HO hjn
      generalize rowOf l n = rs at *
      obtain ⟨c, hcn⟩ : ∃ c, Hid (rs.length = c) := ⟨_, rfl⟩
      rw [unhide hcn] at hcn2
      have hIt := (unhide HOn).items (by rw [unhide hcn]; omega)
      rw [unhide hcn] at hIt
      have HIt := hide hIt
      clear hIt
      go_wp2_with fail
      refine (unhide HIt).mono ?_
      rintro e w3 ⟨g, rfl, hg, hown, hO2, hB2, hS⟩
      have HRi : Hid (Rt w3 (.slice (some ⟨g, 0, none⟩) c c) rs) := Rt.own (by rw [unhide hcn]; exact hown)
      have HBel := hide hO2.bel
      have HS := hide hS
      have HND := hide hO2.nd
      have hF := hO2.find t (unhide HTT)
      clear hown hO2 hB2 HIt HOn hg hS
      have hadd := hide ((unhide HS).add t (unhide HTT) (by rw [unhide hcn]; omega))
      have bk1 := hide (ins_num (rs := rs) (t := t))
      have bk2 : Hid (∀ i, i < (ins rs t).length → tx (ins rs t) i = t → i = num rs t) := fun i hi e => ins_only (unhide HND) hi e
      have bk3 : Hid (∀ i, i < c → tx (ins rs t) i = tx rs i) := fun i hi => ins_front (by rw [unhide hcn]; exact hi)
      have bk4 := hide (num_idx (rs := rs) (s := t))
      have HCI : Hid (∀ W : World, Fr (fun k => ¬ (k < w.heap.size ∨ k = g)) w3 W → Below w.heap.size w W ∧ ∀ i, i < c → W.cell? ⟨g, i, none⟩ = some (.string (tx rs i))) := fun W hW =>
        ⟨(unhide HBel).trans (hW.below (unhide HBel).size (fun k hk e => e (.inl hk))), fun i hi => by
          rw [hW.cell (a := ⟨g, i, none⟩) ((unhide HS).1 g (.inr rfl)) (fun e => e (.inr rfl))]
          exact (unhide HRi).cell0 (by rw [unhide hcn]; exact hi)⟩
      clear HRi HBel HND HS
      cases hix : idx rs t with
      | none =>
        have hln : Hid ((ins rs t).length = c + 1) := by rw [(ins_new hix).1, List.length_append, unhide hcn]; rfl
        rw [hix] at hF
        simp only [Option.getD_none, Option.isSome_none, Option.getD_some, Option.isSome_some] at hF
        have HF := hide hF
        clear hF hix
        go_wp2_with fail
        refine (unhide HF).mono ?_
        rintro e w4 ⟨rfl, hw4⟩
        rw [hw4]
        clear hw4 w4 HF
        go_wp2_with fail
        refine (unhide hadd).mono ?_
        rintro e w4 ⟨rfl, hO4, hF4⟩
        obtain ⟨hBW, hCells⟩ := unhide HCI w4 hF4
        clear hF4 HCI hadd
        generalize num rs t = m at *
        have H4 := hide hO4
        clear hO4
        obtain ⟨rs2, hrs2⟩ : ∃ rs2, rs2 = ins rs t := ⟨_, rfl⟩
        rw [← hrs2] at H4 bk1 bk2 bk3 bk4 hln
        clear hrs2
        have hm : m < c + 1 := by rw [← unhide hln]; exact (unhide bk1).1
        have htm := (unhide bk1).2
        have HTM := hide htm
        have hL := (unhide H4).len
        rw [unhide hln] at hL
        have HL := hide hL
        have hAt := (unhide H4).at_in m (unhide bk1).1 (by rw [unhide hln]; omega)
        rw [htm] at hAt
        have HAt := hide hAt
        have hF := (unhide H4).find t (unhide HTT)
        rw [unhide bk4] at hF
        simp only [Option.getD_some, Option.isSome_some] at hF
        have HF := hide hF
        have HCells := hide hCells
        have HBW := hide hBW
        clear hL hAt htm hF hCells hBW bk1 bk4
        go_wp2_with fail
        refine (unhide HL).mono ?_
        rintro e w5 ⟨rfl, hw5⟩
        rw [hw5]
        clear hw5 w5
        go_wp2_with fail
        refine (unhide HAt).mono ?_
        rintro e w5 ⟨rfl, hw5⟩
        rw [hw5]
        clear hw5 w5 HAt
        go_wp2_with fail
        refine (unhide HF).mono ?_
        rintro e w5 ⟨rfl, hw5⟩
        rw [hw5]
        clear hw5 w5 HF
        go_wp2
        go_loopg [16] (c + 1) (fun g t16 wr => ∃ i : Nat, Hid (i + g = c + 1) ∧ t16 = .int .i64 (i : Int) ∧ wr = w4)
        case atStart => exact ⟨0, by unfold Hid; omega, rfl, rfl⟩
        case round =>
          clear hj
          obtain ⟨i, hj, rfl, rfl⟩ := hrel
          by_cases hlt2 : i < c + 1
          · have hAt := hide ((unhide H4).at_in i (by rw [unhide hln]; exact hlt2) (by rw [unhide hln]; omega))
            have hbn := bool_neq
            have o1 := unhide bk2 i (by rw [unhide hln]; exact hlt2)
            have o2 : i < c → wr.cell? ⟨g, i, none⟩ = some (.string (tx rs2 i)) := fun hi => by rw [unhide HCells i hi, unhide bk3 i hi]
            have htm : i = m → tx rs2 i = t := fun e => by rw [e]; exact unhide HTM
            have i0 : (0 : Int) ≤ (i : Int) := by omega
            generalize tx rs2 i = s at *
            by_cases him : i = m
            · have e := htm him
              clear htm
              subst e
              have hie : ((i : Int) == (m : Int)) = true := by rw [him]; simp
              have HIM := hide him
              clear him o1
              by_cases hic : i < c
              · have c1 := o2 hic
                have i1 : (i : Int) < (c : Int) := by omega
                clear o2
                go_wp2_with fail
                refine (unhide HL).mono ?_
                rintro e w5 ⟨rfl, hw5⟩
                rw [hw5]
                clear hw5 w5
                go_wp2_with fail
                refine (unhide hAt).mono ?_
                rintro e w5 ⟨rfl, hw5⟩
                rw [hw5]
                clear hw5 w5
                go_wp2
                go_roundg (gk - 1)
                case measure => have := unhide hj; omega
                case rel => exact ⟨i + 1, by have := unhide hj; unfold Hid; omega, by go_num, rfl⟩
              · clear o2
                go_wp2_with fail
                refine (unhide HL).mono ?_
                rintro e w5 ⟨rfl, hw5⟩
                rw [hw5]
                clear hw5 w5
                go_wp2_with fail
                refine (unhide hAt).mono ?_
                rintro e w5 ⟨rfl, hw5⟩
                rw [hw5]
                clear hw5 w5
                go_wp2
                go_roundg (gk - 1)
                case measure => have := unhide hj; omega
                case rel => exact ⟨i + 1, by have := unhide hj; unfold Hid; omega, by go_num, rfl⟩
            · have hst := eqs_no (fun e => him (o1 e))
              have hie : ((i : Int) == (m : Int)) = false := by rw [beq_eq_false_iff_ne]; omega
              clear htm o1 him
              by_cases hic : i < c
              · have c1 := o2 hic
                have i1 : (i : Int) < (c : Int) := by omega
                clear o2
                go_wp2_with fail
                refine (unhide HL).mono ?_
                rintro e w5 ⟨rfl, hw5⟩
                rw [hw5]
                clear hw5 w5
                go_wp2_with fail
                refine (unhide hAt).mono ?_
                rintro e w5 ⟨rfl, hw5⟩
                rw [hw5]
                clear hw5 w5
                go_wp2
                go_roundg (gk - 1)
                case measure => have := unhide hj; omega
                case rel => exact ⟨i + 1, by have := unhide hj; unfold Hid; omega, by go_num, rfl⟩
              · clear o2
                go_wp2_with fail
                refine (unhide HL).mono ?_
                rintro e w5 ⟨rfl, hw5⟩
                rw [hw5]
                clear hw5 w5
                go_wp2_with fail
                refine (unhide hAt).mono ?_
                rintro e w5 ⟨rfl, hw5⟩
                rw [hw5]
                clear hw5 w5
                go_wp2
                go_roundg (gk - 1)
                case measure => have := unhide hj; omega
                case rel => exact ⟨i + 1, by have := unhide hj; unfold Hid; omega, by go_num, rfl⟩
          · have hA1 := hide ((unhide H4).at_out (-1) (.inl (by omega)))
            have hA2 := (unhide H4).at_out (c + 1 : Nat) (.inr (by rw [unhide hln]; exact Int.le_refl _))
            have HA2 := hide hA2
            clear hA2
            go_wp2_with fail
            refine (unhide HL).mono ?_
            rintro e w5 ⟨rfl, hw5⟩
            rw [hw5]
            clear hw5 w5
            go_wp2_with fail
            refine (unhide hA1).mono ?_
            rintro e w5 ⟨rfl, hw5⟩
            rw [hw5]
            clear hw5 w5
            go_wp2_with fail
            refine (unhide HL).mono ?_
            rintro e w5 ⟨rfl, hw5⟩
            rw [hw5]
            clear hw5 w5
            go_wp2_with fail
            refine (unhide HA2).mono ?_
            rintro e w5 ⟨rfl, hw5⟩
            rw [hw5]
            clear hw5 w5
            go_wp2
            go_ret
            exact ⟨rfl, unhide HBW⟩
      | some q =>
        have hln : Hid ((ins rs t).length = c) := by rw [(ins_old hix).1, unhide hcn]; rfl
        rw [hix] at hF
        simp only [Option.getD_none, Option.isSome_none, Option.getD_some, Option.isSome_some] at hF
        have HF := hide hF
        clear hF hix
        go_wp2_with fail
        refine (unhide HF).mono ?_
        rintro e w4 ⟨rfl, hw4⟩
        rw [hw4]
        clear hw4 w4 HF
        go_wp2_with fail
        refine (unhide hadd).mono ?_
        rintro e w4 ⟨rfl, hO4, hF4⟩
        obtain ⟨hBW, hCells⟩ := unhide HCI w4 hF4
        clear hF4 HCI hadd
        generalize num rs t = m at *
        have H4 := hide hO4
        clear hO4
        obtain ⟨rs2, hrs2⟩ : ∃ rs2, rs2 = ins rs t := ⟨_, rfl⟩
        rw [← hrs2] at H4 bk1 bk2 bk3 bk4 hln
        clear hrs2
        have hm : m < c := by rw [← unhide hln]; exact (unhide bk1).1
        have htm := (unhide bk1).2
        have HTM := hide htm
        have hL := (unhide H4).len
        rw [unhide hln] at hL
        have HL := hide hL
        have hAt := (unhide H4).at_in m (unhide bk1).1 (by rw [unhide hln]; omega)
        rw [htm] at hAt
        have HAt := hide hAt
        have hF := (unhide H4).find t (unhide HTT)
        rw [unhide bk4] at hF
        simp only [Option.getD_some, Option.isSome_some] at hF
        have HF := hide hF
        have HCells := hide hCells
        have HBW := hide hBW
        clear hL hAt htm hF hCells hBW bk1 bk4
        go_wp2_with fail
        refine (unhide HL).mono ?_
        rintro e w5 ⟨rfl, hw5⟩
        rw [hw5]
        clear hw5 w5
        go_wp2_with fail
        refine (unhide HAt).mono ?_
        rintro e w5 ⟨rfl, hw5⟩
        rw [hw5]
        clear hw5 w5 HAt
        go_wp2_with fail
        refine (unhide HF).mono ?_
        rintro e w5 ⟨rfl, hw5⟩
        rw [hw5]
        clear hw5 w5 HF
        go_wp2
        go_loopg [16] (c) (fun g t16 wr => ∃ i : Nat, Hid (i + g = c) ∧ t16 = .int .i64 (i : Int) ∧ wr = w4)
        case atStart => exact ⟨0, by unfold Hid; omega, rfl, rfl⟩
        case round =>
          clear hj
          obtain ⟨i, hj, rfl, rfl⟩ := hrel
          by_cases hlt2 : i < c
          · have hAt := hide ((unhide H4).at_in i (by rw [unhide hln]; exact hlt2) (by rw [unhide hln]; omega))
            have hbn := bool_neq
            have o1 := unhide bk2 i (by rw [unhide hln]; exact hlt2)
            have o2 : i < c → wr.cell? ⟨g, i, none⟩ = some (.string (tx rs2 i)) := fun hi => by rw [unhide HCells i hi, unhide bk3 i hi]
            have htm : i = m → tx rs2 i = t := fun e => by rw [e]; exact unhide HTM
            have i0 : (0 : Int) ≤ (i : Int) := by omega
            generalize tx rs2 i = s at *
            by_cases him : i = m
            · have e := htm him
              clear htm
              subst e
              have hie : ((i : Int) == (m : Int)) = true := by rw [him]; simp
              have HIM := hide him
              clear him o1
              by_cases hic : i < c
              · have c1 := o2 hic
                have i1 : (i : Int) < (c : Int) := by omega
                clear o2
                go_wp2_with fail
                refine (unhide HL).mono ?_
                rintro e w5 ⟨rfl, hw5⟩
                rw [hw5]
                clear hw5 w5
                go_wp2_with fail
                refine (unhide hAt).mono ?_
                rintro e w5 ⟨rfl, hw5⟩
                rw [hw5]
                clear hw5 w5
                go_wp2
                go_roundg (gk - 1)
                case measure => have := unhide hj; omega
                case rel => exact ⟨i + 1, by have := unhide hj; unfold Hid; omega, by go_num, rfl⟩
              · exact absurd hlt2 hic
            · have hst := eqs_no (fun e => him (o1 e))
              have hie : ((i : Int) == (m : Int)) = false := by rw [beq_eq_false_iff_ne]; omega
              clear htm o1 him
              by_cases hic : i < c
              · have c1 := o2 hic
                have i1 : (i : Int) < (c : Int) := by omega
                clear o2
                go_wp2_with fail
                refine (unhide HL).mono ?_
                rintro e w5 ⟨rfl, hw5⟩
                rw [hw5]
                clear hw5 w5
                go_wp2_with fail
                refine (unhide hAt).mono ?_
                rintro e w5 ⟨rfl, hw5⟩
                rw [hw5]
                clear hw5 w5
                go_wp2
                go_roundg (gk - 1)
                case measure => have := unhide hj; omega
                case rel => exact ⟨i + 1, by have := unhide hj; unfold Hid; omega, by go_num, rfl⟩
              · exact absurd hlt2 hic
          · have hA1 := hide ((unhide H4).at_out (-1) (.inl (by omega)))
            have hA2 := (unhide H4).at_out (c : Nat) (.inr (by rw [unhide hln]; exact Int.le_refl _))
            have HA2 := hide hA2
            clear hA2
            go_wp2_with fail
            refine (unhide HL).mono ?_
            rintro e w5 ⟨rfl, hw5⟩
            rw [hw5]
            clear hw5 w5
            go_wp2_with fail
            refine (unhide hA1).mono ?_
            rintro e w5 ⟨rfl, hw5⟩
            rw [hw5]
            clear hw5 w5
            go_wp2_with fail
            refine (unhide HL).mono ?_
            rintro e w5 ⟨rfl, hw5⟩
            rw [hw5]
            clear hw5 w5
            go_wp2_with fail
            refine (unhide HA2).mono ?_
            rintro e w5 ⟨rfl, hw5⟩
            rw [hw5]
            clear hw5 w5
            go_wp2
            go_ret
            exact ⟨rfl, unhide HBW⟩
end Go.Proofs.Ythmcalapofjmfaa
