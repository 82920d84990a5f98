/-
  P5.6.
-/
import Derived.Test.YthmcalapofjmfaaLives
import Derived.Test.YthmcalapofjmfaaCut
import Derived.Test.YthmcalapofjmfaaBackLaw
namespace Go.Proofs.Ythmcalapofjmfaa
open Go.RowKit Go.Maps
set_option linter.unusedVariables false
set_option linter.unusedSimpArgs false

theorem OXS.cut {S : Nat → Prop} {p : Nat} {rs : List ByteArray} {w : World} (h : OXS S p rs w) (z : Int) (hM : rs.length ≤ 140737488355328) : Calls Try.prog 32 #[.pointer (some ⟨p, 0, none⟩), .int .i64 z] w fun e w' =>
    e = .returned (.tuple #[]) ∧ OXS S p (rs.take z.toNat) w' ∧ Fr (fun k => ¬ S k) w w' := by
  obtain ⟨h0, b, v, h1, h2⟩ := h
  refine (cut_any h1 z hM).mono fun e w' ⟨he, v', hi, hst⟩ => ⟨he, ⟨fun k hk => Nat.lt_of_lt_of_le (h0 k hk) hst.fr.size, b, v', hi, ?_⟩, hst.fr.mono (fun k _ hk => h2 k hk)⟩
  rintro k (e | e | e) hS
  · exact h2 k (.inl e) hS
  · exact h2 k (.inr (.inl e)) hS
  · rcases hst.row with q | q
    · exact h2 k (.inr (.inr (q ▸ e))) hS
    · have := q k e; have := h0 k hS; omega

theorem tx_inj {rs : List ByteArray} (hd : rs.Nodup) {i j : Nat} (hi : i < rs.length) (hj : j < rs.length) (e : tx rs i = tx rs j) : i = j := by
  have h1 := idx_at hd hi
  rw [e, idx_at hd hj] at h1
  cases h1
  rfl
theorem idx_cut {rs : List ByteArray} (hd : rs.Nodup) {st i : Nat} (hi : i < rs.length) : idx (rs.take st) (tx rs i) = if i < st then some i else none := by
  rw [idx_take _ _ _ hd, idx_at hd hi]
  by_cases h : i < st <;> simp [Option.filter, h]

/-- The first st, then m from behind. -/
def bk (rs : List ByteArray) (st m : Nat) : List ByteArray := rs.take st ++ (List.range m).map (fun q => tx rs (rs.length - 1 - q))
theorem bk_zero (rs : List ByteArray) (st : Nat) : bk rs st 0 = rs.take st := by simp [bk]
theorem bk_length {rs : List ByteArray} {st : Nat} (h : st ≤ rs.length) (m : Nat) : (bk rs st m).length = st + m := by simp [bk]; omega
theorem bk_new {rs : List ByteArray} (hd : rs.Nodup) {st m i : Nat} (hs : st ≤ rs.length) (hm : st + m < rs.length) (hi : i = rs.length - 1 - m) : idx (bk rs st m) (tx rs i) = none := by
  subst hi
  refine idx_none.2 (fun h => ?_)
  rcases List.mem_append.1 h with q | q
  · obtain ⟨i, hi, e⟩ := mem_tx q
    have hi2 : i < st ∧ i < rs.length := by simp at hi; omega
    rw [tx_take hi2.1] at e
    have := tx_inj hd hi2.2 (by omega) e
    omega
  · obtain ⟨q, hq, e⟩ := List.mem_map.1 q
    rw [List.mem_range] at hq
    have := tx_inj hd (by omega) (by omega) e
    omega
theorem bk_step {rs : List ByteArray} {st m i : Nat} (hi : i = rs.length - 1 - m) (h : idx (bk rs st m) (tx rs i) = none) : ins (bk rs st m) (tx rs i) = bk rs st (m + 1) := by
  rw [(ins_new h).1, hi]
  simp [bk, List.range_succ]

set_option maxRecDepth 100000 in
set_option maxHeartbeats 3200000 in
theorem cut_walk {w : World} {v : Value} {l : List ByteArray} (h : Rt w v l) (hok : ∀ i, i < l.length → (tx l i).size ≤ maxLen) (hM : l.length ≤ 8796093021952) (z : Int) (hz1 : -9223372036854775808 ≤ z) (hz2 : z ≤ 9223372036854775807) :
    Calls Try.prog 7 #[v, .int .i64 z] w fun e w' => e = .returned (.bool true) ∧ Below w.heap.size w w' := by
  have HR := hide h
  have HOK := hide hok
  obtain ⟨a, cap, rfl, h1, h2, h3⟩ := h
  obtain ⟨n, hn⟩ : ∃ n, Hid (l.length = n) := ⟨_, rfl⟩
  have HRn : Hid (Rt w (.slice a n cap) l) := by rw [← unhide hn]; exact unhide HR
  rw [unhide hn] at h1 hM ⊢
  unfold maxLen at h2
  have H := hide h3
  clear h3 hok HR
  have hNew := hide (OX.new w w (Below.refl _ _))
  go_enter Try.func7, Try.ntmps7
  go_wp2_with fail
  refine (unhide hNew).mono ?_
  rintro e w1 ⟨p, rfl, hp, hO⟩
  have hL := hide (lives_any w1)
  have HO1 := hide hO
  clear hO hNew hp
  go_wp2_with fail
  refine (unhide hL).mono ?_
  rintro e w2 ⟨rfl, hB⟩
  have HO : Hid (OX w p (rowOf l 0) w2) := (unhide HO1).below hB
  clear hL HO1 hB
  go_wp2
  go_loopg [6] n (fun g t6 wr => ∃ j : Nat, Hid (j + g = n) ∧ t6 = .int .i64 (j : Int) ∧ Hid (OX w p (rowOf l j) wr))
  case atStart => exact ⟨0, by unfold Hid; omega, rfl, HO⟩
  case round =>
    clear HO
    obtain ⟨j, hj, rfl, HO⟩ := hrel
    by_cases hlt : j < n
    · obtain ⟨b, off, rfl, hb, hcl⟩ := unhide H j (by rw [unhide hn]; exact hlt)
      have c1 : wr.cell? ⟨b, off + j, none⟩ = some (.string (tx l j)) := by rw [(unhide HO).bel.cell (p := ⟨b, off + j, none⟩) hb, hcl]
      have hadd := hide ((unhide HO).add (tx l j) (unhide HOK j (by rw [unhide hn]; exact hlt)) (by have := rowOf_length l j; omega))
      obtain ⟨tj, HTJ⟩ : ∃ tj, Hid (tx l j = tj) := ⟨_, rfl⟩
      rw [unhide HTJ] at c1 hadd
      have i0 : (0 : Int) ≤ (j : Int) := by omega
      have i1 : (j : Int) < (n : Int) := by omega
      clear hcl
      go_wp2_with fail
      refine (unhide hadd).mono ?_
      rintro e w3 ⟨rfl, hO3⟩
      have HO3 : Hid (OX w p (rowOf l (j + 1)) w3) := by rw [← unhide HTJ] at hO3; exact hO3
      clear hO3 hadd HO c1
      go_wp2
      go_roundg (gk - 1)
      case measure => have := unhide hj; omega
      case rel => exact ⟨j + 1, by have := unhide hj; unfold Hid; omega, by go_num, HO3⟩
    · have hjn : j = n := by have := unhide hj; omega
      have HOn : Hid (OX w p (rowOf l n) wr) := by rw [← hjn]; exact HO
      have hcn2 := rowOf_length l n
      clear HO hjn
      generalize rowOf l n = rs at *
      obtain ⟨c, hcn⟩ : ∃ c, Hid (rs.length = c) := ⟨_, rfl⟩
      rw [unhide hcn] at hcn2
      have hIt := (unhide HOn).items (by rw [unhide hcn]; omega)
      rw [unhide hcn] at hIt
      have HIt := hide hIt
      clear hIt
      go_wp2_with fail
      refine (unhide HIt).mono ?_
      rintro e w3 ⟨g, rfl, hg, hown, hO2, hB2, hS⟩
      have HRi : Hid (Rt w3 (.slice (some ⟨g, 0, none⟩) c c) rs) := Rt.own (by rw [unhide hcn]; exact hown)
      have HBel := hide hO2.bel
      have HND := hide hO2.nd
      have HCI : Hid (∀ W : World, Fr (fun k => ¬ (k < w.heap.size ∨ k = g)) w3 W → Below w.heap.size w W ∧ ∀ i, i < c → W.cell? ⟨g, i, none⟩ = some (.string (tx rs i))) := fun W hW =>
        ⟨(unhide HBel).trans (hW.below (unhide HBel).size (fun k hk e => e (.inl hk))), fun i hi => by
          rw [hW.cell (a := ⟨g, i, none⟩) (hS.1 g (.inr rfl)) (fun e => e (.inr rfl))]
          exact (unhide HRi).cell0 (by rw [unhide hcn]; exact hi)⟩
      have HOKr : Hid (∀ i, i < c → (tx rs i).size ≤ maxLen) := fun i hi => by
        obtain ⟨_, b, v, h, _⟩ := hS
        exact h.ok _ (tx_mem (by rw [unhide hcn]; exact hi))
      by_cases hz : (c : Int) ≤ z
      · have hCut := (hS.cut z (by rw [unhide hcn]; omega))
        have etk : rs.take (z).toNat = rs.take c := by rw [take_toNat (by rw [unhide hcn]; omega), ← unhide hcn, List.take_length]
        rw [etk] at hCut
        have HCut := hide hCut
        clear hown hO2 hB2 HIt HOn hg hS etk hCut HRi HBel
        go_wp2_with fail
        refine (unhide HCut).mono ?_
        rintro e w4 ⟨rfl, hO4, hF4⟩
        have hln : Hid ((rs.take c).length = c) := by unfold Hid; rw [List.length_take, unhide hcn]; omega
        have hL := hO4.len
        rw [unhide hln] at hL
        have HL := hide hL
        have H4 := hide hO4
        have HF4 := hide hF4
        clear hO4 hF4 hL HCut
        go_wp2_with fail
        refine (unhide HL).mono ?_
        rintro e w5 ⟨rfl, hw5⟩
        rw [hw5]
        clear hw5 w5 HL
        go_wp2
        go_loopg [9] c (fun g2 t9 wr => ∃ i : Nat, Hid (i + g2 = c) ∧ t9 = .int .i64 (i : Int) ∧ wr = w4)
        case atStart => exact ⟨0, by unfold Hid; omega, rfl, rfl⟩
        case round =>
          clear hj
          obtain ⟨i, hj, rfl, rfl⟩ := hrel
          by_cases hlt2 : i < c
          · have c1 := (unhide HCI wr (unhide HF4)).2 i hlt2
            have hix := idx_cut (unhide HND) (st := c) (i := i) (by rw [unhide hcn]; exact hlt2)
            have hts := hide (unhide HOKr i hlt2)
            obtain ⟨s, es⟩ : ∃ s, s = tx rs i := ⟨_, rfl⟩
            rw [← es] at c1 hix hts
            have hF := (unhide H4).find s (unhide hts)
            have hbn := bool_neq
            have i0 : (0 : Int) ≤ (i : Int) := by omega
            have i1 : (i : Int) < (c : Int) := by omega
            have hst : i < c := hlt2
            rw [if_pos hst] at hix
            rw [hix] at hF
            simp only [Option.getD_some, Option.isSome_some] at hF
            have HF := hide hF
            clear hF hix es
            go_wp2_with fail
            refine (unhide HF).mono ?_
            rintro e w5 ⟨rfl, hw5⟩
            rw [hw5]
            clear hw5 w5 HF
            go_wp2
            go_roundg (gk - 1)
            case measure => have := unhide hj; omega
            case rel => exact ⟨i + 1, by have := unhide hj; unfold Hid; omega, by go_num, rfl⟩
          · have H5 : Hid (OXS (fun k => k < w.heap.size ∨ k = g) p (bk rs c 0) wr) := by rw [bk_zero]; exact H4
            clear H4 hj
            go_wp2
            go_loopg [12] c (fun g2 t12 wr => ∃ (m : Nat) (zi : Int), Hid (zi = (c : Int) - 1 - (m : Int)) ∧ Hid (m + g2 = c) ∧ c + m ≤ c ∧ t12 = .int .i64 zi ∧ -1 ≤ zi ∧ zi < (c : Int) ∧ Hid (OXS (fun k => k < w.heap.size ∨ k = g) p (bk rs c m) wr) ∧ Hid (Fr (fun k => ¬ (k < w.heap.size ∨ k = g)) w3 wr))
            case atStart => exact ⟨0, (c : Int) - 1, by unfold Hid; omega, by unfold Hid; omega, by omega, rfl, by omega, by omega, H5, HF4⟩
            case round =>
              clear H5 HF4
              obtain ⟨m, zi, hzi, hj, hmc, rfl, z0, z1, H5, HF4⟩ := hrel
              have hln5 : Hid ((bk rs c m).length = c + m) := bk_length (by rw [unhide hcn]; omega) m
              by_cases hlt3 : (c : Int) ≤ zi
              · obtain ⟨i, rfl⟩ : ∃ i : Nat, zi = (i : Int) := ⟨zi.toNat, by omega⟩
                have him : Hid (i = rs.length - 1 - m) := by have := unhide hzi; unfold Hid; rw [unhide hcn]; omega
                have hic : i < c := by omega
                have hnew := hide (bk_new (unhide HND) (st := c) (m := m) (i := i) (by rw [unhide hcn]; omega) (by rw [unhide hcn]; have := unhide hzi; omega) (unhide him))
                have hstp := hide (bk_step (unhide him) (unhide hnew))
                have hA := (unhide H5).add (tx rs i) (unhide HOKr i hic) (by rw [unhide hln5]; omega)
                rw [unhide hstp, (ins_new (unhide hnew)).2, unhide hln5] at hA
                have c1 := (unhide HCI wr (unhide HF4)).2 i hic
                obtain ⟨r, er⟩ : ∃ r : Nat, r = c + m := ⟨_, rfl⟩
                rw [← er] at hA
                have q : ((r : Int) != ((c : Int) + (c : Int) - 1 - (i : Int))) = false := by rw [bne_eq_false_iff_eq, er]; have := unhide hzi; omega
                obtain ⟨s, es⟩ : ∃ s, s = tx rs i := ⟨_, rfl⟩
                rw [← es] at c1 hA
                have HA := hide hA
                have hrb : r ≤ c := by omega
                have hmm : c + (m + 1) ≤ c := by have := unhide hzi; omega
                have i0 : (0 : Int) ≤ (i : Int) := by omega
                clear hA es er
                go_wp2_with fail
                refine (unhide HA).mono ?_
                rintro e w5 ⟨rfl, hO6, hF6⟩
                have H6 := hide hO6
                have HF6 := hide ((unhide HF4).trans hF6)
                clear hO6 hF6 HA
                go_wp2
                go_roundg (gk - 1)
                case measure => have := unhide hj; omega
                case rel => exact ⟨m + 1, _, by have := unhide hzi; unfold Hid; omega, by have := unhide hj; unfold Hid; omega, hmm, rfl, by omega, by omega, H6, HF6⟩
              · have hL := (unhide H5).len
                rw [unhide hln5] at hL
                have e : c + m = c := by have := unhide hzi; omega
                rw [e] at hL
                have HL := hide hL
                have HB := hide (unhide HCI wr (unhide HF4)).1
                clear hL e
                go_wp2_with fail
                refine (unhide HL).mono ?_
                rintro e w5 ⟨rfl, hw5⟩
                rw [hw5]
                clear hw5 w5 HL
                go_wp2
                go_ret
                exact ⟨rfl, unhide HB⟩
      by_cases hzn : z < 0
      · have hCut := (hS.cut z (by rw [unhide hcn]; omega))
        have etk : rs.take (z).toNat = rs.take 0 := by rw [show z.toNat = 0 from by omega]
        rw [etk] at hCut
        have HCut := hide hCut
        clear hown hO2 hB2 HIt HOn hg hS etk hCut HRi HBel
        go_wp2_with fail
        refine (unhide HCut).mono ?_
        rintro e w4 ⟨rfl, hO4, hF4⟩
        have hln : Hid ((rs.take 0).length = 0) := by unfold Hid; rw [List.length_take, unhide hcn]; omega
        have hL := hO4.len
        rw [unhide hln] at hL
        have HL := hide hL
        have H4 := hide hO4
        have HF4 := hide hF4
        clear hO4 hF4 hL HCut
        go_wp2_with fail
        refine (unhide HL).mono ?_
        rintro e w5 ⟨rfl, hw5⟩
        rw [hw5]
        clear hw5 w5 HL
        go_wp2
        go_loopg [9] c (fun g2 t9 wr => ∃ i : Nat, Hid (i + g2 = c) ∧ t9 = .int .i64 (i : Int) ∧ wr = w4)
        case atStart => exact ⟨0, by unfold Hid; omega, rfl, rfl⟩
        case round =>
          clear hj
          obtain ⟨i, hj, rfl, rfl⟩ := hrel
          by_cases hlt2 : i < c
          · have c1 := (unhide HCI wr (unhide HF4)).2 i hlt2
            have hix := idx_cut (unhide HND) (st := 0) (i := i) (by rw [unhide hcn]; exact hlt2)
            have hts := hide (unhide HOKr i hlt2)
            obtain ⟨s, es⟩ : ∃ s, s = tx rs i := ⟨_, rfl⟩
            rw [← es] at c1 hix hts
            have hF := (unhide H4).find s (unhide hts)
            have hbn := bool_neq
            have i0 : (0 : Int) ≤ (i : Int) := by omega
            have i1 : (i : Int) < (c : Int) := by omega
            have hst : ¬ i < 0 := by omega
            rw [if_neg hst] at hix
            rw [hix] at hF
            simp only [Option.getD_none, Option.isSome_none] at hF
            have HF := hide hF
            clear hF hix es
            go_wp2_with fail
            refine (unhide HF).mono ?_
            rintro e w5 ⟨rfl, hw5⟩
            rw [hw5]
            clear hw5 w5 HF
            go_wp2
            go_roundg (gk - 1)
            case measure => have := unhide hj; omega
            case rel => exact ⟨i + 1, by have := unhide hj; unfold Hid; omega, by go_num, rfl⟩
          · have H5 : Hid (OXS (fun k => k < w.heap.size ∨ k = g) p (bk rs 0 0) wr) := by rw [bk_zero]; exact H4
            clear H4 hj
            go_wp2
            go_loopg [12] c (fun g2 t12 wr => ∃ (m : Nat) (zi : Int), Hid (zi = (c : Int) - 1 - (m : Int)) ∧ Hid (m + g2 = c) ∧ 0 + m ≤ c ∧ t12 = .int .i64 zi ∧ -1 ≤ zi ∧ zi < (c : Int) ∧ Hid (OXS (fun k => k < w.heap.size ∨ k = g) p (bk rs 0 m) wr) ∧ Hid (Fr (fun k => ¬ (k < w.heap.size ∨ k = g)) w3 wr))
            case atStart => exact ⟨0, (c : Int) - 1, by unfold Hid; omega, by unfold Hid; omega, by omega, rfl, by omega, by omega, H5, HF4⟩
            case round =>
              clear H5 HF4
              obtain ⟨m, zi, hzi, hj, hmc, rfl, z0, z1, H5, HF4⟩ := hrel
              have hln5 : Hid ((bk rs 0 m).length = 0 + m) := bk_length (by rw [unhide hcn]; omega) m
              by_cases hlt3 : (0 : Int) ≤ zi
              · obtain ⟨i, rfl⟩ : ∃ i : Nat, zi = (i : Int) := ⟨zi.toNat, by omega⟩
                have him : Hid (i = rs.length - 1 - m) := by have := unhide hzi; unfold Hid; rw [unhide hcn]; omega
                have hic : i < c := by omega
                have hnew := hide (bk_new (unhide HND) (st := 0) (m := m) (i := i) (by rw [unhide hcn]; omega) (by rw [unhide hcn]; have := unhide hzi; omega) (unhide him))
                have hstp := hide (bk_step (unhide him) (unhide hnew))
                have hA := (unhide H5).add (tx rs i) (unhide HOKr i hic) (by rw [unhide hln5]; omega)
                rw [unhide hstp, (ins_new (unhide hnew)).2, unhide hln5] at hA
                have c1 := (unhide HCI wr (unhide HF4)).2 i hic
                obtain ⟨r, er⟩ : ∃ r : Nat, r = 0 + m := ⟨_, rfl⟩
                rw [← er] at hA
                have q : ((r : Int) != ((c : Int) - 1 - (i : Int))) = false := by rw [bne_eq_false_iff_eq, er]; have := unhide hzi; omega
                obtain ⟨s, es⟩ : ∃ s, s = tx rs i := ⟨_, rfl⟩
                rw [← es] at c1 hA
                have HA := hide hA
                have hrb : r ≤ c := by omega
                have hmm : 0 + (m + 1) ≤ c := by have := unhide hzi; omega
                have i0 : (0 : Int) ≤ (i : Int) := by omega
                clear hA es er
                go_wp2_with fail
                refine (unhide HA).mono ?_
                rintro e w5 ⟨rfl, hO6, hF6⟩
                have H6 := hide hO6
                have HF6 := hide ((unhide HF4).trans hF6)
                clear hO6 hF6 HA
                go_wp2
                go_roundg (gk - 1)
                case measure => have := unhide hj; omega
                case rel => exact ⟨m + 1, _, by have := unhide hzi; unfold Hid; omega, by have := unhide hj; unfold Hid; omega, hmm, rfl, by omega, by omega, H6, HF6⟩
              · have hL := (unhide H5).len
                rw [unhide hln5] at hL
                have e : 0 + m = c := by have := unhide hzi; omega
                rw [e] at hL
                have HL := hide hL
                have HB := hide (unhide HCI wr (unhide HF4)).1
                clear hL e
                go_wp2_with fail
                refine (unhide HL).mono ?_
                rintro e w5 ⟨rfl, hw5⟩
                rw [hw5]
                clear hw5 w5 HL
                go_wp2
                go_ret
                exact ⟨rfl, unhide HB⟩
      obtain ⟨k, rfl⟩ : ∃ k : Nat, z = (k : Int) := ⟨z.toNat, by omega⟩
      have hkc : k < c := by omega
      clear hz hzn hz1 hz2
      have hCut := (hS.cut (k : Int) (by rw [unhide hcn]; omega))
      have etk : rs.take ((k : Int)).toNat = rs.take k := by rw [Int.toNat_natCast]
      rw [etk] at hCut
      have HCut := hide hCut
      clear hown hO2 hB2 HIt HOn hg hS etk hCut HRi HBel
      go_wp2_with fail
      refine (unhide HCut).mono ?_
      rintro e w4 ⟨rfl, hO4, hF4⟩
      have hln : Hid ((rs.take k).length = k) := by unfold Hid; rw [List.length_take, unhide hcn]; omega
      have hL := hO4.len
      rw [unhide hln] at hL
      have HL := hide hL
      have H4 := hide hO4
      have HF4 := hide hF4
      clear hO4 hF4 hL HCut
      go_wp2_with fail
      refine (unhide HL).mono ?_
      rintro e w5 ⟨rfl, hw5⟩
      rw [hw5]
      clear hw5 w5 HL
      go_wp2
      go_loopg [9] c (fun g2 t9 wr => ∃ i : Nat, Hid (i + g2 = c) ∧ t9 = .int .i64 (i : Int) ∧ wr = w4)
      case atStart => exact ⟨0, by unfold Hid; omega, rfl, rfl⟩
      case round =>
        clear hj
        obtain ⟨i, hj, rfl, rfl⟩ := hrel
        by_cases hlt2 : i < c
        · have c1 := (unhide HCI wr (unhide HF4)).2 i hlt2
          have hix := idx_cut (unhide HND) (st := k) (i := i) (by rw [unhide hcn]; exact hlt2)
          have hts := hide (unhide HOKr i hlt2)
          obtain ⟨s, es⟩ : ∃ s, s = tx rs i := ⟨_, rfl⟩
          rw [← es] at c1 hix hts
          have hF := (unhide H4).find s (unhide hts)
          have hbn := bool_neq
          have i0 : (0 : Int) ≤ (i : Int) := by omega
          have i1 : (i : Int) < (c : Int) := by omega
          by_cases hst : i < k
          · rw [if_pos hst] at hix
            rw [hix] at hF
            simp only [Option.getD_some, Option.isSome_some] at hF
            have HF := hide hF
            clear hF hix es
            go_wp2_with fail
            refine (unhide HF).mono ?_
            rintro e w5 ⟨rfl, hw5⟩
            rw [hw5]
            clear hw5 w5 HF
            go_wp2
            go_roundg (gk - 1)
            case measure => have := unhide hj; omega
            case rel => exact ⟨i + 1, by have := unhide hj; unfold Hid; omega, by go_num, rfl⟩
          · rw [if_neg hst] at hix
            rw [hix] at hF
            simp only [Option.getD_none, Option.isSome_none] at hF
            have HF := hide hF
            clear hF hix es
            go_wp2_with fail
            refine (unhide HF).mono ?_
            rintro e w5 ⟨rfl, hw5⟩
            rw [hw5]
            clear hw5 w5 HF
            go_wp2
            go_roundg (gk - 1)
            case measure => have := unhide hj; omega
            case rel => exact ⟨i + 1, by have := unhide hj; unfold Hid; omega, by go_num, rfl⟩
        · have H5 : Hid (OXS (fun k => k < w.heap.size ∨ k = g) p (bk rs k 0) wr) := by rw [bk_zero]; exact H4
          clear H4 hj
          go_wp2
          go_loopg [12] c (fun g2 t12 wr => ∃ (m : Nat) (zi : Int), Hid (zi = (c : Int) - 1 - (m : Int)) ∧ Hid (m + g2 = c) ∧ k + m ≤ c ∧ t12 = .int .i64 zi ∧ -1 ≤ zi ∧ zi < (c : Int) ∧ Hid (OXS (fun k => k < w.heap.size ∨ k = g) p (bk rs k m) wr) ∧ Hid (Fr (fun k => ¬ (k < w.heap.size ∨ k = g)) w3 wr))
          case atStart => exact ⟨0, (c : Int) - 1, by unfold Hid; omega, by unfold Hid; omega, by omega, rfl, by omega, by omega, H5, HF4⟩
          case round =>
            clear H5 HF4
            obtain ⟨m, zi, hzi, hj, hmc, rfl, z0, z1, H5, HF4⟩ := hrel
            have hln5 : Hid ((bk rs k m).length = k + m) := bk_length (by rw [unhide hcn]; omega) m
            by_cases hlt3 : (k : Int) ≤ zi
            · obtain ⟨i, rfl⟩ : ∃ i : Nat, zi = (i : Int) := ⟨zi.toNat, by omega⟩
              have him : Hid (i = rs.length - 1 - m) := by have := unhide hzi; unfold Hid; rw [unhide hcn]; omega
              have hic : i < c := by omega
              have hnew := hide (bk_new (unhide HND) (st := k) (m := m) (i := i) (by rw [unhide hcn]; omega) (by rw [unhide hcn]; have := unhide hzi; omega) (unhide him))
              have hstp := hide (bk_step (unhide him) (unhide hnew))
              have hA := (unhide H5).add (tx rs i) (unhide HOKr i hic) (by rw [unhide hln5]; omega)
              rw [unhide hstp, (ins_new (unhide hnew)).2, unhide hln5] at hA
              have c1 := (unhide HCI wr (unhide HF4)).2 i hic
              obtain ⟨r, er⟩ : ∃ r : Nat, r = k + m := ⟨_, rfl⟩
              rw [← er] at hA
              have q : ((r : Int) != ((k : Int) + (c : Int) - 1 - (i : Int))) = false := by rw [bne_eq_false_iff_eq, er]; have := unhide hzi; omega
              obtain ⟨s, es⟩ : ∃ s, s = tx rs i := ⟨_, rfl⟩
              rw [← es] at c1 hA
              have HA := hide hA
              have hrb : r ≤ c := by omega
              have hmm : k + (m + 1) ≤ c := by have := unhide hzi; omega
              have i0 : (0 : Int) ≤ (i : Int) := by omega
              clear hA es er
              go_wp2_with fail
              refine (unhide HA).mono ?_
              rintro e w5 ⟨rfl, hO6, hF6⟩
              have H6 := hide hO6
              have HF6 := hide ((unhide HF4).trans hF6)
              clear hO6 hF6 HA
              go_wp2
              go_roundg (gk - 1)
              case measure => have := unhide hj; omega
              case rel => exact ⟨m + 1, _, by have := unhide hzi; unfold Hid; omega, by have := unhide hj; unfold Hid; omega, hmm, rfl, by omega, by omega, H6, HF6⟩
            · have hL := (unhide H5).len
              rw [unhide hln5] at hL
              have e : k + m = c := by have := unhide hzi; omega
              rw [e] at hL
              have HL := hide hL
              have HB := hide (unhide HCI wr (unhide HF4)).1
              clear hL e
              go_wp2_with fail
              refine (unhide HL).mono ?_
              rintro e w5 ⟨rfl, hw5⟩
              rw [hw5]
              clear hw5 w5 HL
              go_wp2
              go_ret
              exact ⟨rfl, unhide HB⟩
end Go.Proofs.Ythmcalapofjmfaa
