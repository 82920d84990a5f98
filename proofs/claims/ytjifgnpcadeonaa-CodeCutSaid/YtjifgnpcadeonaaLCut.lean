/-
  Cut.
-/
import Derived.Test.YtjifgnpcadeonaaLBack
namespace Go.Proofs.Ytjifgnpcadeonaa
open Go.RowKit
set_option linter.unusedVariables false

theorem decG_app : ∀ (m : List (Int × Int)) (f : Nat) (acc : List (Int × Int)) (t : List Int), (∀ p ∈ m, I64 p.1 ∧ I64 p.2) → okL m = true → acc.length + m.length ≤ 2000 → (efm m ++ t).length < f → ∃ f', t.length < f' ∧ decG f acc (efm m ++ t) = decG f' (acc ++ m) t
  | [], f, acc, t, _, _, _, hf => ⟨f, by simpa [efm] using hf, by simp [efm]⟩
  | p :: r, f, acc, t, hI, hok, hl, hf => by
    have e : efm (p :: r) ++ t = p.1 :: (opF (kd p.1.toNat) p.2 ++ (efm r ++ t)) := by simp [efm, ifm]
    rw [e] at hf ⊢
    obtain ⟨f', rfl⟩ : ∃ f', f = f' + 1 := ⟨f - 1, by simp at hf; omega⟩
    have hp : okB p.1 p.2 = true := by simp [okL] at hok; exact hok.1
    have hr : okL r = true := by simp [okL] at hok ⊢; exact hok.2
    simp only [List.length_cons] at hl
    rw [decG, if_neg (by omega), rd1_back p (hI p (List.mem_cons_self ..)).2 hp]
    simp only
    obtain ⟨f2, q1, q2⟩ := decG_app r f' (acc ++ [p]) t (fun q hq => hI q (List.mem_cons_of_mem _ hq)) hr (by rw [List.length_append, List.length_singleton]; omega) (by simp at hf ⊢; omega)
    exact ⟨f2, q1, by rw [q2, List.append_assoc]; rfl⟩
theorem rd1_cut (p : Int × Int) (hI : I64 p.2) (h : okB p.1 p.2 = true) (c : Nat) (hc : c < (opF (kd p.1.toNat) p.2).length) : rd1 p.1 ((opF (kd p.1.toNat) p.2).take c) = .error 2 := by
  obtain ⟨h1, h2⟩ := okB_split h
  have hb := foldI_bd p.2 hI.1 hI.2
  have e : opR (kd p.1.toNat) ((opF (kd p.1.toNat) p.2).take c) = .error 2 := by
    generalize kd p.1.toNat = k at *
    by_cases h0 : k = 0
    · subst h0
      simp [opF] at hc
    · have : ∃ x, x < 2 ^ 64 ∧ opF k p.2 = Wm.uform 9 x := by
        unfold opF
        rw [if_neg h0]
        split
        · exact ⟨_, by omega, rfl⟩
        · exact ⟨_, by omega, rfl⟩
      obtain ⟨x, hx, e⟩ := this
      rw [e] at hc ⊢
      unfold opR
      rw [if_neg h0, unum_begin 9 0 0 x c (Fits.start x hx) (by rwa [Wm.uform_length] at hc)]
  unfold rd1
  rw [if_pos h1, e]
theorem dec_cut {l : List (Int × Int)} (hI : ∀ p ∈ l, I64 p.1 ∧ I64 p.2) (h : encE l = 0) {k : Nat} {p : Int × Int} (hp : l[k]? = some p) {n : Nat} (h1 : (efm (l.take k)).length < n) (h2 : n < (efm (l.take k)).length + (ifm p).length) : dec ((encB l).take n) = .error 2 := by
  obtain ⟨q1, q2⟩ := encE_ok h
  rw [encB_ok h]
  have hk := (List.getElem?_eq_some_iff.1 hp).1
  have hl : l = l.take k ++ p :: l.drop (k + 1) := by
    have e := List.drop_eq_getElem_cons hk
    rw [(List.getElem?_eq_some_iff.1 hp).2] at e
    rw [← e, List.take_append_drop]
  have hmem : p ∈ l := List.mem_of_getElem? hp
  have hokp : okB p.1 p.2 = true := List.all_eq_true.1 q2 p hmem
  have e1 : (efm l).take n = efm (l.take k) ++ (ifm p).take (n - (efm (l.take k)).length) := by
    have e2 : efm l = efm (l.take k) ++ (ifm p ++ efm (l.drop (k + 1))) := by
      conv => lhs; rw [hl]
      simp [efm]
    rw [e2, List.take_append, List.take_of_length_le (by omega), List.take_append_of_le_length (by omega)]
  obtain ⟨c, hc⟩ : ∃ c, n - (efm (l.take k)).length = c + 1 := ⟨n - (efm (l.take k)).length - 1, by omega⟩
  have e3 : (ifm p).take (c + 1) = p.1 :: (opF (kd p.1.toNat) p.2).take c := rfl
  have hlen : (ifm p).length = (opF (kd p.1.toNat) p.2).length + 1 := rfl
  rw [e1, hc, e3]
  have hI' : ∀ q ∈ l.take k, I64 q.1 ∧ I64 q.2 := fun q hq => hI q (List.mem_of_mem_take hq)
  have hok' : okL (l.take k) = true := List.all_eq_true.2 (fun q hq => List.all_eq_true.1 q2 q (List.mem_of_mem_take hq))
  have hkl : (l.take k).length = k := by rw [List.length_take]; omega
  unfold dec
  obtain ⟨f', g1, g2⟩ := decG_app (l.take k) ((efm (l.take k) ++ p.1 :: (opF (kd p.1.toNat) p.2).take c).length + 1) [] (p.1 :: (opF (kd p.1.toNat) p.2).take c) hI' hok' (by simp; omega) (by omega)
  rw [g2]
  obtain ⟨f2, rfl⟩ : ∃ f2, f' = f2 + 1 := ⟨f' - 1, by simp at g1; omega⟩
  rw [decG, if_neg (by simp; omega), rd1_cut p (hI p hmem).2 hokp c (by omega)]
theorem dec_whole {l : List (Int × Int)} (hI : ∀ p ∈ l, I64 p.1 ∧ I64 p.2) (h : encE l = 0) {k : Nat} (hk : k ≤ l.length) : dec ((encB l).take (efm (l.take k)).length) = .ok (l.take k) := by
  obtain ⟨q1, q2⟩ := encE_ok h
  have hI' : ∀ q ∈ l.take k, I64 q.1 ∧ I64 q.2 := fun q hq => hI q (List.mem_of_mem_take hq)
  have hok' : okL (l.take k) = true := List.all_eq_true.2 (fun q hq => List.all_eq_true.1 q2 q (List.mem_of_mem_take hq))
  have he : encE (l.take k) = 0 := encE_of (by rw [List.length_take]; omega) hok'
  have := dec_back hI' he
  rw [encB_ok he] at this
  rw [encB_ok h]
  have e2 : efm l = efm (l.take k) ++ efm (l.drop k) := by
    rw [efm, efm, efm, ← List.flatMap_append, List.take_append_drop]
  rw [e2, List.take_left]
  exact this
theorem enc_single {l : List (Int × Int)} (h : encE l = 0) {p : Int × Int} (hp : p ∈ l) : encE [p] = 0 ∧ encB [p] = ifm p := by
  obtain ⟨q1, q2⟩ := encE_ok h
  have e : encE [p] = 0 := encE_of (by simp) (by simpa [okL] using List.all_eq_true.1 q2 p hp)
  exact ⟨e, by rw [encB_ok e]; simp [efm]⟩
theorem RtV.one {w : World} {b off L cap : Nat} {l : List (Int × Int)} (h : RtV w (.slice (some ⟨b, off, none⟩) L cap) l) {k : Nat} {p : Int × Int} (hp : l[k]? = some p) : RtV w (.slice (some ⟨b, off + k * 2, none⟩) 1 (cap - k)) [p] := by
  obtain ⟨a, c, e, h1, h2, h3⟩ := h
  cases e
  have hk := (List.getElem?_eq_some_iff.1 hp).1
  refine ⟨_, _, rfl, by simp; omega, by omega, fun i q hq => ?_⟩
  have hi : i < 1 := (List.getElem?_eq_some_iff.1 hq).1
  obtain rfl : i = 0 := by omega
  simp at hq
  subst hq
  obtain ⟨b', off', e, g1, g2, g3⟩ := h3 k p hp
  cases e
  exact ⟨b, off + k * 2, rfl, g1, by simpa using g2, by simpa using g3⟩
theorem RtV.front {w : World} {a : Option Addr} {L cap : Nat} {l : List (Int × Int)} (h : RtV w (.slice a L cap) l) {k : Nat} (hk : k ≤ l.length) : RtV w (.slice a k cap) (l.take k) := by
  obtain ⟨a', c, e, h1, h2, h3⟩ := h
  cases e
  refine ⟨_, _, by rw [List.length_take, Nat.min_eq_left hk], by rw [List.length_take]; omega, h2, fun i q hq => h3 i q ?_⟩
  rw [List.getElem?_take] at hq
  split at hq
  · exact hq
  · cases hq
theorem Rd.front {w : World} {a : Option Addr} {L cap : Nat} {xs : List Int} (h : Rd w (.slice a L cap) xs) {n : Nat} (hn : n ≤ xs.length) : Rd w (.slice a n cap) (xs.take n) := by
  rcases h with ⟨e, rfl⟩ | ⟨b, off, c, e, h1, h2, h3, h4⟩
  · cases e
    obtain rfl : n = 0 := by simpa using hn
    exact .inl ⟨rfl, rfl⟩
  · cases e
    refine .inr ⟨b, off, cap, by rw [List.length_take, Nat.min_eq_left hn], by rw [List.length_take]; omega, h2, h3, fun i hi => ?_⟩
    rw [List.length_take] at hi
    rw [h4 i (by omega), List.getD_eq_getElem?_getD, List.getD_eq_getElem?_getD, List.getElem?_take, if_pos (by omega)]

set_option maxRecDepth 100000 in
set_option maxHeartbeats 4000000 in
theorem cutLaw {w : World} {lv : Value} {l : List (Int × Int)} (h : RtV w lv l) (hN : l.length ≤ 8796093021952) (hI : ∀ p ∈ l, I64 p.1 ∧ I64 p.2) (n : Int) (hn : I64 n) :
    Calls Try.prog 8 #[lv, .int .i64 n] w fun e w' => e = .returned (.bool true) ∧ Below w.heap.size w w' := by
  have HR := hide (fun w' (q : Below w.heap.size w w') => h.below q)
  have HEn := hide (fun w' (q : Below w.heap.size w w') => encode_any (h.below q) hN hI)
  have HW := hide works_any
  have HBo := hide (encB_bok hI)
  have HLn := hide (encB_len l)
  have HII := hide hI
  obtain ⟨a, cap, rfl, hlc, hcm, hcell⟩ := h
  obtain ⟨L, hL⟩ : ∃ L, Hid (l.length = L) := ⟨_, rfl⟩
  rw [unhide hL] at hN hlc HEn HR ⊢
  clear hcell hI
  unfold EncPost at HEn
  by_cases h0 : encE l = 0
  · rw [h0] at HEn
    have H0 := hide h0
    obtain ⟨X, hX⟩ : ∃ X, Hid ((encB l).length = X) := ⟨_, rfl⟩
    go_enter Try.func8, Try.ntmps8
    go_wp2_with fail
    refine (unhide HW _).mono ?_
    rintro e w1 ⟨rfl, hb1⟩
    have KE := hide (unhide HEn w1 hb1)
    have B1 := hide hb1
    clear hb1 HEn HW h0
    go_wp2_with fail
    refine (unhide KE).mono ?_
    rintro e w2 ⟨x, rfl, hox, hb2⟩
    have RX := hide (Rd.of_own hox)
    have B2 := hide (Bl.go (unhide B1) (unhide B1).size hb2)
    clear hox hb2 KE
    obtain ⟨xa, xc, hx⟩ := (unhide RX).shapeR
    rw [unhide hX] at hx
    subst hx
    have hxc : X ≤ xc := by have := (unhide RX).cap_le; rw [unhide hX] at this; omega
    by_cases hr : 0 ≤ n ∧ n ≤ X
    · obtain ⟨m, rfl⟩ : ∃ m : Nat, n = m := ⟨n.toNat, by omega⟩
      have hm0 : (0 : Int) ≤ (m : Int) := by omega
      have hm1 : (m : Int) ≤ (X : Int) := by omega
      have hdx : decide (X < m) = false := decide_eq_false (by omega)
      have hdm : decide ((m : Int) < 0) = false := decide_eq_false (by omega)
      clear hr hn
      have J0 : Hid ((efm (l.take 0)).length ≤ m) := by unfold Hid; simp [efm]
      go_wp2_with fail
      go_loopg [7, 8] L (fun g t7 t8 wr => ∃ (k : Nat), Hid (k + g = L) ∧ t7 = .int .i64 (k : Int) ∧ t8 = .int .i64 ((efm (l.take k)).length : Int) ∧ Hid ((efm (l.take k)).length ≤ m) ∧ Hid (Below w2.heap.size w2 wr))
      case atStart => exact ⟨0, by unfold Hid; omega, rfl, rfl, J0, Below.refl _ _⟩
      case round =>
        clear J0
        obtain ⟨k, hk, rfl, rfl, hle, hB⟩ := hrel
        have B3 := hide (Bl.go (unhide B2) (unhide B2).size (unhide hB))
        have hal : (efm (l.take k)).length ≤ 22000 := by
          have h1 := efm_len (l.take k)
          have h2 : (l.take k).length ≤ l.length := by rw [List.length_take]; omega
          have h3 := (encE_ok (unhide H0)).1
          omega
        by_cases hlt : k < L
        · have hil : k < l.length := by rw [unhide hL]; exact hlt
          obtain ⟨p, hpr⟩ : ∃ q, l[k]? = some q := ⟨_, List.getElem?_eq_getElem hil⟩
          have hrt := unhide HR wr (unhide B3)
          obtain ⟨b, off, rfl⟩ : ∃ b off, a = some ⟨b, off, none⟩ := by
            obtain ⟨a', c', e, _, _, q⟩ := hrt
            cases e
            obtain ⟨b, off, e, _⟩ := q k p hpr
            exact ⟨b, off, e⟩
          have hmem := List.mem_of_getElem? hpr
          obtain ⟨es, eb⟩ := enc_single (unhide H0) hmem
          have KE := hide (encode_any (hrt.one hpr) (by simp) (by intro q hq; simp at hq; subst hq; exact unhide HII _ hmem))
          unfold EncPost at KE
          rw [es, eb] at KE
          have i0 : (0 : Int) ≤ (k : Int) := by omega
          have i1 : (k : Int) + 1 ≤ (L : Int) := by omega
          have i2 : (k : Int) + 1 ≤ (cap : Int) := by omega
          have i3 : (k : Int) < (L : Int) := by omega
          have HP := hide hpr
          have hpl : (ifm p).length ≤ 11 := by have := opF_len (kd p.1.toNat) p.2; simp [ifm]; omega
          have HT : Hid ((efm (l.take (k + 1))).length = (efm (l.take k)).length + (ifm p).length) := by
            unfold Hid; rw [itake_push l k p hpr, efm_push, List.length_append]
          generalize hA : (efm (l.take k)).length = A at *
          have HA := hide hA
          clear hA hrt hpr hmem es eb hil
          generalize hQ : (ifm p).length = Q at *
          have HQ := hide hQ
          clear hQ
          go_wp2_with fail
          refine (unhide KE).mono ?_
          rintro e w4 ⟨y, rfl, hoy, hb4⟩
          have B4 := hide (Bl.go (unhide B3) (unhide B3).size hb4)
          have C4 := hide (Bl.go (unhide hB) (unhide hB).size hb4)
          obtain ⟨ya, yc, hy⟩ : ∃ ya yc, y = .slice ya Q yc := by
            rcases hoy.2 with ⟨e, q⟩ | ⟨g, c, cur, e, _⟩
            · exact ⟨none, 0, by rw [e, ← q]⟩
            · exact ⟨_, c, e⟩
          subst hy
          clear hoy hb4 KE
          have ew : IntKind.i64.wrap ((A : Int) + (Q : Int)) = (A : Int) + (Q : Int) := by rw [IntKind.wrap_i64]; omega
          by_cases hbr : m < A + Q
          · have hbr' : (m : Int) < (A : Int) + (Q : Int) := by omega
            by_cases hAm : A < m
            · have HDD : Hid (dec ((encB l).take m) = .error 2) := dec_cut (unhide HII) (unhide H0) (unhide HP) (by rw [unhide HA]; exact hAm) (by rw [unhide HA, unhide HQ]; exact hbr)
              have hAm' : (A : Int) < (m : Int) := by omega
              have KD := hide (decode_any (.slice xa m xc) ((encB l).take m) w4 (((unhide RX).below (unhide C4)).front (by rw [unhide hX]; omega)) (fun z hz => unhide HBo z (List.mem_of_mem_take hz)) (by rw [List.length_take]; have := unhide HLn; omega))
              rw [unhide HDD] at KD
              go_wp2_with fail
              refine (unhide KD).mono ?_
              rintro e w5 ⟨y5, rfl, hG⟩
              have B5 := hide (Bl.go (unhide B4) (unhide B4).size hG.2.1)
              have ee : errOf (.error 2) = 2 := rfl
              have el : lstOf (.error 2) = [] := rfl
              rw [ee]
              rw [el] at hG
              obtain ⟨ya5, yc5, hy5, _, _⟩ := hG.1.shape
              have hy5' : y5 = .slice ya5 0 yc5 := hy5
              subst hy5'
              clear hG KD ee el hy5
              go_wp2_with fail
              go_ret
              exact ⟨rfl, unhide B5⟩
            · have hAm1 : A = m := by have := unhide hle; omega
              have HDD : Hid (dec ((encB l).take m) = .ok (l.take k)) := by
                have q := dec_whole (unhide HII) (unhide H0) (k := k) (by rw [unhide hL]; omega)
                rw [unhide HA, hAm1] at q
                exact q
              subst hAm1
              have KD := hide (decode_any (.slice xa A xc) ((encB l).take A) w4 (((unhide RX).below (unhide C4)).front (by rw [unhide hX]; omega)) (fun z hz => unhide HBo z (List.mem_of_mem_take hz)) (by rw [List.length_take]; have := unhide HLn; omega))
              rw [unhide HDD] at KD
              go_wp2_with fail
              refine (unhide KD).mono ?_
              rintro e w5 ⟨y5, rfl, hG⟩
              have B5 := hide (Bl.go (unhide B4) (unhide B4).size hG.2.1)
              have ee : errOf (.ok (l.take k)) = 0 := rfl
              have el : lstOf (.ok (l.take k)) = l.take k := rfl
              rw [ee]
              rw [el] at hG
              have KS := hide (sameC_any (RtV.of_ro hG.1) ((unhide HR w5 (unhide B5)).front (k := k) (by rw [unhide hL]; omega)))
              clear hG KD ee el
              go_wp2_with fail
              refine (unhide KS).mono ?_
              rintro e w6 ⟨rfl, kk, rfl⟩
              go_wp2_with fail
              go_ret
              exact ⟨rfl, Below.drewNB (unhide B5) _⟩
          · have hbr' : ¬ (m : Int) < (A : Int) + (Q : Int) := by omega
            go_wp2_with fail
            go_roundg (gk - 1)
            case measure => have := unhide hk; omega
            case rel =>
              refine ⟨k + 1, by have := unhide hk; unfold Hid; omega, by go_num, ?_, ?_, unhide C4⟩
              · rw [unhide HT]; go_num
              · unfold Hid; rw [unhide HT]; omega
        · have hkL : k = L := by have := unhide hk; omega
          subst hkL
          have hA : (efm (l.take k)).length = X := by
            rw [List.take_of_length_le (by rw [unhide hL]; exact Nat.le_refl _), ← encB_ok (unhide H0), unhide hX]
          have hmX : m = X := by have := unhide hle; omega
          have HDD : Hid (dec ((encB l).take m) = .ok (l.take k)) := by
            have q := dec_whole (unhide HII) (unhide H0) (k := k) (by rw [unhide hL]; omega)
            rw [hA, ← hmX] at q
            exact q
          rw [hA]
          subst hmX
          clear hA hlt
          have KD := hide (decode_any (.slice xa m xc) ((encB l).take m) wr (((unhide RX).below (unhide hB)).front (by rw [unhide hX]; omega)) (fun z hz => unhide HBo z (List.mem_of_mem_take hz)) (by rw [List.length_take]; have := unhide HLn; omega))
          rw [unhide HDD] at KD
          go_wp2_with fail
          refine (unhide KD).mono ?_
          rintro e w5 ⟨y5, rfl, hG⟩
          have B5 := hide (Bl.go (unhide B3) (unhide B3).size hG.2.1)
          have ee : errOf (.ok (l.take k)) = 0 := rfl
          have el : lstOf (.ok (l.take k)) = l.take k := rfl
          rw [ee]
          rw [el] at hG
          have KS := hide (sameC_any (RtV.of_ro hG.1) ((unhide HR w5 (unhide B5)).front (k := k) (by rw [unhide hL]; omega)))
          clear hG KD ee el
          go_wp2_with fail
          refine (unhide KS).mono ?_
          rintro e w6 ⟨rfl, kk, rfl⟩
          go_wp2_with fail
          go_ret
          exact ⟨rfl, Below.drewNB (unhide B5) _⟩
    · have hor : n < 0 ∨ (0 ≤ n ∧ (X : Int) < n) := by omega
      clear hr
      rcases hor with c | ⟨c, c'⟩
      all_goals
        go_wp2_with fail
        go_ret
        exact ⟨rfl, unhide B2⟩
  · have hne : (encE l != 0) = true := by simpa using h0
    generalize encE l = er at *
    clear h0
    go_enter Try.func8, Try.ntmps8
    go_wp2_with fail
    refine (unhide HW _).mono ?_
    rintro e w1 ⟨rfl, hb1⟩
    have KE := hide (unhide HEn w1 hb1)
    have B1 := hide hb1
    clear hb1 HEn HW
    go_wp2_with fail
    refine (unhide KE).mono ?_
    rintro e w2 ⟨x, rfl, hox, hb2⟩
    have B2 := hide (Bl.go (unhide B1) (unhide B1).size hb2)
    clear hox hb2 KE
    go_wp2_with fail
    go_ret
    exact ⟨rfl, unhide B2⟩
end Go.Proofs.Ytjifgnpcadeonaa
