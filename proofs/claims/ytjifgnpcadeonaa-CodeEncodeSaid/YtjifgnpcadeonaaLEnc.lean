/-
  CodeEncode.
-/
import Derived.Test.YtjifgnpcadeonaaDEnc
namespace Go.Proofs.Ytjifgnpcadeonaa
open Go.RowKit
set_option linter.unusedVariables false

theorem flat_set (Q : List (Int × Int)) (i : Nat) (p : Int × Int) (hi : i < Q.length) (j : Nat) : (flat (Q.set i p))[j]? = if i * 2 ≤ j ∧ j < i * 2 + 2 then [Value.int .i64 p.1, .int .i64 p.2][j - i * 2]? else (flat Q)[j]? := by
  induction Q generalizing i j with
  | nil => simp at hi
  | cons q r ih =>
    cases i with
    | zero =>
      match j with
      | 0 => simp [flat]
      | 1 => simp [flat]
      | j + 2 => rw [if_neg (by omega)]; simp [flat]
    | succ i =>
      match j with
      | 0 => rw [if_neg (by omega)]; simp [flat]
      | 1 => rw [if_neg (by omega)]; simp [flat]
      | j + 2 =>
        have := ih i (by simpa using hi) j
        have e1 : (flat ((q :: r).set (i + 1) p))[j + 2]? = (flat (r.set i p))[j]? := by simp [flat]
        have e2 : (flat (q :: r))[j + 2]? = (flat r)[j]? := by simp [flat]
        rw [e1, e2, this]
        by_cases c : i * 2 ≤ j ∧ j < i * 2 + 2
        · rw [if_pos c, if_pos (by omega)]
          congr 1
          omega
        · rw [if_neg c, if_neg (by omega)]
theorem Ro.put {w : World} {g off N cap : Nat} {Q : List (Int × Int)} (hN : Q.length = N) (h : Ro w 2 (.slice (some ⟨g, off, none⟩) N cap) N (flat Q)) {i : Nat} (hi : i < N) (p : Int × Int) :
    (∃ u, w.cell? ⟨g, off + i * 2, none⟩ = some u) ∧ (∃ u, w.cell? ⟨g, off + i * 2 + 1, none⟩ = some u) ∧ (∀ j, w.frozen? ⟨g, j, none⟩ = false) ∧ g < w.heap.size ∧
      Ro (w.setCells g (off + i * 2) [.int .i64 p.1, .int .i64 p.2]) 2 (.slice (some ⟨g, off, none⟩) N cap) N (flat (Q.set i p)) ∧ Fr (fun q => q = g) w (w.setCells g (off + i * 2) [.int .i64 p.1, .int .i64 p.2]) := by
  obtain ⟨g', off', cap', e, h1, h2, h3, h4⟩ := h.full (by omega)
  cases e
  have hlen : (flat Q).length = N * 2 := by rw [flat_length, hN]
  have hcm : N * 2 ≤ cap * 2 := Nat.mul_le_mul_right _ h1
  obtain ⟨r1, r2, r3⟩ := setCells_rest g [.int .i64 p.1, .int .i64 p.2] (off + i * 2) w
  refine ⟨?_, ?_, fun j => h.free rfl j, h3, (h.sets (v := .slice (some ⟨g, off, none⟩) N cap) rfl (o := off + i * 2) (m := N) (vs := [.int .i64 p.1, .int .i64 p.2]) (ys := flat (Q.set i p)) (by omega) (by simp; omega) h1 (by rw [flat_length, List.length_set, hN]) (fun j hj => ?_) (fun j hj hq => by omega)).1, ⟨r1, r2, r3, by rw [setCells_size]; exact Nat.le_refl _, fun q _ hq => setCells_other g q hq _ _ w⟩⟩
  · rw [h4 (i * 2) (by omega), List.getElem?_eq_getElem (by omega)]; exact ⟨_, rfl⟩
  · rw [Nat.add_assoc, h4 (i * 2 + 1) (by omega), List.getElem?_eq_getElem (by omega)]; exact ⟨_, rfl⟩
  · rw [flat_set Q i p (by omega)]
    simp only [List.length_cons, List.length_nil]
    by_cases c : i * 2 ≤ j ∧ j < i * 2 + 2
    · rw [if_pos c, if_pos (by omega)]
      congr 1
      omega
    · rw [if_neg c, if_neg (by omega)]

set_option maxRecDepth 100000 in
set_option maxHeartbeats 4000000 in
theorem num_any (x : Int) (w : World) : Calls Try.prog 12 #[.int .i64 x] w fun e w' => e = .returned (.int .i64 x) ∧ w' = w := by
  go_enter Try.func12, Try.ntmps12
  go_wp2
  go_ret
  exact ⟨rfl, rfl⟩

theorem apart3 (w : World) (base : Nat) (v0 v1 v2 : Value) (x0 x1 x2 : List Int) (h0 : w.ownsRow base 5 1 v0 x0.length (x0.map By)) (h1 : w.ownsRow base 5 1 v1 x1.length (x1.map By)) (h2 : w.ownsRow base 5 1 v2 x2.length (x2.map By))
    (a01 : ∀ b, v0.ownBlock = some b → v1.ownBlock ≠ some b) (a02 : ∀ b, v0.ownBlock = some b → v2.ownBlock ≠ some b) (a12 : ∀ b, v1.ownBlock = some b → v2.ownBlock ≠ some b) (hb : base ≤ w.heap.size) (l0 : x0.length ≤ 22000) (l1 : x1.length ≤ 22000) (l2 : x2.length ≤ 22000) :
    Calls Try.prog 16 #[.slice (some ⟨w.heap.size, 0, none⟩) 3 3] (w.alloc (.cells #[v0, v1, v2] 23)) fun e w' => e = .returned (.bool true) ∧ Fr (fun b => base ≤ b) (w.alloc (.cells #[v0, v1, v2] 23)) w' := by
  have hlt : ∀ j b, j < [v0, v1, v2].length → ([v0, v1, v2].getD j (.slice none 0 0)).ownBlock = some b → base ≤ b ∧ b < w.heap.size := by
    intro j b hj e
    have : j = 0 ∨ j = 1 ∨ j = 2 := by simp at hj; omega
    rcases this with rfl | rfl | rfl
    · exact h0.lt b e
    · exact h1.lt b e
    · exact h2.lt b e
  refine (apart_walk (.slice (some ⟨w.heap.size, 0, none⟩) 3 3) [v0, v1, v2] (fun j => if j = 0 then x0.length else if j = 1 then x1.length else x2.length) base (w.alloc (.cells #[v0, v1, v2] 23)) ⟨some ⟨w.heap.size, 0, none⟩, 3, rfl, fun i hi => ?_⟩ ⟨fun j => if j = 0 then x0 else if j = 1 then x1 else x2, ⟨fun k hk => ?_, fun k k' b hk hk' hne e => ?_, Fr.refl _ _⟩, fun k => ?_, fun k hk => by omega, fun j hj => by omega⟩ (by simp) (fun k => ?_) (by simp; omega) (fun j b hj e => ?_)).mono ?_
  · refine ⟨w.heap.size, 0, rfl, by simp, ?_, fun k hk e => ?_⟩
    · have : i = 0 ∨ i = 1 ∨ i = 2 := by simp at hi; omega
      rcases this with rfl | rfl | rfl <;> simp
    · have := (hlt k _ hk e).2
      omega
  · have : k = 0 ∨ k = 1 ∨ k = 2 := by simp at hk; omega
    rcases this with rfl | rfl | rfl
    · exact h0.alloc _
    · exact h1.alloc _
    · exact h2.alloc _
  · have c1 : k = 0 ∨ k = 1 ∨ k = 2 := by simp at hk; omega
    have c2 : k' = 0 ∨ k' = 1 ∨ k' = 2 := by simp at hk'; omega
    rcases c1 with rfl | rfl | rfl <;> rcases c2 with rfl | rfl | rfl
    · exact absurd rfl hne
    · exact a01 b e
    · exact a02 b e
    · exact fun q => a01 b q e
    · exact absurd rfl hne
    · exact a12 b e
    · exact fun q => a02 b q e
    · exact fun q => a12 b q e
    · exact absurd rfl hne
  · show (if k = 0 then x0 else if k = 1 then x1 else x2).length = if k = 0 then x0.length else if k = 1 then x1.length else x2.length
    split
    · rfl
    · split <;> rfl
  · show (if k = 0 then x0.length else if k = 1 then x1.length else x2.length) ≤ _
    split
    · omega
    · split <;> omega
  · have := (hlt j b hj e).2
    simp; omega
  · rintro e w' ⟨he, hf⟩
    exact ⟨he, hf.mono (fun b _ ⟨j, hj, q⟩ => (hlt j b hj q).1)⟩

set_option maxRecDepth 100000 in
set_option maxHeartbeats 4000000 in
theorem encLaw {w : World} {lv : Value} {l : List (Int × Int)} (h : RtV w lv l) (hN : l.length ≤ 8796093021952) (hI : ∀ p ∈ l, I64 p.1 ∧ I64 p.2) :
    Calls Try.prog 3 #[lv] w fun e w' => e = .returned (.bool true) ∧ Below w.heap.size w w' := by
  have H1 := hide (dEncode_any h hN hI)
  have HLe := hide (fun w' (q : Below w.heap.size w w') => lentI_any (h.below q) hN)
  have HEn := hide (fun (w' : World) (v : Value) (q : RtV w' v l) => encode_any q hN hI)
  have HKe := hide (fun (w' : World) (v : Value) (b : Below w.heap.size w w') (hv : Ro w' 2 v (l ++ imarks 64).length (flat (l ++ imarks 64))) => keptI_any hv (h.below b) hN)
  have HLn := hide (encB_len l)
  have HNm := hide num_any
  obtain ⟨a, cap, rfl, hlc, hcm, hcell⟩ := h
  obtain ⟨L, hL⟩ : ∃ L, Hid (l.length = L) := ⟨_, rfl⟩
  rw [unhide hL] at H1 HLe HKe hlc hN ⊢
  clear hcell hI
  unfold EncPost at H1 HEn
  generalize encE l = er at *
  generalize encB l = xs at *
  have dne : ∀ x : Int, (x != x) = false := fun x => by simp
  go_enter Try.func3, Try.ntmps3
  go_wp2_with fail
  refine (unhide H1).mono ?_
  rintro e w1 ⟨want, rfl, how, hb1⟩
  have R1 := hide (Rd.of_own how)
  have B1 := hide hb1
  have K2 := hide (unhide HLe w1 hb1)
  clear how hb1 H1 HLe
  go_wp2_with fail
  refine (unhide K2).mono ?_
  rintro e w2 ⟨v2, rfl, hG⟩
  have hlen : Hid ((l ++ imarks 64).length = L + 64) := by unfold Hid; rw [ilm_length, unhide hL]
  obtain ⟨g, off, vcap, hv2, hv3, hv4, hgl, _⟩ := hG.1.full (by rw [ilm_length]; omega)
  rw [unhide hlen] at hv2 hv3
  subst hv2
  have hro : Ro w2 2 (.slice (some ⟨g, off, none⟩) (L + 64) vcap) (L + 64) (flat (l ++ imarks 64)) := by
    have q := hG.1
    rwa [unhide hlen] at q
  have HRo := hide hro
  have B2 := hide (Bl.go (unhide B1) (unhide B1).size hG.2.1)
  have hg1 : Hid (w1.heap.size ≤ g ∧ g < w2.heap.size) := ⟨hG.2.2 g rfl, hgl⟩
  have R2 := hide ((unhide R1).below hG.2.1)
  have hL64 : L ≤ L + 64 := by omega
  have hup := hro.upto rfl (k := L) hL64
  rw [flat_take, List.take_left' (unhide hL)] at hup
  have hrt : RtV w2 (.slice (some ⟨g, off, none⟩) L vcap) l := RtV.of_ro (by rw [unhide hL]; exact hup)
  have HRT := hide hrt
  have K3 := hide (unhide HEn w2 _ hrt)
  have hLc : (L : Int) ≤ (vcap : Int) := by omega
  clear hG hro hup hrt hgl R1 K2
  go_wp2_with fail
  refine (unhide K3).mono ?_
  rintro e w3 ⟨one, rfl, ho1, hb3⟩
  have O3 := hide ho1
  have C3 := hide hb3
  have K4 := hide (unhide HEn w3 _ ((unhide HRT).below hb3))
  clear ho1 hb3 K3
  go_wp2_with fail
  refine (unhide K4).mono ?_
  rintro e w4 ⟨two, rfl, ho2, hb4⟩
  have O4 := hide (own_below (unhide O3) hb4)
  have T4 := hide ho2
  have hw34 : Hid (w3.heap.size ≤ w4.heap.size) := hb4.size
  have C4 := hide (Bl.go (unhide C3) (unhide C3).size hb4)
  have lt3 : Hid (∀ b, one.ownBlock = some b → w2.heap.size ≤ b ∧ b < w3.heap.size) := fun b e => (unhide O3).lt b e
  have lt4 : Hid (∀ b, two.ownBlock = some b → w3.heap.size ≤ b ∧ b < w4.heap.size) := fun b e => ho2.lt b e
  have RW4 := hide ((unhide R2).below (unhide C4))
  have KS1 := hide (same_any one want xs w4 (Rd.of_own (unhide O4)) (unhide RW4))
  have KS2 := hide (fun k => same_any two want xs (w4.drewN k) ((Rd.of_own ho2).below ⟨rfl, rfl, rfl, Nat.le_refl _, fun _ _ => rfl⟩) ((unhide RW4).below ⟨rfl, rfl, rfl, Nat.le_refl _, fun _ _ => rfl⟩))
  clear ho2 hb4 K4 O3
  go_wp2_with fail
  refine (unhide HNm _ _).mono ?_
  rintro e w4' ⟨rfl, rfl⟩
  go_wp2_with fail
  refine (unhide KS1).mono ?_
  rintro e w4a ⟨rfl, ka, rfl⟩
  go_wp2_with fail
  refine (unhide KS2 ka).mono ?_
  rintro e w4b ⟨rfl, kb, rfl⟩
  obtain ⟨w5, hw5⟩ : ∃ w5, Hid (w5 = (w4'.drewN ka).drewN kb) := ⟨_, rfl⟩
  rw [← unhide hw5]
  have D5 : Hid (Below w4'.heap.size w4' w5) := by rw [unhide hw5]; exact ⟨rfl, rfl, rfl, Nat.le_refl _, fun _ _ => rfl⟩
  have C5 := hide (Bl.go (unhide C4) (unhide C4).size (unhide D5))
  have B5 := hide (Bl.go (unhide B2) (unhide B2).size (unhide C5))
  have HRo5 : Hid (Ro w5 2 (.slice (some ⟨g, off, none⟩) (L + 64) vcap) (L + 64) (flat (l ++ imarks 64))) := (unhide HRo).keep (fun k hk => (unhide C5).block k ((unhide HRo).lt k hk))
  have K6 := hide (unhide HKe w5 _ (unhide B5) (by rw [unhide hlen]; exact unhide HRo5))
  clear KS1 KS2 hw5
  go_wp2_with fail
  refine (unhide K6).mono ?_
  rintro e w6 ⟨rfl, hb6⟩
  have C6 := hide (Bl.go (unhide C5) (unhide C5).size hb6)
  have D6 := hide (Bl.go (unhide D5) (unhide D5).size hb6)
  have B6 := hide (Bl.go (unhide B2) (unhide B2).size (unhide C6))
  have HRo6 : Hid (Ro w6 2 (.slice (some ⟨g, off, none⟩) (L + 64) vcap) (L + 64) (flat (l ++ imarks 64))) := (unhide HRo5).keep (fun k hk => hb6.block k ((unhide HRo5).lt k hk))
  clear hb6 K6 HRo5
  go_wp2_with fail
  go_loopg [11] L (fun gg t11 wr => ∃ (i : Nat) (QQ : List (Int × Int)), Hid (i + gg = L) ∧ t11 = .int .i64 (i : Int) ∧ Hid (QQ.length = L + 64 ∧ Ro wr 2 (.slice (some ⟨g, off, none⟩) (L + 64) vcap) (L + 64) (flat QQ) ∧ Fr (fun q => q = g) w6 wr ∧ ∀ j, j < i → QQ[j]? = some (10, ((j : Int) % 64))))
  case atStart => exact ⟨0, l ++ imarks 64, by unfold Hid; omega, rfl, unhide hlen, unhide HRo6, Fr.refl _ _, fun j hj => by omega⟩
  case round =>
    obtain ⟨i, QQ, hi, rfl, hJ⟩ := hrel
    by_cases hlt : i < L
    · obtain ⟨q1, q2, q3, q4⟩ := unhide hJ
      obtain ⟨⟨u0, c0⟩, ⟨u1, c1⟩, cf, hgr, r1, r2⟩ := q2.put q1 (show i < L + 64 by omega) (10, ((i : Int) % 64))
      have cf0 := cf (off + i * 2)
      have cf1 := cf (off + i * 2 + 1)
      have hJ2 : Hid ((QQ.set i (10, ((i : Int) % 64))).length = L + 64 ∧ Ro ((wr.setCell ⟨g, off + i * 2, none⟩ (.int .i64 10)).setCell ⟨g, off + i * 2 + 1, none⟩ (.int .i64 ((i : Int) % 64))) 2 (.slice (some ⟨g, off, none⟩) (L + 64) vcap) (L + 64) (flat (QQ.set i (10, ((i : Int) % 64)))) ∧ Fr (fun q => q = g) w6 ((wr.setCell ⟨g, off + i * 2, none⟩ (.int .i64 10)).setCell ⟨g, off + i * 2 + 1, none⟩ (.int .i64 ((i : Int) % 64))) ∧ ∀ j, j < i + 1 → (QQ.set i (10, ((i : Int) % 64)))[j]? = some (10, ((j : Int) % 64))) := by
        refine ⟨by rw [List.length_set]; exact q1, r1, q3.trans r2, fun j hj => ?_⟩
        by_cases e : j = i
        · subst e
          rw [List.getElem?_set_self (by omega)]
        · rw [List.getElem?_set_ne (fun q => e q.symm)]
          exact q4 j (by omega)
      have i0 : (0 : Int) ≤ (i : Int) := by omega
      have i1 : (i : Int) < (L : Int) := by omega
      clear q1 q2 q3 q4 r1 r2 cf
      go_wp2_with fail
      go_roundg (gk - 1)
      case measure => have := unhide hi; omega
      case rel => exact ⟨i + 1, _, by have := unhide hi; unfold Hid; omega, by go_num, hJ2⟩
    · have hiL : i = L := by have := unhide hi; omega
      subst hiL
      obtain ⟨q1, q2, q3, q4⟩ := unhide hJ
      have hup := q2.upto rfl (k := i) (by omega)
      rw [flat_take] at hup
      have hml : (QQ.take i).length = i := by rw [List.length_take]; omega
      have hmI : ∀ p ∈ QQ.take i, I64 p.1 ∧ I64 p.2 := by
        intro p hp
        obtain ⟨j, hj, e⟩ := List.mem_iff_getElem.1 hp
        rw [hml] at hj
        have e2 := q4 j hj
        have e3 : (QQ.take i)[j]? = some p := by rw [List.getElem?_eq_getElem (by omega), e]
        rw [List.getElem?_take, if_pos hj, e2] at e3
        cases e3
        exact ⟨⟨by show (-9223372036854775808 : Int) ≤ 10; decide, by show (10 : Int) ≤ 9223372036854775807; decide⟩, ⟨by show (-9223372036854775808 : Int) ≤ (j : Int) % 64; omega, by show (j : Int) % 64 ≤ 9223372036854775807; omega⟩⟩
      generalize QQ.take i = m at *
      have hrtm : RtV wr (.slice (some ⟨g, off, none⟩) i vcap) m := RtV.of_ro (by rw [hml]; exact hup)
      have HRM := hide hrtm
      have HMI := hide hmI
      have HML := hide hml
      have hN2 : Hid (m.length ≤ 8796093021952) := by unfold Hid; omega
      -- what was made stays
      have hg := unhide hg1
      have Fw := hide q3
      have O7 : Hid (wr.ownsRow w2.heap.size 5 1 one xs.length (xs.map By)) := own_keepT (own_below (unhide O4) (unhide D6)) (fun b hb => by
        have e1 := unhide lt3 b hb
        have e2 := ((own_below (unhide O4) (unhide D6)).lt b hb).2
        exact q3.block b e2 (by omega))
      have T7 : Hid (wr.ownsRow w3.heap.size 5 1 two xs.length (xs.map By)) := own_keepT (own_below (unhide T4) (unhide D6)) (fun b hb => by
        have e1 := unhide lt4 b hb
        have e2 := ((own_below (unhide T4) (unhide D6)).lt b hb).2
        have e3 := (unhide C3).size
        exact q3.block b e2 (by omega))
      have B7 : Hid (Below w.heap.size w wr) := (unhide B6).trans (q3.below (unhide B6).size (fun k hk e => by have := (unhide B1).size; omega))
      have hlt4 : Hid (w4'.heap.size ≤ wr.heap.size) := Nat.le_trans (unhide D6).size q3.size
      have KC := hide (copyI_any hrtm (unhide hN2))
      clear q1 q2 q3 q4 hup hml hmI hrtm hg
      go_wp2_with fail
      refine (unhide KC).mono ?_
      rintro e w8 ⟨v8, rfl, hG8⟩
      have KD := hide (dEncode_any (RtV.of_ro hG8.1) (unhide hN2) (unhide HMI))
      have D8 := hide hG8.2.1
      clear hG8 KC
      unfold EncPost at KD
      go_wp2_with fail
      refine (unhide KD).mono ?_
      rintro e w9 ⟨nx, rfl, hon, hb9⟩
      have D9 := hide (Bl.go (unhide D8) (unhide D8).size hb9)
      have KE := hide (encode_any ((unhide HRM).below (unhide D9)) (unhide hN2) (unhide HMI))
      unfold EncPost at KE
      have RN := hide (Rd.of_own hon)
      have HLm := hide (encB_len m)
      generalize encE m = em at *
      generalize encB m = ym at *
      clear hon hb9 KD
      go_wp2_with fail
      refine (unhide KE).mono ?_
      rintro e w10 ⟨th, rfl, hot, hb10⟩
      have D10 := hide (Bl.go (unhide D9) (unhide D9).size hb10)
      have TH := hide hot
      have KS := hide (same_any th nx ym w10 (Rd.of_own hot) ((unhide RN).below hb10))
      clear hot hb10 KE
      go_wp2_with fail
      refine (unhide HNm _ _).mono ?_
      rintro e w10' ⟨rfl, rfl⟩
      go_wp2_with fail
      refine (unhide KS).mono ?_
      rintro e w11 ⟨rfl, kc, rfl⟩
      have lo9 := (unhide D9).size
      have lo4 := unhide hlt4
      have lo3 := (unhide C3).size
      have lo43 := unhide hw34
      have O11 : (w10'.drewN kc).ownsRow w.heap.size 5 1 one xs.length (xs.map By) := own_low (own_below (own_below (unhide O7) (unhide D10)) ⟨rfl, rfl, rfl, Nat.le_refl _, fun _ _ => rfl⟩) (unhide B2).size
      have T11 : (w10'.drewN kc).ownsRow w.heap.size 5 1 two xs.length (xs.map By) := own_low (own_below (own_below (unhide T7) (unhide D10)) ⟨rfl, rfl, rfl, Nat.le_refl _, fun _ _ => rfl⟩) (by have := (unhide B2).size; omega)
      have H11 : (w10'.drewN kc).ownsRow w.heap.size 5 1 th ym.length (ym.map By) := own_low (own_below (unhide TH) ⟨rfl, rfl, rfl, Nat.le_refl _, fun _ _ => rfl⟩) (by have := (unhide B7).size; omega)
      have bw : Below w.heap.size w (w10'.drewN kc) := Bl.go (Bl.go (unhide B7) (unhide B7).size (unhide D10)) (by have := (unhide B7).size; have := (unhide D10).size; omega) ⟨rfl, rfl, rfl, Nat.le_refl _, fun _ _ => rfl⟩
      have KA := hide (apart3 (w10'.drewN kc) w.heap.size one two th xs xs ym O11 T11 H11 (fun b e1 e2 => by have := unhide lt3 b e1; have := unhide lt4 b e2; omega) (fun b e1 e2 => by have := unhide lt3 b e1; have := ((unhide TH).lt b e2).1; omega) (fun b e1 e2 => by have := unhide lt4 b e1; have := ((unhide TH).lt b e2).1; omega) bw.size (unhide HLn) (unhide HLn) (unhide HLm))
      obtain ⟨w11, hw11⟩ : ∃ w11, Hid (w11 = w10'.drewN kc) := ⟨_, rfl⟩
      rw [← unhide hw11] at KA bw ⊢
      have B11 := hide bw
      obtain ⟨oa, oc, eo⟩ := row_shape O11
      obtain ⟨ta, tc, et⟩ := row_shape T11
      obtain ⟨ha, hc, eh⟩ := row_shape H11
      clear O11 T11 H11 bw lo9 lo4 lo3 lo43 hw11
      subst eo et eh
      go_wp2_with fail
      refine (unhide KA).mono ?_
      rintro e w12 ⟨rfl, hf⟩
      have F12 := hide hf
      clear hf
      go_wp2_with fail
      go_ret
      refine ⟨rfl, ?_⟩
      refine ((unhide B11).alloc (unhide B11).size _).trans ((unhide F12).below ?_ (fun k hk e => absurd hk (Nat.not_lt.2 e)))
      have := (unhide B11).size
      simp
      omega
end Go.Proofs.Ytjifgnpcadeonaa
