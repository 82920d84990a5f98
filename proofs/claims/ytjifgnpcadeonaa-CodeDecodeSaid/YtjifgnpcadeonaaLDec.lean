/-
  CodeDecode.
-/
import Derived.Test.YtjifgnpcadeonaaAPW
namespace Go.Proofs.Ytjifgnpcadeonaa
open Go.RowKit
set_option linter.unusedVariables false

set_option maxRecDepth 100000 in
set_option maxHeartbeats 6000000 in
theorem num_any (x : Int) (w : World) : Calls Try.prog 12 #[.int .i64 x] w fun e w' => e = .returned (.int .i64 x) ∧ w' = w := by
  go_enter Try.func12, Try.ntmps12
  go_wp2
  go_ret
  exact ⟨rfl, rfl⟩
theorem Rd.front {w : World} {a : Option Addr} {L cap : Nat} {xs : List Int} (h : Rd w (.slice a L cap) xs) {n : Nat} (hn : n ≤ xs.length) : Rd w (.slice a n cap) (xs.take n) := by
  rcases h with ⟨e, rfl⟩ | ⟨b, off, c, e, h1, h2, h3, h4⟩
  · cases e
    obtain rfl : n = 0 := by simpa using hn
    exact .inl ⟨rfl, rfl⟩
  · cases e
    refine .inr ⟨b, off, cap, by rw [List.length_take, Nat.min_eq_left hn], by rw [List.length_take]; omega, h2, h3, fun i hi => ?_⟩
    rw [List.length_take] at hi
    rw [h4 i (by omega), List.getD_eq_getElem?_getD, List.getD_eq_getElem?_getD, List.getElem?_take, if_pos (by omega)]
theorem own_below {w w' : World} {base : Nat} {e : TypeId} {v : Value} {n : Nat} {xs : List Value} (h : w.ownsRow base e 1 v n xs) (b : Below w.heap.size w w') : w'.ownsRow base e 1 v n xs :=
  own_keepT h (fun g hg => b.block g (h.lt g hg).2)
theorem own_at {w : World} {base : Nat} {e : TypeId} {g N cap : Nat} {xs : List Value} (h : w.ownsRow base e 1 (.slice (some ⟨g, 0, none⟩) N cap) N xs) {i : Nat} (hi : i < N) : (∃ u, w.cell? ⟨g, i, none⟩ = some u) ∧ w.frozen? ⟨g, i, none⟩ = false ∧ g < w.heap.size := by
  rcases h.2 with ⟨q, _⟩ | ⟨g', cp, cu, q, hb, hg, hn, hc, hs, ht⟩
  · cases q
  · cases q
    refine ⟨⟨cu[i]'(by omega), ?_⟩, ?_, (Array.getElem?_eq_some_iff.1 hg).1⟩
    · simp [World.cell?, hg]
    · simp [World.frozen?, hg]
theorem dec_len {B : List Int} (hB : BOk B) : (lstOf (dec B)).length ≤ 2000 := by
  cases h : dec B with
  | error e => simp [lstOf]
  | ok l =>
    obtain ⟨e1, _, _⟩ := dec_one hB h
    exact (encE_ok e1).1
theorem three_cells (w : World) (x y z : Value) (k : Nat) (hk : k < 3) : (w.alloc (.cells #[x, y, z] 22)).cell? ⟨w.heap.size, k, none⟩ = some (if k = 0 then x else if k = 1 then y else z) := by
  have : k = 0 ∨ k = 1 ∨ k = 2 := by omega
  rcases this with rfl | rfl | rfl <;> simp

theorem apartC3 (w : World) (base : Nat) (v0 v1 v2 : Value) (l0 l1 l2 : List (Int × Int)) (h0 : Ro w 2 v0 l0.length (flat l0)) (h1 : Ro w 2 v1 l1.length (flat l1)) (h2 : Ro w 2 v2 l2.length (flat l2))
    (a01 : ∀ b, v0.ownBlock = some b → v1.ownBlock ≠ some b) (a02 : ∀ b, v0.ownBlock = some b → v2.ownBlock ≠ some b) (a12 : ∀ b, v1.ownBlock = some b → v2.ownBlock ≠ some b)
    (b0 : ∀ b, v0.ownBlock = some b → base ≤ b) (b1 : ∀ b, v1.ownBlock = some b → base ≤ b) (b2 : ∀ b, v2.ownBlock = some b → base ≤ b) (n0 : l0.length ≤ 2000) (n1 : l1.length ≤ 2000) (n2 : l2.length ≤ 2000) :
    Calls Try.prog 23 #[.slice (some ⟨w.heap.size, 0, none⟩) 3 3] (w.alloc (.cells #[v0, v1, v2] 22)) fun e w' => e = .returned (.bool true) ∧ Fr (fun b => base ≤ b) (w.alloc (.cells #[v0, v1, v2] 22)) w' := by
  have hfr : Fr (fun _ => False) w (w.alloc (.cells #[v0, v1, v2] 22)) := (Fr.refl _ w).alloc _
  have cs : ∀ k, k < 3 → k = 0 ∨ k = 1 ∨ k = 2 := fun k hk => by omega
  refine (apartC (w.alloc (.cells #[v0, v1, v2] 22)) w.heap.size (fun k => if k = 0 then v0 else if k = 1 then v1 else v2) (fun k => if k = 0 then l0.length else if k = 1 then l1.length else l2.length) ⟨fun k hk => three_cells w v0 v1 v2 k hk, fun k hk => ?_, fun k b hk e => ?_, fun j j' b hj hj' hn e => ?_, fun k => ?_⟩).mono ?_
  · rcases cs k hk with rfl | rfl | rfl
    · exact ⟨l0, rfl, Fr.row2 h0 hfr (fun _ _ e => e)⟩
    · exact ⟨l1, rfl, Fr.row2 h1 hfr (fun _ _ e => e)⟩
    · exact ⟨l2, rfl, Fr.row2 h2 hfr (fun _ _ e => e)⟩
  · rcases cs k hk with rfl | rfl | rfl
    · have := h0.lt b e; omega
    · have := h1.lt b e; omega
    · have := h2.lt b e; omega
  · rcases cs j hj with rfl | rfl | rfl <;> rcases cs j' hj' with rfl | rfl | rfl
    · exact absurd rfl hn
    · exact a01 b e
    · exact a02 b e
    · exact fun q => a01 b q e
    · exact absurd rfl hn
    · exact a12 b e
    · exact fun q => a02 b q e
    · exact fun q => a12 b q e
    · exact absurd rfl hn
  · show (if k = 0 then l0.length else if k = 1 then l1.length else l2.length) ≤ _
    split
    · omega
    · split <;> omega
  · rintro e w' ⟨he, hf⟩
    refine ⟨he, hf.mono (fun b _ ⟨j, hj, q⟩ => ?_)⟩
    rcases cs j hj with rfl | rfl | rfl
    · exact b0 b q
    · exact b1 b q
    · exact b2 b q

set_option maxRecDepth 100000 in
set_option maxHeartbeats 6000000 in
theorem decLaw (bv : Value) (B : List Int) (w : World) (h : Rd w bv B) (hB : BOk B) (hN : B.length + 4096 ≤ 140737488355328) :
    Calls Try.prog 4 #[bv] w fun e w' => e = .returned (.bool true) ∧ Below w.heap.size w w' := by
  have H1 := hide (dDecode_any bv B w h hB (by omega))
  have HLe := hide (fun w' (q : Below w.heap.size w w') => lent_any bv B w' (h.below q) (by omega))
  have HDe := hide (fun (w' : World) (v : Value) (q : Rd w' v B) => decode_any v B w' q hB (by omega))
  have HKe := hide (fun (w' : World) (v : Value) (b : Below w.heap.size w w') (hv : Rd w' v (B ++ marks 64)) => kept_any v bv B w' hv (h.below b) (by omega))
  have HLn := hide (dec_len hB)
  have HBo : Hid (BOk (B ++ marks 64)) := BOk.append hB (marks_bok 64)
  have HNm := hide num_any
  obtain ⟨a, cap, rfl⟩ := h.shapeR
  obtain ⟨n, hn⟩ : ∃ n, Hid (B.length = n) := ⟨_, rfl⟩
  rw [unhide hn] at H1 HLe HKe hN ⊢
  unfold DecPost at H1 HDe
  generalize errOf (dec B) = er at *
  generalize lstOf (dec B) = l at *
  have dne : ∀ x : Int, (x != x) = false := fun x => by simp
  clear h hB
  go_enter Try.func4, Try.ntmps4
  go_wp2_with fail
  refine (unhide H1).mono ?_
  rintro e w1 ⟨want, rfl, hGw⟩
  have R1 := hide (RtV.of_ro hGw.1)
  have B1 := hide hGw.2.1
  have K2 := hide (unhide HLe w1 hGw.2.1)
  clear hGw H1 HLe
  go_wp2_with fail
  refine (unhide K2).mono ?_
  rintro e w2 ⟨v2, rfl, hG⟩
  have hlen : Hid ((B ++ marks 64).length = n + 64) := by unfold Hid; rw [List.length_append, marks_length, unhide hn]
  have how := hG.1
  rw [unhide hlen] at how
  obtain ⟨g, vcap, hv2, hg1, hgl, hv3, hv4⟩ : ∃ g vcap, v2 = .slice (some ⟨g, 0, none⟩) (n + 64) vcap ∧ w1.heap.size ≤ g ∧ g < w2.heap.size ∧ n + 64 ≤ vcap ∧ vcap ≤ maxLen := by
    rcases how.2 with ⟨_, q⟩ | ⟨g, c, cu, e, q1, q2, q3, q4, _⟩
    · omega
    · exact ⟨g, c, e, q1, (Array.getElem?_eq_some_iff.1 q2).1, q3, q4⟩
  subst hv2
  have HOw := hide how
  have B2 := hide (Bl.go (unhide B1) (unhide B1).size hG.2)
  have R2 := hide ((unhide R1).below hG.2)
  have HRx := hide (Rd.of_own hG.1)
  have hrt : Rd w2 (.slice (some ⟨g, 0, none⟩) n vcap) B := by
    have q := (Rd.of_own hG.1).front (n := n) (by rw [unhide hlen]; omega)
    rwa [List.take_left' (unhide hn)] at q
  have HRT := hide hrt
  have K3 := hide (unhide HDe w2 _ hrt)
  have hLc : (n : Int) ≤ (vcap : Int) := by omega
  have hL64 : n ≤ n + 64 := by omega
  have hg1' := hide (And.intro hg1 hgl)
  clear hG how hrt K2 R1 hg1 hgl
  go_wp2_with fail
  refine (unhide K3).mono ?_
  rintro e w3 ⟨one, rfl, hG3⟩
  have O3 := hide hG3
  have C3 := hide hG3.2.1
  have K4 := hide (unhide HDe w3 _ ((unhide HRT).below hG3.2.1))
  clear hG3 K3
  go_wp2_with fail
  refine (unhide K4).mono ?_
  rintro e w4 ⟨two, rfl, hG4⟩
  have O4 : Hid (Ro w4 2 one l.length (flat l)) := Fr.row2 (S := fun _ => False) (unhide O3).1 (Fr.of_below hG4.2.1) (fun _ _ e => e)
  have T4 := hide hG4
  have hw34 : Hid (w3.heap.size ≤ w4.heap.size) := hG4.2.1.size
  have C4 := hide (Bl.go (unhide C3) (unhide C3).size hG4.2.1)
  have lt3 : Hid (∀ b, one.ownBlock = some b → w2.heap.size ≤ b ∧ b < w3.heap.size) := fun b e => ⟨(unhide O3).2.2 b e, (unhide O3).1.lt b e⟩
  have lt4 : Hid (∀ b, two.ownBlock = some b → w3.heap.size ≤ b ∧ b < w4.heap.size) := fun b e => ⟨hG4.2.2 b e, hG4.1.lt b e⟩
  have RW4 := hide ((unhide R2).below (unhide C4))
  have KS1 := hide (sameC_any (RtV.of_ro (unhide O4)) (unhide RW4))
  have KS2 := hide (fun k => sameC_any (w := w4.drewN k) ((RtV.of_ro hG4.1).below ⟨rfl, rfl, rfl, Nat.le_refl _, fun _ _ => rfl⟩) ((unhide RW4).below ⟨rfl, rfl, rfl, Nat.le_refl _, fun _ _ => rfl⟩))
  clear hG4 K4 O3
  go_wp2_with fail
  refine (unhide HNm _ _).mono ?_
  rintro e w4' ⟨rfl, rfl⟩
  go_wp2_with fail
  refine (unhide KS1).mono ?_
  rintro e w4a ⟨rfl, ka, rfl⟩
  go_wp2_with fail
  refine (unhide KS2 ka).mono ?_
  rintro e w4b ⟨rfl, kb, rfl⟩
  obtain ⟨w5, hw5⟩ : ∃ w5, Hid (w5 = (w4'.drewN ka).drewN kb) := ⟨_, rfl⟩
  rw [← unhide hw5]
  have D5 : Hid (Below w4'.heap.size w4' w5) := by rw [unhide hw5]; exact ⟨rfl, rfl, rfl, Nat.le_refl _, fun _ _ => rfl⟩
  have C5 := hide (Bl.go (unhide C4) (unhide C4).size (unhide D5))
  have B5 := hide (Bl.go (unhide B2) (unhide B2).size (unhide C5))
  have HOw5 : Hid (w5.ownsRow w1.heap.size 5 1 (.slice (some ⟨g, 0, none⟩) (n + 64) vcap) (n + 64) ((B ++ marks 64).map By)) := own_below (unhide HOw) (unhide C5)
  have K6 := hide (unhide HKe w5 _ (unhide B5) ((unhide HRx).below (unhide C5)))
  clear KS1 KS2 hw5
  go_wp2_with fail
  refine (unhide K6).mono ?_
  rintro e w6 ⟨rfl, rfl⟩
  clear K6
  go_wp2_with fail
  go_loopg [11] n (fun gg t11 wr => ∃ (i : Nat) (xs : List Int), Hid (i + gg = n) ∧ t11 = .int .i64 (i : Int) ∧ Hid (xs.length = n + 64 ∧ wr.ownsRow w1.heap.size 5 1 (.slice (some ⟨g, 0, none⟩) (n + 64) vcap) xs.length (xs.map By) ∧ Fr (fun q => q = g) w6 wr ∧ BOk xs))
  case atStart => exact ⟨0, B ++ marks 64, by unfold Hid; omega, rfl, unhide hlen, by rw [unhide hlen]; exact unhide HOw5, Fr.refl _ _, unhide HBo⟩
  case round =>
    obtain ⟨i, xs, hi, rfl, hJ⟩ := hrel
    by_cases hlt : i < n
    · obtain ⟨q1, q2, q3, q4⟩ := unhide hJ
      obtain ⟨⟨u0, c0⟩, cf0, hgr⟩ := own_at (by rw [q1] at q2; exact q2) (show i < n + 64 by omega)
      have hst := own_store q2 g i rfl ((i : Int) % 4)
      have hJ2 : Hid ((xs.set i ((i : Int) % 4)).length = n + 64 ∧ (wr.setCell ⟨g, i, none⟩ (.int .u8 ((i : Int) % 4))).ownsRow w1.heap.size 5 1 (.slice (some ⟨g, 0, none⟩) (n + 64) vcap) (xs.set i ((i : Int) % 4)).length ((xs.set i ((i : Int) % 4)).map By) ∧ Fr (fun q => q = g) w6 (wr.setCell ⟨g, i, none⟩ (.int .u8 ((i : Int) % 4))) ∧ BOk (xs.set i ((i : Int) % 4))) := by
        refine ⟨by rw [List.length_set]; exact q1, by rw [List.length_set]; exact hst, q3.setCell _ (.inr rfl) _, fun b hb => ?_⟩
        rcases List.mem_or_eq_of_mem_set hb with r | r
        · exact q4 b r
        · omega
      have i0 : (0 : Int) ≤ (i : Int) := by omega
      have i1 : (i : Int) < (n : Int) := by omega
      have ew : IntKind.u8.wrap ((i : Int) % 4) = (i : Int) % 4 := by rw [IntKind.wrap_u8]; omega
      clear q1 q2 q3 q4 hst
      go_wp2_with fail
      go_roundg (gk - 1)
      case measure => have := unhide hi; omega
      case rel => exact ⟨i + 1, _, by have := unhide hi; unfold Hid; omega, by go_num, hJ2⟩
    · have hiL : i = n := by have := unhide hi; omega
      subst hiL
      obtain ⟨q1, q2, q3, q4⟩ := unhide hJ
      have hup : Rd wr (.slice (some ⟨g, 0, none⟩) i vcap) (xs.take i) := by
        have q := Rd.of_own (bs := xs) (by exact q2)
        exact q.front (by omega)
      have hmB : BOk (xs.take i) := q4.take i
      have hml : (xs.take i).length ≤ 140737488355328 := by rw [List.length_take]; omega
      generalize xs.take i = m at *
      have HRM := hide hup
      have HMB := hide hmB
      have HML := hide hml
      have hg := unhide hg1'
      have O7 : Hid (Ro wr 2 one l.length (flat l)) := Fr.row2 (Fr.row2 (S := fun _ => False) (unhide O4) (Fr.of_below (unhide D5)) (fun _ _ e => e)) q3 (fun b hb e => by have := unhide lt3 b hb; omega)
      have T7 : Hid (Ro wr 2 two l.length (flat l)) := Fr.row2 (Fr.row2 (S := fun _ => False) (unhide T4).1 (Fr.of_below (unhide D5)) (fun _ _ e => e)) q3 (fun b hb e => by have := unhide lt4 b hb; have := (unhide C3).size; omega)
      have B7 : Hid (Below w.heap.size w wr) := (unhide B5).trans (q3.below (unhide B5).size (fun k hk e => by have := (unhide B1).size; omega))
      have hlt4 : Hid (w4'.heap.size ≤ wr.heap.size) := Nat.le_trans (unhide D5).size q3.size
      have KC := hide (copyBytes_any _ m wr hup hml)
      clear q1 q2 q3 q4 hup hmB hml hg
      go_wp2_with fail
      refine (unhide KC).mono ?_
      rintro e w8 ⟨v8, rfl, hG8⟩
      have KD := hide (dDecode_any v8 m w8 (Rd.of_own hG8.1) (unhide HMB) (unhide HML))
      have D8 := hide hG8.2
      clear hG8 KC
      unfold DecPost at KD
      go_wp2_with fail
      refine (unhide KD).mono ?_
      rintro e w9 ⟨nx, rfl, hG9⟩
      have D9 := hide (Bl.go (unhide D8) (unhide D8).size hG9.2.1)
      have KE := hide (decode_any _ m w9 ((unhide HRM).below (unhide D9)) (unhide HMB) (unhide HML))
      unfold DecPost at KE
      have RN := hide (RtV.of_ro hG9.1)
      have HLm := hide (dec_len (unhide HMB))
      generalize errOf (dec m) = em at *
      generalize lstOf (dec m) = ym at *
      clear hG9 KD
      go_wp2_with fail
      refine (unhide KE).mono ?_
      rintro e w10 ⟨th, rfl, hG10⟩
      have D10 := hide (Bl.go (unhide D9) (unhide D9).size hG10.2.1)
      have TH := hide hG10
      have KS := hide (sameC_any (RtV.of_ro hG10.1) ((unhide RN).below hG10.2.1))
      clear hG10 KE
      go_wp2_with fail
      refine (unhide HNm _ _).mono ?_
      rintro e w10' ⟨rfl, rfl⟩
      go_wp2_with fail
      refine (unhide KS).mono ?_
      rintro e w11 ⟨rfl, kc, rfl⟩
      have lo9 := (unhide D9).size
      have lo4 := unhide hlt4
      have lo3 := (unhide C3).size
      have lo43 := unhide hw34
      have dr : Fr (fun _ => False) w10' (w10'.drewN kc) := drewFr _ _
      have O11 : Ro (w10'.drewN kc) 2 one l.length (flat l) := Fr.row2 (Fr.row2 (S := fun _ => False) (unhide O7) (Fr.of_below (unhide D10)) (fun _ _ e => e)) dr (fun _ _ e => e)
      have T11 : Ro (w10'.drewN kc) 2 two l.length (flat l) := Fr.row2 (Fr.row2 (S := fun _ => False) (unhide T7) (Fr.of_below (unhide D10)) (fun _ _ e => e)) dr (fun _ _ e => e)
      have H11 : Ro (w10'.drewN kc) 2 th ym.length (flat ym) := Fr.row2 (unhide TH).1 dr (fun _ _ e => e)
      have bw : Below w.heap.size w (w10'.drewN kc) := Below.drewNB (Bl.go (unhide B7) (unhide B7).size (unhide D10)) kc
      have thl : ∀ b, th.ownBlock = some b → w9.heap.size ≤ b := (unhide TH).2.2
      have wl2 := (unhide B2).size
      have wl7 := (unhide B7).size
      have KA := hide (apartC3 (w10'.drewN kc) w.heap.size one two th l l ym O11 T11 H11 (fun b e1 e2 => by have := unhide lt3 b e1; have := unhide lt4 b e2; omega) (fun b e1 e2 => by have := unhide lt3 b e1; have := thl b e2; omega) (fun b e1 e2 => by have := unhide lt4 b e1; have := thl b e2; omega) (fun b e => by have := unhide lt3 b e; omega) (fun b e => by have := unhide lt4 b e; omega) (fun b e => by have := thl b e; omega) (unhide HLn) (unhide HLn) (unhide HLm))
      obtain ⟨w11, hw11⟩ : ∃ w11, Hid (w11 = w10'.drewN kc) := ⟨_, rfl⟩
      obtain ⟨oa, oc, eo, _, _⟩ := O11.shape
      obtain ⟨ta, tc, et, _, _⟩ := T11.shape
      obtain ⟨ha, hc, eh, _, _⟩ := H11.shape
      rw [← unhide hw11] at KA bw ⊢
      have B11 := hide bw
      clear O11 T11 H11 bw lo9 lo4 lo3 lo43 hw11 dr thl wl2 wl7
      subst eo et eh
      go_wp2_with fail
      refine (unhide KA).mono ?_
      rintro e w12 ⟨rfl, hf⟩
      have F12 := hide hf
      clear hf
      go_wp2_with fail
      go_ret
      refine ⟨rfl, ?_⟩
      refine ((unhide B11).alloc (unhide B11).size _).trans ((unhide F12).below ?_ (fun k hk e => absurd hk (Nat.not_lt.2 e)))
      have := (unhide B11).size
      simp
      omega
end Go.Proofs.Ytjifgnpcadeonaa
