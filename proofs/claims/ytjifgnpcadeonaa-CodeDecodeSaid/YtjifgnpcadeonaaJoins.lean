/-
  Joins.
-/
import Derived.Test.YtjifgnpcadeonaaWorks
namespace Go.Proofs.Ytjifgnpcadeonaa
open Go.RowKit
set_option linter.unusedVariables false

theorem Rd.of_ro {w : World} {v : Value} {bs : List Int} (h : Ro w 1 v bs.length (bs.map By)) : Rd w v bs := by
  by_cases h0 : bs.length = 0
  · obtain rfl := List.eq_nil_of_length_eq_zero h0
    rcases h.2 with ⟨e, _⟩ | ⟨g, off, cap, cur, t, e, hh, h1, h2, _⟩
    · exact .inl ⟨e, rfl⟩
    · exact .inr ⟨g, off, cap, e, h1, h2, (Array.getElem?_eq_some_iff.1 hh).1, fun i hi => by simp at hi⟩
  · obtain ⟨g, off, cap, e, h1, h2, h3, h4⟩ := h.full (by omega)
    refine .inr ⟨g, off, cap, e, h1, h2, h3, fun i hi => ?_⟩
    rw [h4 i (by omega), List.getElem?_map, List.getElem?_eq_getElem hi, List.getD_eq_getElem?_getD, List.getElem?_eq_getElem hi]
    rfl
theorem Below.drewNB {B : Nat} {a w : World} (h : Below B a w) (n : Nat) : Below B a (w.drewN n) := ⟨h.os, h.tape, h.output, h.size, h.block⟩
theorem encE_ok {l : List (Int × Int)} (h : encE l = 0) : l.length ≤ 2000 ∧ okL l = true := by
  unfold encE at h
  split at h
  · omega
  · split at h
    · rename_i h1 h2; exact ⟨by omega, h2⟩
    · omega
theorem encE_of {l : List (Int × Int)} (h1 : l.length ≤ 2000) (h2 : okL l = true) : encE l = 0 := by
  unfold encE
  rw [if_neg (by omega), if_pos h2]
theorem encB_ok {l : List (Int × Int)} (h : encE l = 0) : encB l = efm l := by unfold encB; rw [if_pos h]
theorem enc_join {a b : List (Int × Int)} (h1 : encE a = 0) (h2 : encE b = 0) (h3 : a.length + b.length ≤ 2000) : encE (a ++ b) = 0 ∧ encB (a ++ b) = encB a ++ encB b := by
  have e : encE (a ++ b) = 0 := encE_of (by rw [List.length_append]; exact h3) (by unfold okL; rw [List.all_append]; simp only [Bool.and_eq_true]; exact ⟨(encE_ok h1).2, (encE_ok h2).2⟩)
  refine ⟨e, ?_⟩
  rw [encB_ok e, encB_ok h1, encB_ok h2]
  simp [efm, List.flatMap_append]
theorem encB_len (l : List (Int × Int)) : (encB l).length ≤ 22000 := by
  unfold encB
  split
  · rename_i h
    have := (encE_ok h).1
    have := efm_len l
    omega
  · simp

set_option maxRecDepth 100000 in
set_option maxHeartbeats 4000000 in
theorem joinsLaw {w : World} {av bv : Value} {a b : List (Int × Int)} (ha : RtV w av a) (hNa : a.length ≤ 8796093021952) (hIa : ∀ p ∈ a, I64 p.1 ∧ I64 p.2) (hb : RtV w bv b) (hNb : b.length ≤ 8796093021952) (hIb : ∀ p ∈ b, I64 p.1 ∧ I64 p.2) :
    Calls Try.prog 7 #[av, bv] w fun e w' => e = .returned (.bool true) ∧ Below w.heap.size w w' := by
  have H1 := hide (encode_any ha hNa hIa)
  have H2 := hide (fun w' (q : Below w.heap.size w w') => encode_any (hb.below q) hNb hIb)
  have HC := hide (fun w' (q : Below w.heap.size w w') => copyI_any (ha.below q) hNa)
  have HBb := hide (fun w' (q : Below w.heap.size w w') => hb.below q)
  have HI : Hid (∀ p ∈ a ++ b, I64 p.1 ∧ I64 p.2) := fun p hp => (List.mem_append.1 hp).elim (hIa p) (hIb p)
  have HW := hide works_any
  have HJ := hide (@enc_join a b)
  have HL1 := hide (encB_len a)
  have HL2 := hide (encB_len b)
  obtain ⟨aa, ac, rfl, ha1, ha2, _⟩ := ha
  obtain ⟨ba, bc, rfl, hb1, hb2, _⟩ := hb
  obtain ⟨La, hLa⟩ : ∃ L, Hid (a.length = L) := ⟨_, rfl⟩
  obtain ⟨Lb, hLb⟩ : ∃ L, Hid (b.length = L) := ⟨_, rfl⟩
  rw [unhide hLa] at ha1 hNa H1 HC ⊢
  rw [unhide hLb] at hb1 hNb H2 HBb ⊢
  rw [unhide hLa, unhide hLb] at HJ
  have ew : IntKind.i64.wrap ((La : Int) + (Lb : Int)) = (La : Int) + (Lb : Int) := by rw [IntKind.wrap_i64]; omega
  unfold EncPost at H1 H2
  generalize hea : encE a = ea at *
  generalize heb : encE b = eb at *
  generalize hxs : encB a = xs at *
  generalize hys : encB b = ys at *
  clear hea heb hxs hys hIa hIb
  go_enter Try.func7, Try.ntmps7
  go_wp2_with fail
  refine (unhide H1).mono ?_
  rintro e w1 ⟨x, rfl, hox, hb1'⟩
  have R1 := hide (Rd.of_own hox)
  have K2 := hide (unhide H2 w1 hb1')
  have B1 := hide hb1'
  clear hox hb1' H1 H2
  go_wp2_with fail
  refine (unhide K2).mono ?_
  rintro e w2 ⟨y, rfl, hoy, hb2'⟩
  have R2 := hide (Rd.of_own hoy)
  have B2 := hide (Bl.go (unhide B1) (unhide B1).size hb2')
  have R1' := hide ((unhide R1).below hb2')
  clear hoy hb2' K2 R1
  go_wp2_with fail
  refine (unhide HW _).mono ?_
  rintro e w3 ⟨rfl, hb3⟩
  have B3 := hide (Bl.go (unhide B2) (unhide B2).size hb3)
  have X3 := hide ((unhide R1').below hb3)
  have Y3 := hide ((unhide R2).below hb3)
  clear hb3 R1' R2 HW
  by_cases h1 : ea = 0
  · by_cases h2 : eb = 0
    · by_cases h3 : La + Lb ≤ 2000
      · obtain ⟨j1, j2⟩ := unhide HJ h1 h2 h3
        subst h1 h2
        have h3' : ¬ (2000 : Int) < (La : Int) + (Lb : Int) := by omega
        have KC := hide (unhide HC w3 (unhide B3))
        have J1 := hide j1
        have J2 := hide j2
        clear j1 j2 HJ HC
        go_wp2_with fail
        refine (unhide KC).mono ?_
        rintro e w4 ⟨v4, rfl, hG4⟩
        have G4 := hide hG4
        clear hG4 KC
        go_wp2_with (first | (at_builtin; refine wpList_appI rfl _ _ rfl _ a rfl (unhide G4).1 _ b rfl (unhide HBb _ (Bl.go (unhide B3) (unhide B3).size (unhide G4).2.1)) (by rw [unhide hLa, unhide hLb]; omega) ?_))
        intro v5 w5 hr5 hg5 hat5
        have f5 : Below w3.heap.size w3 w5 := (unhide G4).2.1.trans ((((Fr.refl (fun k => v4.ownBlock = some k) w4).grown hg5 (fun k e => .inr e))).below (unhide G4).2.1.size (fun k hk e => by have := (unhide G4).2.2 k e; omega))
        have B5 := hide (Bl.go (unhide B3) (unhide B3).size f5)
        have X5 := hide ((unhide X3).below f5)
        have Y5 := hide ((unhide Y3).below f5)
        have K6 := hide (encode_any (RtV.of_ro (l := a ++ b) (by simpa using hr5)) (by rw [List.length_append, unhide hLa, unhide hLb]; omega) (unhide HI))
        unfold EncPost at K6
        rw [unhide J1, unhide J2] at K6
        clear hr5 hg5 hat5 f5 G4 X3 Y3
        go_wp2_with fail
        refine (unhide K6).mono ?_
        rintro e w6 ⟨z, rfl, hoz, hb6⟩
        have Z6 := hide (Rd.of_own hoz)
        have B6 := hide (Bl.go (unhide B5) (unhide B5).size hb6)
        have Y6 := hide ((unhide Y5).below hb6)
        have K7 := hide (copyBytes_any x xs w6 ((unhide X5).below hb6) (by have := unhide HL1; omega))
        clear hoz hb6 K6 X5 Y5
        go_wp2_with fail
        refine (unhide K7).mono ?_
        rintro e w7 ⟨v7, rfl, hG7⟩
        have G7 := hide hG7
        clear hG7 K7
        go_wp2_with (first | (at_builtin; refine wpList_appB rfl _ _ rfl _ xs rfl (Ro.of_own (unhide G7).1) _ ys rfl ((unhide Y6).below (unhide G7).2) (by have := unhide HL1; have := unhide HL2; omega) ?_))
        intro v8 w8 hr8 hg8 hat8
        have f8 : Below w6.heap.size w6 w8 := (unhide G7).2.trans ((((Fr.refl (fun k => v7.ownBlock = some k) w7).grown hg8 (fun k e => .inr e))).below (unhide G7).2.size (fun k hk e => by have := ((unhide G7).1.lt k e).1; omega))
        have B8 := hide (Bl.go (unhide B6) (unhide B6).size f8)
        have K9 := hide (same_any z v8 (xs ++ ys) w8 ((unhide Z6).below f8) (Rd.of_ro (bs := xs ++ ys) (by simpa using hr8)))
        clear hr8 hg8 hat8 f8 G7 Y6 Z6
        go_wp2_with fail
        refine (unhide K9).mono ?_
        rintro e w9 ⟨rfl, k, rfl⟩
        go_wp2_with fail
        go_ret
        exact ⟨rfl, Below.drewNB (unhide B8) _⟩
      · have h3' : (2000 : Int) < (La : Int) + (Lb : Int) := by omega
        subst h1 h2
        clear h3
        go_wp2_with fail
        go_ret
        exact ⟨rfl, unhide B3⟩
    · subst h1
      have h2' : (eb != 0) = true := by simpa using h2
      go_wp2_with fail
      go_ret
      exact ⟨rfl, unhide B3⟩
  · have h1' : (ea != 0) = true := by simpa using h1
    go_wp2_with fail
    go_ret
    exact ⟨rfl, unhide B3⟩
end Go.Proofs.Ytjifgnpcadeonaa
