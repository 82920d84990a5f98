/-
  Back, OneForm.
-/
import Derived.Test.YtjifgnpcadeonaaBoth
namespace Go.Proofs.Ytjifgnpcadeonaa
open Go.RowKit
set_option linter.unusedVariables false

theorem encE_bad {l : List (Int × Int)} (h : encE l ≠ 0) : 2000 < l.length ∨ okL l = false := by
  unfold encE at h
  split at h
  · left; assumption
  · split at h
    · exact absurd rfl h
    · right; simpa using ‹¬ okL l = true›
theorem erN_zero (op a : Int) : (erN op a != 0) = !okB op a := by unfold erN; cases okB op a <;> rfl
theorem encB_bad {l : List (Int × Int)} (h : encE l ≠ 0) : encB l = [] := by unfold encB; rw [if_neg h]
theorem okL_take {l : List (Int × Int)} {i : Nat} {p : Int × Int} (hp : l[i]? = some p) : okL (l.take (i + 1)) = (okL (l.take i) && okB p.1 p.2) := by
  rw [itake_push l i p hp]; simp [okL, List.all_append]
theorem efm_bok : ∀ (l : List (Int × Int)), okL l = true → (∀ p ∈ l, I64 p.1 ∧ I64 p.2) → BOk (efm l)
  | [], _, _ => fun x hx => by cases hx
  | p :: r, h, hI => by
    have hp : okB p.1 p.2 = true := by simp [okL] at h; exact h.1
    have hr : okL r = true := by simp [okL] at h ⊢; exact h.2
    obtain ⟨q1, q2⟩ := okB_split hp
    have q3 : 0 ≤ p.1 ∧ p.1 < 67 := by simpa [isOp] using q1
    obtain ⟨i1, i2⟩ := hI p (List.mem_cons_self ..)
    have e : efm (p :: r) = [p.1] ++ (opF (kd p.1.toNat) p.2 ++ efm r) := by simp [efm, ifm]
    rw [e]
    refine BOk.append ?_ (BOk.append ?_ (efm_bok r hr (fun q hq => hI q (List.mem_cons_of_mem _ hq))))
    · intro x hx; simp at hx; omega
    · unfold opF
      have hb := foldI_bd p.2 i2.1 i2.2
      split
      · intro x hx; cases hx
      · split
        · exact uform_bok 9 _ (by omega)
        · exact uform_bok 9 _ (by omega)
theorem encB_bok {l : List (Int × Int)} (hI : ∀ p ∈ l, I64 p.1 ∧ I64 p.2) : BOk (encB l) := by
  unfold encB
  split
  · rename_i h; exact efm_bok l (encE_ok h).2 hI
  · intro x hx; cases hx

set_option maxRecDepth 100000 in
set_option maxHeartbeats 4000000 in
theorem backLaw {w : World} {lv : Value} {l : List (Int × Int)} (h : RtV w lv l) (hN : l.length ≤ 8796093021952) (hI : ∀ p ∈ l, I64 p.1 ∧ I64 p.2) :
    Calls Try.prog 5 #[lv] w fun e w' => e = .returned (.bool true) ∧ Below w.heap.size w w' := by
  have HR := hide (fun w' (q : Below w.heap.size w w') => h.below q)
  have HEn := hide (fun w' (q : Below w.heap.size w w') => encode_any (h.below q) hN hI)
  have HW := hide works_any
  have HBo := hide (encB_bok hI)
  have HLn := hide (encB_len l)
  have HII := hide hI
  obtain ⟨a, cap, rfl, hlc, hcm, hcell⟩ := h
  have HC := hide hcell
  obtain ⟨L, hL⟩ : ∃ L, Hid (l.length = L) := ⟨_, rfl⟩
  rw [unhide hL] at hN hlc HEn HR ⊢
  clear hcell hI
  unfold EncPost at HEn
  by_cases h0 : encE l = 0
  · have HD := hide (dec_back (unhide HII) h0)
    rw [h0] at HEn
    generalize encB l = xs at *
    go_enter Try.func5, Try.ntmps5
    go_wp2_with fail
    refine (unhide HW _).mono ?_
    rintro e w1 ⟨rfl, hb1⟩
    have KE := hide (unhide HEn w1 hb1)
    have B1 := hide hb1
    clear hb1 HEn HW
    go_wp2_with fail
    refine (unhide KE).mono ?_
    rintro e w2 ⟨x, rfl, hox, hb2⟩
    have KD := hide (decode_any x xs w2 (Rd.of_own hox) (unhide HBo) (by have := unhide HLn; omega))
    rw [unhide HD] at KD
    have B2 := hide (Bl.go (unhide B1) (unhide B1).size hb2)
    clear hox hb2 KE
    go_wp2_with fail
    refine (unhide KD).mono ?_
    rintro e w3 ⟨y, rfl, hG⟩
    have B3 := hide (Bl.go (unhide B2) (unhide B2).size hG.2.1)
    have KS := hide (sameC_any (RtV.of_ro hG.1) (unhide HR w3 (unhide B3)))
    have ee : errOf (.ok l) = 0 := rfl
    rw [ee]
    clear hG KD ee
    go_wp2_with fail
    refine (unhide KS).mono ?_
    rintro e w4 ⟨rfl, k, rfl⟩
    go_wp2_with fail
    go_ret
    exact ⟨rfl, Below.drewNB (unhide B3) _⟩
  · have HBad := hide (encE_bad h0)
    rw [encB_bad h0] at HEn
    have hne : (encE l != 0) = true := by simpa using h0
    have HCk := hide check_any
    generalize encE l = er at *
    go_enter Try.func5, Try.ntmps5
    go_wp2_with fail
    refine (unhide HW _).mono ?_
    rintro e w1 ⟨rfl, hb1⟩
    have KE := hide (unhide HEn w1 hb1)
    have B1 := hide hb1
    clear hb1 HEn HW
    go_wp2_with fail
    refine (unhide KE).mono ?_
    rintro e w2 ⟨x, rfl, hox, hb2⟩
    have B2 := hide (Bl.go (unhide B1) (unhide B1).size hb2)
    obtain ⟨xa, xc, hx⟩ : ∃ xa xc, x = .slice xa 0 xc := by
      rcases hox.2 with ⟨e, _⟩ | ⟨g, c, cur, e, _⟩
      · exact ⟨none, 0, e⟩
      · exact ⟨_, c, e⟩
    subst hx
    clear hox hb2 KE
    go_wp2_with fail
    go_loopg [5, 6] L (fun g t5 t6 wr => ∃ (i : Nat) (b : Bool), Hid (i + g = L) ∧ t5 = .bool b ∧ t6 = .int .i64 (i : Int) ∧ Hid (b = (decide (2000 < L) || !okL (l.take i))) ∧ Hid (Below w.heap.size w wr))
    case atStart => exact ⟨0, decide ((2000 : Int) < (L : Int)), by unfold Hid; omega, rfl, rfl, by unfold Hid; simp [okL]; omega, unhide B2⟩
    case round =>
      obtain ⟨i, b, hi, rfl, rfl, hb, hB⟩ := hrel
      by_cases hlt : i < L
      · have hil : i < l.length := by rw [unhide hL]; exact hlt
        obtain ⟨⟨op, y⟩, hpr⟩ : ∃ q, l[i]? = some q := ⟨_, List.getElem?_eq_getElem hil⟩
        obtain ⟨g, off, rfl, hg, c0, c1⟩ := unhide HC i _ hpr
        have k0 := ((unhide hB).cell (p := ⟨g, off + i * 2, none⟩) hg).trans c0
        have k1 := ((unhide hB).cell (p := ⟨g, off + i * 2 + 1, none⟩) hg).trans c1
        have hgr := Nat.lt_of_lt_of_le hg (unhide hB).size
        have i0 : (0 : Int) ≤ (i : Int) := by omega
        have i1 : (i : Int) < (L : Int) := by omega
        have HT := hide (okL_take hpr)
        have HK := hide (fun w => unhide HCk w op y)
        have HZ := erN_zero op y
        generalize erN op y = en at *
        clear c0 c1 hpr hil
        cases b
        · have hT0 : Hid (false = (decide (2000 < L) || !okL (l.take i))) := hb
          go_wp2_with fail
          refine (unhide HK _).mono ?_
          rintro e w3 ⟨rfl, hb3⟩
          have B3 := hide (Bl.go (unhide hB) (unhide hB).size hb3)
          clear hb3
          go_wp2_with fail
          go_roundg (gk - 1)
          case measure => have := unhide hi; omega
          case rel =>
            refine ⟨i + 1, _, by have := unhide hi; unfold Hid; omega, rfl, by go_num, ?_, unhide B3⟩
            have q := unhide hT0
            have q2 := unhide HT
            unfold Hid
            rw [q2]
            cases hd : decide (2000 < L) <;> cases ho : okL (l.take i) <;> rw [hd, ho] at q <;> simp at q ⊢
        · have hT0 : Hid (true = (decide (2000 < L) || !okL (l.take i))) := hb
          go_wp2_with fail
          go_roundg (gk - 1)
          case measure => have := unhide hi; omega
          case rel =>
            refine ⟨i + 1, true, by have := unhide hi; unfold Hid; omega, rfl, by go_num, ?_, unhide hB⟩
            have q := unhide hT0
            unfold Hid
            rw [unhide HT]
            cases hd : decide (2000 < L) <;> cases ho : okL (l.take i) <;> rw [hd, ho] at q <;> simp at q ⊢
      · have hiL : i = L := by have := unhide hi; omega
        subst hiL
        have hbt : b = true := by
          rw [unhide hb, List.take_of_length_le (by rw [unhide hL]; exact Nat.le_refl _)]
          rcases unhide HBad with q | q
          · rw [unhide hL] at q; simp [q]
          · rw [q]; simp
        subst hbt
        go_wp2_with fail
        go_ret
        exact ⟨rfl, unhide hB⟩

set_option maxRecDepth 100000 in
set_option maxHeartbeats 4000000 in
theorem oneLaw (bv : Value) (B : List Int) (w : World) (hR : Rd w bv B) (hB : BOk B) (hN : B.length ≤ 140737488355328) :
    Calls Try.prog 6 #[bv] w fun e w' => e = .returned (.bool true) ∧ Below w.heap.size w w' := by
  have HRB := hide (fun w' (q : Below w.heap.size w w') => hR.below q)
  have HD := hide (fun w' (q : Below w.heap.size w w') => decode_any bv B w' (hR.below q) hB hN)
  have HW := hide works_any
  cases hd : dec B with
  | error er =>
    rw [hd] at HD
    have her : (er != 0) = true := by simpa using errOf_ne er hd
    clear hd hR hB hN
    go_enter Try.func6, Try.ntmps6
    go_wp2_with fail
    refine (unhide HW _).mono ?_
    rintro e w1 ⟨rfl, hb1⟩
    have KD := hide (unhide HD w1 hb1)
    have B1 := hide hb1
    clear hb1 HD HW
    go_wp2_with fail
    refine (unhide KD).mono ?_
    rintro e w2 ⟨y, rfl, hG⟩
    have B2 := hide (Bl.go (unhide B1) (unhide B1).size hG.2.1)
    have ee : errOf (.error er) = er := rfl
    have el : lstOf (.error er) = [] := rfl
    rw [ee]
    rw [el] at hG
    obtain ⟨ya, yc, hy, _, _⟩ := hG.1.shape
    have hy' : y = .slice ya 0 yc := hy
    subst hy'
    clear hG KD ee el hy
    go_wp2_with fail
    go_ret
    exact ⟨rfl, unhide B2⟩
  | ok l =>
    rw [hd] at HD
    obtain ⟨e1, e2, e3⟩ := dec_one hB hd
    have HI := hide e3
    have H1 := hide e1
    have H2 := hide e2
    have hln := (encE_ok e1).1
    clear hd hR hB hN e1 e2 e3
    go_enter Try.func6, Try.ntmps6
    go_wp2_with fail
    refine (unhide HW _).mono ?_
    rintro e w1 ⟨rfl, hb1⟩
    have KD := hide (unhide HD w1 hb1)
    have B1 := hide hb1
    clear hb1 HD HW
    go_wp2_with fail
    refine (unhide KD).mono ?_
    rintro e w2 ⟨y, rfl, hG⟩
    have B2 := hide (Bl.go (unhide B1) (unhide B1).size hG.2.1)
    have ee : errOf (.ok l) = 0 := rfl
    have el : lstOf (.ok l) = l := rfl
    rw [ee]
    rw [el] at hG
    have KE := hide (encode_any (RtV.of_ro hG.1) (by omega) (unhide HI))
    unfold EncPost at KE
    rw [unhide H1, unhide H2] at KE
    clear hG KD ee el
    go_wp2_with fail
    refine (unhide KE).mono ?_
    rintro e w3 ⟨z, rfl, hoz, hb3⟩
    have B3 := hide (Bl.go (unhide B2) (unhide B2).size hb3)
    have KS := hide (same_any z bv B w3 (Rd.of_own hoz) (unhide HRB w3 (unhide B3)))
    clear hoz hb3 KE
    go_wp2_with fail
    refine (unhide KS).mono ?_
    rintro e w4 ⟨rfl, k, rfl⟩
    go_wp2_with fail
    go_ret
    exact ⟨rfl, Below.drewNB (unhide B3) _⟩
end Go.Proofs.Ytjifgnpcadeonaa
