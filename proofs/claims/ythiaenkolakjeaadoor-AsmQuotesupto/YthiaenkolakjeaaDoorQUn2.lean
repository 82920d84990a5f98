/-
  Unquote of any text, on both sides.
-/
import Derived.Test.YthiaenkolakjeaaDoorQMe2
import Derived.Test.YthiaenkolakjeaaDoorQRun
import Derived.Test.YthiaenkolakjeaaDoorQUn
namespace Go.Proofs.YthiaenkolakjeaaDoor
open Go.RowKit Go.Shelf
set_option linter.unusedVariables false
set_option linter.unusedSimpArgs false
set_option maxHeartbeats 1000000 in
set_option maxRecDepth 100000 in
theorem runq_no (s : ByteArray) (w : World) (hm : s.size ≤ 4611686018427387904) (hn : s.size < 2 ∨ (2 ≤ s.size ∧ s.data.toList[0]? ≠ some 34) ∨ (2 ≤ s.size ∧ s.data.toList[0]? = some 34 ∧ s.data.toList[s.size - 1]? ≠ some 34)) :
    Calls Tryd.prog 5 #[.string s] w fun e w' => e = .returned (rsU none) ∧ Below w.heap.size w w' := by
  rcases hn with h | ⟨h2, h0⟩ | ⟨h2, h0, h1⟩
  · have g0 : (s.size : Int) < 2 := by omega
    obtain ⟨E1, hE1⟩ : ∃ E1 : Int, E1 = IntKind.i64.wrap ((s.size : Int) - 1) := ⟨_, rfl⟩
    rw [rsU]
    go_enter Tryd.func5, Tryd.ntmps5
    go_wp2_with fail
    go_ret2
    exact ⟨rfl, Below.refl _ _⟩
  · have g0 : ¬ (s.size : Int) < 2 := by omega
    have g1 : (0 : Int) < (s.size : Int) := by omega
    have i0 : 0 < s.size := by omega
    obtain ⟨n, e0⟩ : ∃ n, s[0].toNat = n := ⟨_, rfl⟩
    have hn : n ≠ 34 := by
      intro hx
      apply h0
      rw [ba_at s i0]
      congr 1
      exact UInt8.toNat_inj.1 (by rw [e0, hx]; rfl)
    have d0 : ((n : Int) != 34) = true := by simp; omega
    clear h0 hm h2
    rw [rsU]
    go_enter Tryd.func5, Tryd.ntmps5
    go_wp2_with fail
    go_ret2
    exact ⟨rfl, Below.refl _ _⟩
  · have g0 : ¬ (s.size : Int) < 2 := by omega
    have g1 : (0 : Int) < (s.size : Int) := by omega
    obtain ⟨E, hE⟩ : ∃ E, Hid (E = s.size - 1) := ⟨_, rfl⟩
    rw [← unhide hE] at h1
    have iE : E < s.size := by have := unhide hE; omega
    have g2 : IntKind.i64.wrap ((s.size : Int) - 1) = (E : Int) := by rw [IntKind.wrap_i64]; have := unhide hE; omega
    have g3 : (0 : Int) ≤ (E : Int) := by omega
    have g4 : (E : Int) < (s.size : Int) := by omega
    obtain ⟨_, b0⟩ := at_list h0
    have e0 : s[0].toNat = 34 := by rw [b0]; rfl
    obtain ⟨n, e1⟩ : ∃ n, s[E].toNat = n := ⟨_, rfl⟩
    have hn : n ≠ 34 := by
      intro hx
      apply h1
      rw [ba_at s iE]
      congr 1
      exact UInt8.toNat_inj.1 (by rw [e1, hx]; rfl)
    have d0 : ((n : Int) != 34) = true := by simp; omega
    clear h0 h1 hm h2 b0
    rw [rsU]
    go_enter Tryd.func5, Tryd.ntmps5
    go_wp2_with fail
    go_ret2
    exact ⟨rfl, Below.refl _ _⟩
set_option maxHeartbeats 1000000 in
set_option maxRecDepth 100000 in
theorem unq_no (s : ByteArray) (w : World) (hm : s.size ≤ 4611686018427387904) (hn : s.size < 2 ∨ (2 ≤ s.size ∧ s.data.toList[0]? ≠ some 34) ∨ (2 ≤ s.size ∧ s.data.toList[0]? = some 34 ∧ s.data.toList[s.size - 1]? ≠ some 34)) :
    Calls Tryd.prog 6 #[.string s] w fun e w' => e = .returned (rsU none) ∧ Below w.heap.size w w' := by
  rcases hn with h | ⟨h2, h0⟩ | ⟨h2, h0, h1⟩
  · have g0 : (s.size : Int) < 2 := by omega
    obtain ⟨E1, hE1⟩ : ∃ E1 : Int, E1 = IntKind.i64.wrap ((s.size : Int) - 1) := ⟨_, rfl⟩
    rw [rsU]
    go_enter Tryd.func6, Tryd.ntmps6
    go_wp2_with fail
    go_ret2
    exact ⟨rfl, Below.refl _ _⟩
  · have g0 : ¬ (s.size : Int) < 2 := by omega
    have g1 : (0 : Int) < (s.size : Int) := by omega
    have i0 : 0 < s.size := by omega
    obtain ⟨n, e0⟩ : ∃ n, s[0].toNat = n := ⟨_, rfl⟩
    have hn : n ≠ 34 := by
      intro hx
      apply h0
      rw [ba_at s i0]
      congr 1
      exact UInt8.toNat_inj.1 (by rw [e0, hx]; rfl)
    have d0 : ((n : Int) != 34) = true := by simp; omega
    clear h0 hm h2
    rw [rsU]
    go_enter Tryd.func6, Tryd.ntmps6
    go_wp2_with fail
    go_ret2
    exact ⟨rfl, Below.refl _ _⟩
  · have g0 : ¬ (s.size : Int) < 2 := by omega
    have g1 : (0 : Int) < (s.size : Int) := by omega
    obtain ⟨E, hE⟩ : ∃ E, Hid (E = s.size - 1) := ⟨_, rfl⟩
    rw [← unhide hE] at h1
    have iE : E < s.size := by have := unhide hE; omega
    have g2 : IntKind.i64.wrap ((s.size : Int) - 1) = (E : Int) := by rw [IntKind.wrap_i64]; have := unhide hE; omega
    have g3 : (0 : Int) ≤ (E : Int) := by omega
    have g4 : (E : Int) < (s.size : Int) := by omega
    obtain ⟨_, b0⟩ := at_list h0
    have e0 : s[0].toNat = 34 := by rw [b0]; rfl
    obtain ⟨n, e1⟩ : ∃ n, s[E].toNat = n := ⟨_, rfl⟩
    have hn : n ≠ 34 := by
      intro hx
      apply h1
      rw [ba_at s iE]
      congr 1
      exact UInt8.toNat_inj.1 (by rw [e1, hx]; rfl)
    have d0 : ((n : Int) != 34) = true := by simp; omega
    clear h0 h1 hm h2 b0
    rw [rsU]
    go_enter Tryd.func6, Tryd.ntmps6
    go_wp2_with fail
    go_ret2
    exact ⟨rfl, Below.refl _ _⟩
set_option maxHeartbeats 2000000 in
set_option maxRecDepth 100000 in
theorem unq_in (s : ByteArray) (w : World) (hEr : Er w) (E : Nat) (l : List UInt8) (hE : s.size = E + 1) (h1 : 1 ≤ E) (hm : s.size ≤ 4194304) (a0 : s.data.toList[0]? = some 34) (aE : s.data.toList[E]? = some 34) (hl : (s.data.toList.take E).drop 1 = l) :
    Calls Tryd.prog 6 #[.string s] w fun e w' => RuP w (un l.length l) e w' := by
  obtain ⟨_, b0⟩ := at_list a0
  obtain ⟨_, bE⟩ := at_list aE
  have e0 : s[0].toNat = 34 := by rw [b0]; rfl
  have eE : s[E].toNat = 34 := by rw [bE]; rfl
  have g0 : ¬ (s.size : Int) < 2 := by omega
  have g1 : (0 : Int) < (s.size : Int) := by omega
  have g2 : IntKind.i64.wrap ((s.size : Int) - 1) = (E : Int) := by rw [IntKind.wrap_i64]; omega
  have g3 : (0 : Int) ≤ (E : Int) := by omega
  have g4 : (E : Int) < (s.size : Int) := by omega
  have g5 : (1 : Int) ≤ (E : Int) := by omega
  have g6 : (E : Int) ≤ (s.size : Int) := by omega
  have hR0 : Hid ((s.extract 1 E).data.toList = l) := by unfold Hid; rw [ex_list]; exact hl
  have hlN : Hid (l.length ≤ 4194304) := by
    unfold Hid; rw [← hl, List.length_drop, List.length_take, ← size_list]; omega
  obtain ⟨W1, eW1⟩ : ∃ W1, W1 = w.alloc (.cells #[.pointer none, .slice none 0 0] 31) := ⟨_, rfl⟩
  have B1 : Hid (Bd w.heap.size w.heap.size [] W1) := by
    unfold Hid; rw [eW1]
    exact ⟨Lib.fresh_isBuilder 31 5 w, by simp⟩
  have F1 : Hid (Below w.heap.size w W1) := by unfold Hid; rw [eW1]; exact (Below.refl _ _).alloc (Nat.le_refl _) _
  have HEr := hide hEr
  obtain ⟨O, hO⟩ : ∃ O, Hid (un l.length l = O) := ⟨_, rfl⟩
  obtain ⟨N, hN⟩ : ∃ N, Hid (l.length = N) := ⟨_, rfl⟩
  rw [unhide hO]
  clear hE hm a0 aE b0 bE hl hEr h1
  go_enter Tryd.func6, Tryd.ntmps6
  go_wp2_with fail
  rw [← eW1]
  clear eW1
  go_loopg [5] N (fun gg t5 wi => ∃ (R : ByteArray) (acc : List UInt8), Hid (R.data.toList.length ≤ gg ∧ acc.length + R.data.toList.length ≤ 4194304) ∧ t5 = .string R ∧ Hid (O = (un R.data.toList.length R.data.toList).map (acc ++ ·)) ∧ Hid (Bd w.heap.size w.heap.size acc wi) ∧ Hid (Below w.heap.size w wi))
  case atStart =>
    refine ⟨_, [], ?_, rfl, ?_, B1, F1⟩
    · unfold Hid
      rw [unhide hR0, unhide hN]
      have := unhide hlN
      rw [unhide hN] at this
      simp; omega
    · unfold Hid
      rw [unhide hR0, ← unhide hO]
      cases un l.length l <;> simp
  case round =>
    obtain ⟨R, acc, hi, rfl, hU, hB, hF⟩ := hrel
    obtain ⟨r, hr⟩ : ∃ r, Hid (R.data.toList = r) := ⟨_, rfl⟩
    rw [unhide hr] at hU hi
    by_cases hr0 : r = []
    · have hemp : R.toList.isEmpty = true := by rw [emp_iff]; exact decide_eq_true ((unhide hr).trans hr0)
      have HO : Hid (O = some acc) := by unfold Hid; rw [unhide hU, hr0]; simp [un]
      clear hr0
      go_wp2_with fail
      refine (str_any (unhide hB)).mono ?_
      rintro e W5 ⟨rfl, f5⟩
      have HF5 : Hid (Below w.heap.size w W5) := (unhide hF).trans f5
      clear f5
      go_wp2_with fail
      go_ret2
      exact ⟨by rw [unhide HO]; rfl, unhide HF5⟩
    · have hRs : R.size = r.length := by rw [size_list, unhide hr]
      have hr1 : 0 < r.length := List.length_pos_iff.2 hr0
      have hemp : R.toList.isEmpty = false := by rw [emp_iff]; exact decide_eq_false (fun h => hr0 ((unhide hr).symm.trans h))
      have HE2 : Hid (Er wr) := (unhide HEr).keep (unhide hF) (unhide HEr).size
      have HC := hide (meant2_any R wr (unhide HE2) (by omega) (by have := unhide hi; omega))
      rw [unhide hr] at HC
      have hst := un_step hr0
      have hle := mn_le r
      have hby := mn_byte r
      obtain ⟨c, hc⟩ : ∃ c, Hid ((mn r).1 = c) := ⟨_, rfl⟩
      obtain ⟨q, hq⟩ : ∃ q, Hid ((mn r).2 = q) := ⟨_, rfl⟩
      rw [unhide hc, unhide hq] at HC hst
      rw [unhide hc] at hby
      rw [unhide hq] at hle
      rw [hst] at hU
      clear hst hr0
      by_cases hz : q = 0
      · subst hz
        have HO : Hid (O = none) := by unfold Hid; rw [unhide hU]; simp
        clear hRs hr1 hle hby
        go_wp2_with fail
        refine (unhide HC).mono ?_
        rintro e W2 ⟨rfl, hb2⟩
        have HB2 : Hid (Below w.heap.size w W2) := (unhide hF).trans (hb2.mono (unhide hB).2)
        clear hb2 HC
        go_wp2_with fail
        go_ret2
        exact ⟨by rw [unhide HO]; rfl, unhide HB2⟩
      · have q0 : ((q : Int) == 0) = false := by simp; omega
        have q1 : (0 : Int) ≤ (q : Int) := by omega
        have q2 : (q : Int) ≤ (R.size : Int) := by omega
        have HR2 : Hid ((R.extract q R.size).data.toList = r.drop q) := by
          unfold Hid
          rw [ex_list, List.take_of_length_le (by rw [size_list]; exact Nat.le_refl _), unhide hr]
        have HU2 : Hid (O = (un (r.drop q).length (r.drop q)).map ((acc ++ [UInt8.ofNat c]) ++ ·)) := by
          unfold Hid
          rw [unhide hU, if_neg hz]
          cases un (r.drop q).length (r.drop q) <;> simp
        have HI2 : Hid ((r.drop q).length ≤ gk - 1 ∧ (acc ++ [UInt8.ofNat c]).length + (r.drop q).length ≤ 4194304) := by
          have h1 := unhide hi
          unfold Hid
          simp only [List.length_append, List.length_singleton, List.length_drop]
          omega
        have hc2 : (UInt8.ofNat c).toNat = c := by simp; omega
        have hgk : Hid (0 < gk) := by have h1 := unhide hi; unfold Hid; omega
        have hal : Hid (acc.length + 1 ≤ 140737488355328) := by have h1 := unhide hi; unfold Hid; omega
        clear hRs hr1 hle hby
        go_wp2_with fail
        refine (unhide HC).mono ?_
        rintro e W2 ⟨rfl, hb2⟩
        have HB2 : Hid (Bd w.heap.size w.heap.size acc W2) := (unhide hB).keep hb2
        have HF2 : Hid (Below w.heap.size w W2) := (unhide hF).trans (hb2.mono (unhide hB).2)
        clear hb2 HC
        go_wp2_with fail
        have HW := wb_any (unhide HB2) (UInt8.ofNat c) (unhide hal)
        rw [hc2] at HW
        refine HW.mono ?_
        rintro e W3 ⟨rfl, b3, f3⟩
        have HB3 : Hid (Bd w.heap.size w.heap.size (acc ++ [UInt8.ofNat c]) W3) := b3
        have HF3 : Hid (Below w.heap.size w W3) := (unhide HF2).trans f3
        clear b3 f3 HW
        go_wp2_with fail
        go_roundg (gk - 1)
        case measure => have := unhide hgk; omega
        case rel => exact ⟨_, _, by unfold Hid; rw [unhide HR2]; exact unhide HI2, rfl, by unfold Hid; rw [unhide HR2]; exact unhide HU2, HB3, HF3⟩
/-- What a text in quotes stands for, if it is one. -/
def uq (L : List UInt8) : Option (List UInt8) :=
  if 2 ≤ L.length ∧ L[0]? = some 34 ∧ L[L.length - 1]? = some 34 then un ((L.take (L.length - 1)).drop 1).length ((L.take (L.length - 1)).drop 1) else none
theorem uq_no {s : ByteArray} (h : ¬ (2 ≤ s.data.toList.length ∧ s.data.toList[0]? = some 34 ∧ s.data.toList[s.data.toList.length - 1]? = some 34)) : s.size < 2 ∨ (2 ≤ s.size ∧ s.data.toList[0]? ≠ some 34) ∨ (2 ≤ s.size ∧ s.data.toList[0]? = some 34 ∧ s.data.toList[s.size - 1]? ≠ some 34) := by
  rw [size_list]
  by_cases h1 : s.data.toList.length < 2
  · exact .inl h1
  by_cases h2 : s.data.toList[0]? = some 34
  · exact .inr (.inr ⟨by omega, h2, fun h3 => h ⟨by omega, h2, h3⟩⟩)
  · exact .inr (.inl ⟨by omega, h2⟩)
theorem unqA_any (s : ByteArray) (w : World) (hEr : Er w) (hm : s.size ≤ 4194304) :
    Calls Tryd.prog 6 #[.string s] w fun e w' => e = .returned (rsU (uq s.data.toList)) ∧ Below w.heap.size w w' := by
  by_cases h : 2 ≤ s.data.toList.length ∧ s.data.toList[0]? = some 34 ∧ s.data.toList[s.data.toList.length - 1]? = some 34
  · rw [uq, if_pos h]
    exact unq_in s w hEr (s.data.toList.length - 1) _ (by rw [size_list]; omega) (by omega) hm h.2.1 h.2.2 rfl
  · rw [uq, if_neg h]
    exact unq_no s w (by omega) (uq_no h)
theorem runqA_any (s : ByteArray) (w : World) (hm : s.size ≤ 4194304) :
    Calls Tryd.prog 5 #[.string s] w fun e w' => e = .returned (rsU (uq s.data.toList)) ∧ Below w.heap.size w w' := by
  by_cases h : 2 ≤ s.data.toList.length ∧ s.data.toList[0]? = some 34 ∧ s.data.toList[s.data.toList.length - 1]? = some 34
  · rw [uq, if_pos h]
    exact runq_in s w (s.data.toList.length - 1) _ (by rw [size_list]; omega) (by omega) hm h.2.1 h.2.2 rfl
  · rw [uq, if_neg h]
    exact runq_no s w (by omega) (uq_no h)
end Go.Proofs.YthiaenkolakjeaaDoor
