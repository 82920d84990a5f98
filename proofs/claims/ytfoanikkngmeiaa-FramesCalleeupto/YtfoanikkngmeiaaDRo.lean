/-
  RightObject, the document's.
-/
import Derived.Test.YtfoanikkngmeiaaDVa
import Derived.Test.YtfoanikkngmeiaaDKe
import Derived.Deep.Cut
namespace Go.Proofs.Ytfoanikkngmeiaa
open Go.RowKit
set_option linter.unusedVariables false
set_option linter.unusedSimpArgs false
set_option maxRecDepth 100000 in
set_option maxHeartbeats 6400000 in
theorem robject_any {w : World} {lv v : Value} {os : List Ob} {o : Ob} (h : ObA w v o) (ho : OsV w lv os) (hO : os.length ≤ 1048576) (hN : o.its.length ≤ 1048576) (hK : o.keys.length ≤ 1048576) :
    Calls Try.prog 21 #[lv, v] w fun e w' => e = .returned (.bool (oRb (kinds os) o)) ∧ Below w.heap.size w w' := by
  obtain ⟨iv, kv, rfl, hi, hk⟩ := h
  have HV : Hid (∀ W k n, Below w.heap.size w W → Calls Try.prog 40 #[lv, .agg #[.int .i64 k, .int .i64 n]] W fun e w' => e = .returned (.bool (vRb (kinds os) (k, n))) ∧ Below W.heap.size W w') := fun W k n b => right_any (ho.below b (Nat.le_refl _)) hO k n
  have HK : Hid (∀ W, Below w.heap.size w W → Calls Try.prog 41 #[kv] W fun e w' => e = .returned (.bool (decide (o.keys.length ≤ 256) && kRb o.keys)) ∧ Below W.heap.size W w') := fun W b => rkeys_any (hk.below b (Nat.le_refl _)) hK
  obtain ⟨oa, oc, rfl, _, _⟩ := ho.shape
  have HE := hide (fun i p (hp : o.its[i]? = some p) => hi.elem zI hp)
  obtain ⟨ia, ic, rfl, hi1, hi2⟩ := hi.shape
  obtain ⟨ka, kc, rfl, hk1, hk2⟩ := hk.shape
  unfold maxLen at hi2 hk2
  clear hi hk ho
  obtain ⟨kd, its, ks, fn, cp, sh⟩ := o
  simp only at *
  have HO2 : Hid (oRb (kinds os) ⟨kd, its, ks, fn, cp, sh⟩ = (fRb ⟨kd, its, ks, fn, cp, sh⟩ && its.all (vRb (kinds os)))) := hide rfl
  rw [unhide HO2]
  clear HO2
  generalize vRb (kinds os) = V at *
  generalize os.length = OL at *
  obtain ⟨L, hL⟩ : ∃ L, Hid (its.length = L) := ⟨_, hide rfl⟩
  obtain ⟨X, hX⟩ : ∃ X, Hid (w.heap.size = X) := ⟨_, hide rfl⟩
  unfold fRb
  simp only
  rw [unhide hL] at hN hi1 HE ⊢
  generalize kRb ks = KR at *
  generalize ks.length = M at *
  obtain ⟨NC, hNC⟩ : ∃ NC, Hid (((cp == 0) && !sh) = NC) := ⟨_, hide rfl⟩
  rw [unhide hNC]
  obtain ⟨R, hR⟩ : ∃ R, Hid (((if kd = 6 then (decide (L ≤ 4096) && decide (M = 0) && (fn == 0) && NC) else if kd = 7 then (decide (L ≤ 256) && decide (L = M) && KR && (fn == 0) && NC) else if kd = 8 then (decide (L ≤ 4096) && decide (M = 0) && decide (0 ≤ fn) && NC) else if kd = 9 then (decide (1 ≤ cp) && decide (cp ≤ 64) && decide ((L : Int) ≤ cp) && decide (M = 0) && (fn == 0)) else false) && its.all V) = R) := ⟨_, hide rfl⟩
  rw [unhide hR]
  have HNB := hide (bl_box w)
  have HBX := hide (fun O => heap_alloc_new w O)
  go_enter Try.func21, Try.ntmps21
  go_wp2_with fail
  go_loopg [5] L (fun gg t5 wr => ∃ (i : Nat), Hid (i + gg = L) ∧ t5 = .int .i64 (i : Int) ∧ Hid (Below w.heap.size w wr ∧ wr.heap[w.heap.size]? = some (.cells #[.int .i64 kd, .slice ia L ic, .slice ka M kc, .int .i64 fn, .int .i64 cp, .bool sh] 51) ∧ (its.take i).all V = true))
  case atStart => exact ⟨0, by unfold Hid; omega, rfl, hide ⟨unhide HNB _, unhide HBX _, by simp⟩⟩
  case round =>
    obtain ⟨i, hi, rfl, hG⟩ := hrel
    obtain ⟨q, qf, ql⟩ := blk_cells (unhide hG).2.1
    have q0 := q 0
    have q1 := q 1
    have q2 := q 2
    have q3 := q 3
    have q4 := q 4
    have q5 := q 5
    simp only [List.getElem?_toArray, List.getElem?_cons_zero, List.getElem?_cons_succ] at q0 q1 q2 q3 q4 q5
    clear q qf
    by_cases hlt : i < L
    · have hil : i < its.length := by rw [unhide hL]; exact hlt
      obtain ⟨p, hp⟩ : ∃ p, its[i]? = some p := ⟨_, List.getElem?_eq_getElem hil⟩
      obtain ⟨b, off, _, ee, _, _, hb, c⟩ := unhide HE i p hp
      cases ee
      have hs := (unhide hG).1
      have k0 : wr.cell? ⟨b, off + i * 2, none⟩ = some (.int .i64 p.1) := (hs.cell (p := ⟨b, off + i * 2, none⟩) hb).trans (by have := c 0 _ rfl; simpa using this)
      have k1 : wr.cell? ⟨b, off + i * 2 + 1, none⟩ = some (.int .i64 p.2) := (hs.cell (p := ⟨b, off + i * 2 + 1, none⟩) hb).trans (by have := c 1 _ rfl; simpa using this)
      have hbr := Nat.lt_of_lt_of_le hb hs.size
      have i0 : (0 : Int) ≤ (i : Int) := by omega
      have i1 : (i : Int) < (L : Int) := by omega
      have HP := hide hp
      have HVV := hide (unhide HV wr p.1 p.2 hs)
      clear c hp hs HK
      go_wp2_with fail
      refine (unhide HVV).mono ?_
      rintro e w2 ⟨rfl, b2⟩
      have HB2 : Hid (Below w.heap.size w w2 ∧ w2.heap[w.heap.size]? = some (.cells #[.int .i64 kd, .slice (some ⟨b, off, none⟩) L ic, .slice ka M kc, .int .i64 fn, .int .i64 cp, .bool sh] 51)) := ⟨bl_past (unhide hG).1 b2, (b2.block _ (by have := (unhide hG).2.1; exact (Array.getElem?_eq_some_iff.1 this).1)).trans (unhide hG).2.1⟩
      clear b2 HVV
      cases hv : V (p.1, p.2) with
      | true =>
        have HB3 : Hid (Below w.heap.size w w2 ∧ w2.heap[w.heap.size]? = some (.cells #[.int .i64 kd, .slice (some ⟨b, off, none⟩) L ic, .slice ka M kc, .int .i64 fn, .int .i64 cp, .bool sh] 51) ∧ (its.take (i + 1)).all V = true) := ⟨(unhide HB2).1, (unhide HB2).2, all_take (unhide hG).2.2 (unhide HP) hv⟩
        clear HP hG hv HB2 q0 q1 q2 q3 q4 q5
        go_wp2_with fail
        go_roundg (gk - 1)
        case measure => have := unhide hi; omega
        case rel => exact ⟨i + 1, by have := unhide hi; unfold Hid; omega, by go_num, HB3⟩
      | false =>
        have HR : Hid (R = false) := hide (by rw [← unhide hR, all_no (unhide HP) hv, Bool.and_false])
        clear HP hG hv q0 q1 q2 q3 q4 q5
        go_wp2_with fail
        go_ret
        exact ⟨by rw [unhide HR]; rfl, (unhide HB2).1⟩
    · have hiL : i = L := by have := unhide hi; omega
      have HF : Hid (∀ b : Bool, (b && its.all V) = b) := fun b => by
        have := (unhide hG).2.2
        rw [List.take_of_length_le (by rw [unhide hL, hiL]; exact Nat.le_refl _)] at this
        rw [this]; simp
      have HB2 := hide (unhide hG).1
      have d9 : decide ((i : Int) < (L : Int)) = false := decide_eq_false (by omega)
      have e9 : ¬ i < L := hlt
      clear hG HE HV hiL hlt
      go_upto_region 7 with fail
      go_cut [7] from 8 (fun t7 wc => t7 = .bool NC ∧ wc = wr)
      case first =>
        by_cases hcp : cp = 0
        · have dcp : (cp == 0) = true := by simp [hcp]
          have HN : Hid ((!sh) = NC) := hide (by rw [← unhide hNC, dcp]; rfl)
          clear hcp
          go_wp2_with fail
          go_meet
          case rel => exact ⟨by rw [← unhide HN], rfl⟩
        · have dcp : (cp == 0) = false := by simpa using hcp
          have HN : Hid (false = NC) := hide (by rw [← unhide hNC, dcp]; rfl)
          clear hcp
          go_wp2_with fail
          go_meet
          case rel => exact ⟨by rw [← unhide HN], rfl⟩
      case rest =>
        obtain ⟨e7, ew⟩ := hcut
        subst e7
        subst ew
        have HF2 := HF
        rw [unhide hX] at ql q0 q1 q2 q3 q4 q5 ⊢
        by_cases h6 : kd = 6
        · subst h6
          have HF : Hid (R = (decide (L ≤ 4096) && decide (M = 0) && (fn == 0) && NC)) := hide (by rw [← unhide hR, unhide HF2]; simp)
          clear HF2
          by_cases cL4096 : L ≤ 4096
          · have dL4096 : decide ((L : Int) ≤ 4096) = true := decide_eq_true (by omega)
            by_cases cM0 : M = 0
            · have dM0 : ((M : Int) == 0) = true := by simp [cM0]
              cases NC with
              | false =>
                have HR : Hid ((decide (L ≤ 4096) && decide (M = 0) && (fn == 0) && false) = false) := hide (by simp [])
                clear cL4096 cM0
                go_wp2_with fail
                go_ret
                exact ⟨by rw [unhide HF, unhide HR]; rfl, unhide HB2⟩
              | true =>
                by_cases cfn0 : fn = 0
                · have dfn0 : (fn == 0) = true := by simp [cfn0]
                  have HR : Hid ((decide (L ≤ 4096) && decide (M = 0) && (fn == 0) && true) = true) := hide (by simp [cL4096, cM0, cfn0])
                  clear cL4096 cM0 cfn0
                  go_wp2_with fail
                  go_ret
                  exact ⟨by rw [unhide HF, unhide HR]; rfl, unhide HB2⟩
                · have dfn0 : (fn == 0) = false := by simpa using cfn0
                  have HR : Hid ((decide (L ≤ 4096) && decide (M = 0) && (fn == 0) && true) = false) := hide (by simp [cfn0])
                  clear cL4096 cM0 cfn0
                  go_wp2_with fail
                  go_ret
                  exact ⟨by rw [unhide HF, unhide HR]; rfl, unhide HB2⟩
            · have dM0 : ((M : Int) == 0) = false := by simpa using cM0
              have HR : Hid ((decide (L ≤ 4096) && decide (M = 0) && (fn == 0) && NC) = false) := hide (by simp [cM0])
              clear cL4096 cM0
              go_wp2_with fail
              go_ret
              exact ⟨by rw [unhide HF, unhide HR]; rfl, unhide HB2⟩
          · have dL4096 : decide ((L : Int) ≤ 4096) = false := decide_eq_false (by omega)
            have HR : Hid ((decide (L ≤ 4096) && decide (M = 0) && (fn == 0) && NC) = false) := hide (by simp [cL4096])
            clear cL4096
            go_wp2_with fail
            go_ret
            exact ⟨by rw [unhide HF, unhide HR]; rfl, unhide HB2⟩
        by_cases h7 : kd = 7
        · subst h7
          have HF : Hid (R = (decide (L ≤ 256) && decide (L = M) && KR && (fn == 0) && NC)) := hide (by rw [← unhide hR, unhide HF2]; simp)
          clear HF2
          go_wp2_with fail
          refine (unhide HK _ (unhide HB2)).mono ?_
          rintro e w5 ⟨rfl, b5⟩
          have HB5 := hide (bl_past (unhide HB2) b5)
          have q0 := (b5.cell (p := ⟨X, 0, none⟩) ql).trans q0
          have q1 := (b5.cell (p := ⟨X, 1, none⟩) ql).trans q1
          have q2 := (b5.cell (p := ⟨X, 2, none⟩) ql).trans q2
          have q3 := (b5.cell (p := ⟨X, 3, none⟩) ql).trans q3
          have q4 := (b5.cell (p := ⟨X, 4, none⟩) ql).trans q4
          have q5 := (b5.cell (p := ⟨X, 5, none⟩) ql).trans q5
          have ql := Nat.lt_of_lt_of_le ql b5.size
          clear b5 HK
          by_cases cm : M ≤ 256
          · have dm : (decide (M ≤ 256) && KR) = KR := by simp [cm]
            rw [dm]
            clear dm
            cases KR with
            | false =>
              clear cm
              have HR : Hid ((decide (L ≤ 256) && decide (L = M) && false && (fn == 0) && NC) = false) := hide (by simp)
              go_wp2_with fail
              go_ret
              exact ⟨by rw [unhide HF, unhide HR]; rfl, unhide HB5⟩
            | true =>
              by_cases cML : L = M
              · have dML : ((M : Int) == (L : Int)) = true := by simp [cML]
                have HR0 : Hid ((decide (L ≤ 256) && decide (L = M) && true && (fn == 0) && NC) = ((fn == 0) && NC)) := hide (by rw [decide_eq_true (show L ≤ 256 by omega), decide_eq_true cML]; simp)
                clear cML cm
                cases NC with
                | false =>
                  go_wp2_with fail
                  go_ret
                  exact ⟨by rw [unhide HF, unhide HR0]; simp, unhide HB5⟩
                | true =>
                  by_cases cfn0 : fn = 0
                  · have dfn0 : (fn == 0) = true := by simp [cfn0]
                    clear cfn0
                    go_wp2_with fail
                    go_ret
                    exact ⟨by rw [unhide HF, unhide HR0, dfn0]; rfl, unhide HB5⟩
                  · have dfn0 : (fn == 0) = false := by simpa using cfn0
                    clear cfn0
                    go_wp2_with fail
                    go_ret
                    exact ⟨by rw [unhide HF, unhide HR0, dfn0]; rfl, unhide HB5⟩
              · have dML : ((M : Int) == (L : Int)) = false := by simpa using fun e => cML (by omega)
                have HR : Hid ((decide (L ≤ 256) && decide (L = M) && true && (fn == 0) && NC) = false) := hide (by simp [cML])
                clear cML cm
                go_wp2_with fail
                go_ret
                exact ⟨by rw [unhide HF, unhide HR]; rfl, unhide HB5⟩
          · have dm : (decide (M ≤ 256) && KR) = false := by simp [cm]
            have HR : Hid ((decide (L ≤ 256) && decide (L = M) && KR && (fn == 0) && NC) = false) := hide (by
              by_cases q : L = M
              · rw [decide_eq_false (show ¬ L ≤ 256 by omega)]; simp
              · rw [decide_eq_false q]; simp)
            rw [dm]
            clear dm cm
            go_wp2_with fail
            go_ret
            exact ⟨by rw [unhide HF, unhide HR]; rfl, unhide HB5⟩
        by_cases h8 : kd = 8
        · subst h8
          have HF : Hid (R = (decide (L ≤ 4096) && decide (M = 0) && decide (0 ≤ fn) && NC)) := hide (by rw [← unhide hR, unhide HF2]; simp)
          clear HF2
          by_cases cL4096 : L ≤ 4096
          · have dL4096 : decide ((L : Int) ≤ 4096) = true := decide_eq_true (by omega)
            by_cases cM0 : M = 0
            · have dM0 : ((M : Int) == 0) = true := by simp [cM0]
              cases NC with
              | false =>
                have HR : Hid ((decide (L ≤ 4096) && decide (M = 0) && decide (0 ≤ fn) && false) = false) := hide (by simp [])
                clear cL4096 cM0
                go_wp2_with fail
                go_ret
                exact ⟨by rw [unhide HF, unhide HR]; rfl, unhide HB2⟩
              | true =>
                by_cases cfnp : 0 ≤ fn
                · have dfnp : decide (fn ≥ 0) = true := decide_eq_true (by omega)
                  have HR : Hid ((decide (L ≤ 4096) && decide (M = 0) && decide (0 ≤ fn) && true) = true) := hide (by simp [cL4096, cM0, cfnp])
                  clear cL4096 cM0 cfnp
                  go_wp2_with fail
                  go_ret
                  exact ⟨by rw [unhide HF, unhide HR]; rfl, unhide HB2⟩
                · have dfnp : decide (fn ≥ 0) = false := decide_eq_false (by omega)
                  have HR : Hid ((decide (L ≤ 4096) && decide (M = 0) && decide (0 ≤ fn) && true) = false) := hide (by simp [cfnp])
                  clear cL4096 cM0 cfnp
                  go_wp2_with fail
                  go_ret
                  exact ⟨by rw [unhide HF, unhide HR]; rfl, unhide HB2⟩
            · have dM0 : ((M : Int) == 0) = false := by simpa using cM0
              have HR : Hid ((decide (L ≤ 4096) && decide (M = 0) && decide (0 ≤ fn) && NC) = false) := hide (by simp [cM0])
              clear cL4096 cM0
              go_wp2_with fail
              go_ret
              exact ⟨by rw [unhide HF, unhide HR]; rfl, unhide HB2⟩
          · have dL4096 : decide ((L : Int) ≤ 4096) = false := decide_eq_false (by omega)
            have HR : Hid ((decide (L ≤ 4096) && decide (M = 0) && decide (0 ≤ fn) && NC) = false) := hide (by simp [cL4096])
            clear cL4096
            go_wp2_with fail
            go_ret
            exact ⟨by rw [unhide HF, unhide HR]; rfl, unhide HB2⟩
        by_cases h9 : kd = 9
        · subst h9
          have HF : Hid (R = (decide (1 ≤ cp) && decide (cp ≤ 64) && decide ((L : Int) ≤ cp) && decide (M = 0) && (fn == 0))) := hide (by rw [← unhide hR, unhide HF2]; simp)
          clear HF2
          by_cases cc1 : 1 ≤ cp
          · have dc1 : decide (cp ≥ 1) = true := decide_eq_true (by omega)
            by_cases cc64 : cp ≤ 64
            · have dc64 : decide (cp ≤ 64) = true := decide_eq_true (by omega)
              by_cases cLc : (L : Int) ≤ cp
              · have dLc : decide ((L : Int) ≤ cp) = true := decide_eq_true (by omega)
                by_cases cM0 : M = 0
                · have dM0 : ((M : Int) == 0) = true := by simp [cM0]
                  by_cases cfn0 : fn = 0
                  · have dfn0 : (fn == 0) = true := by simp [cfn0]
                    have HR : Hid ((decide (1 ≤ cp) && decide (cp ≤ 64) && decide ((L : Int) ≤ cp) && decide (M = 0) && (fn == 0)) = true) := hide (by simp [cc1, cc64, cLc, cM0, cfn0])
                    clear cc1 cc64 cLc cM0 cfn0
                    go_wp2_with fail
                    go_ret
                    exact ⟨by rw [unhide HF, unhide HR]; rfl, unhide HB2⟩
                  · have dfn0 : (fn == 0) = false := by simpa using cfn0
                    have HR : Hid ((decide (1 ≤ cp) && decide (cp ≤ 64) && decide ((L : Int) ≤ cp) && decide (M = 0) && (fn == 0)) = false) := hide (by simp [cfn0])
                    clear cc1 cc64 cLc cM0 cfn0
                    go_wp2_with fail
                    go_ret
                    exact ⟨by rw [unhide HF, unhide HR]; rfl, unhide HB2⟩
                · have dM0 : ((M : Int) == 0) = false := by simpa using cM0
                  have HR : Hid ((decide (1 ≤ cp) && decide (cp ≤ 64) && decide ((L : Int) ≤ cp) && decide (M = 0) && (fn == 0)) = false) := hide (by simp [cM0])
                  clear cc1 cc64 cLc cM0
                  go_wp2_with fail
                  go_ret
                  exact ⟨by rw [unhide HF, unhide HR]; rfl, unhide HB2⟩
              · have dLc : decide ((L : Int) ≤ cp) = false := decide_eq_false (by omega)
                have HR : Hid ((decide (1 ≤ cp) && decide (cp ≤ 64) && decide ((L : Int) ≤ cp) && decide (M = 0) && (fn == 0)) = false) := hide (by simp [cLc])
                clear cc1 cc64 cLc
                go_wp2_with fail
                go_ret
                exact ⟨by rw [unhide HF, unhide HR]; rfl, unhide HB2⟩
            · have dc64 : decide (cp ≤ 64) = false := decide_eq_false (by omega)
              have HR : Hid ((decide (1 ≤ cp) && decide (cp ≤ 64) && decide ((L : Int) ≤ cp) && decide (M = 0) && (fn == 0)) = false) := hide (by simp [cc64])
              clear cc1 cc64
              go_wp2_with fail
              go_ret
              exact ⟨by rw [unhide HF, unhide HR]; rfl, unhide HB2⟩
          · have dc1 : decide (cp ≥ 1) = false := decide_eq_false (by omega)
            have HR : Hid ((decide (1 ≤ cp) && decide (cp ≤ 64) && decide ((L : Int) ≤ cp) && decide (M = 0) && (fn == 0)) = false) := hide (by simp [cc1])
            clear cc1
            go_wp2_with fail
            go_ret
            exact ⟨by rw [unhide HF, unhide HR]; rfl, unhide HB2⟩
        have d6 : (kd == 6) = false := by simpa using h6
        have d7 : (kd == 7) = false := by simpa using h7
        have d8 : (kd == 8) = false := by simpa using h8
        have d9 : (kd == 9) = false := by simpa using h9
        have HR : Hid (R = false) := hide (by rw [← unhide hR, unhide HF2, if_neg h6, if_neg h7, if_neg h8, if_neg h9])
        clear h6 h7 h8 h9 HF2
        go_wp2_with fail
        go_ret
        exact ⟨by rw [unhide HR]; rfl, unhide HB2⟩
end Go.Proofs.Ytfoanikkngmeiaa
