/-
  rightFields: has an object what its kind has?
-/
import Derived.Test.YtfoanikkngmeiaaLKe
namespace Go.Proofs.Ytfoanikkngmeiaa
open Go.RowKit
set_option linter.unusedVariables false
set_option linter.unusedSimpArgs false
set_option maxRecDepth 100000 in
set_option maxHeartbeats 800000 in
theorem fields6 {w : World} {v : Value} {o : Ob} (h : ObA w v o) (hkd : o.kind = 6) (hN : o.its.length ≤ 1048576) (hK : o.keys.length ≤ 1048576) :
    Calls Try.prog 17 #[v] w fun e w' => e = .returned (.bool (fRb o)) ∧ Below w.heap.size w w' := by
  obtain ⟨iv, kv, rfl, hi, hk⟩ := h
  have HK : Hid (∀ O, Calls Try.prog 35 #[kv] (w.alloc O) fun e w' => e = .returned (.bool (kRb o.keys)) ∧ Below (w.alloc O).heap.size (w.alloc O) w') := fun O => keys_any (hk.below (bl_box w O) (Nat.le_refl _)) hK
  obtain ⟨ia, ic, rfl, hi1, hi2⟩ := hi.shape
  obtain ⟨ka, kc, rfl, hk1, hk2⟩ := hk.shape
  unfold maxLen at hi2 hk2
  obtain ⟨kd, its, ks, fn, cp, sh⟩ := o
  simp only at *
  have HB := hide (bl_box w)
  have HNC : Hid (∀ W, Calls Try.prog 34 #[.agg #[.int .i64 kd, .slice ia its.length ic, .slice ka ks.length kc, .int .i64 fn, .int .i64 cp, .bool sh]] W fun e w' => e = .returned (.bool ((cp == 0) && !sh)) ∧ Below W.heap.size W w') := fun W => noChan_any W kd _ _ fn cp sh rfl rfl
  clear hi hk
  unfold fRb
  simp only
  generalize kRb ks = KR at *
  generalize hIL : its.length = L at *
  generalize hKL : ks.length = M at *
  clear hIL hKL
  generalize hNC : ((cp == 0) && !sh) = NC at *
  subst hkd
  rw [if_pos rfl]
  by_cases cL4096 : L ≤ 4096
  · have dL4096 : decide ((L : Int) ≤ 4096) = true := decide_eq_true (by omega)
    by_cases cM0 : M = 0
    · have dM0 : ((M : Int) == 0) = true := by simp [cM0]
      by_cases cfn0 : fn = 0
      · have dfn0 : (fn == 0) = true := by simp [cfn0]
        have HR : Hid ((decide (L ≤ 4096) && decide (M = 0) && (fn == 0) && NC) = NC) := hide (by simp [cL4096, cM0, cfn0])
        clear hNC cL4096 cM0 cfn0 HK
        rw [unhide HR]
        clear HR
        go_enter Try.func17, Try.ntmps17
        go_wp2_with fail
        refine (unhide HNC _).mono ?_
        rintro e w2 ⟨rfl, b2⟩
        have HB9 := hide (bl_past (unhide HB _) b2)
        clear b2
        go_wp2_with fail
        go_ret
        exact ⟨rfl, unhide HB9⟩
      · have dfn0 : (fn == 0) = false := by simpa using cfn0
        have HR : Hid ((decide (L ≤ 4096) && decide (M = 0) && (fn == 0) && NC) = false) := hide (by simp [cfn0])
        clear hNC cL4096 cM0 cfn0 HK
        rw [unhide HR]
        clear HR
        go_enter Try.func17, Try.ntmps17
        go_wp2_with fail
        go_ret
        exact ⟨rfl, unhide HB _⟩
    · have dM0 : ((M : Int) == 0) = false := by simpa using cM0
      have HR : Hid ((decide (L ≤ 4096) && decide (M = 0) && (fn == 0) && NC) = false) := hide (by simp [cM0])
      clear hNC cL4096 cM0 HK
      rw [unhide HR]
      clear HR
      go_enter Try.func17, Try.ntmps17
      go_wp2_with fail
      go_ret
      exact ⟨rfl, unhide HB _⟩
  · have dL4096 : decide ((L : Int) ≤ 4096) = false := decide_eq_false (by omega)
    have HR : Hid ((decide (L ≤ 4096) && decide (M = 0) && (fn == 0) && NC) = false) := hide (by simp [cL4096])
    clear hNC cL4096 HK
    rw [unhide HR]
    clear HR
    go_enter Try.func17, Try.ntmps17
    go_wp2_with fail
    go_ret
    exact ⟨rfl, unhide HB _⟩
set_option maxRecDepth 100000 in
set_option maxHeartbeats 800000 in
theorem fields7 {w : World} {v : Value} {o : Ob} (h : ObA w v o) (hkd : o.kind = 7) (hN : o.its.length ≤ 1048576) (hK : o.keys.length ≤ 1048576) :
    Calls Try.prog 17 #[v] w fun e w' => e = .returned (.bool (fRb o)) ∧ Below w.heap.size w w' := by
  obtain ⟨iv, kv, rfl, hi, hk⟩ := h
  have HK : Hid (∀ O, Calls Try.prog 35 #[kv] (w.alloc O) fun e w' => e = .returned (.bool (kRb o.keys)) ∧ Below (w.alloc O).heap.size (w.alloc O) w') := fun O => keys_any (hk.below (bl_box w O) (Nat.le_refl _)) hK
  obtain ⟨ia, ic, rfl, hi1, hi2⟩ := hi.shape
  obtain ⟨ka, kc, rfl, hk1, hk2⟩ := hk.shape
  unfold maxLen at hi2 hk2
  obtain ⟨kd, its, ks, fn, cp, sh⟩ := o
  simp only at *
  have HB := hide (bl_box w)
  have HNC : Hid (∀ W, Calls Try.prog 34 #[.agg #[.int .i64 kd, .slice ia its.length ic, .slice ka ks.length kc, .int .i64 fn, .int .i64 cp, .bool sh]] W fun e w' => e = .returned (.bool ((cp == 0) && !sh)) ∧ Below W.heap.size W w') := fun W => noChan_any W kd _ _ fn cp sh rfl rfl
  clear hi hk
  unfold fRb
  simp only
  generalize kRb ks = KR at *
  generalize hIL : its.length = L at *
  generalize hKL : ks.length = M at *
  clear hIL hKL
  generalize hNC : ((cp == 0) && !sh) = NC at *
  subst hkd
  rw [if_neg (by decide), if_pos rfl]
  by_cases cL256 : L ≤ 256
  · have dL256 : decide ((L : Int) ≤ 256) = true := decide_eq_true (by omega)
    by_cases cLM : L = M
    · have dLM : ((L : Int) == (M : Int)) = true := by simp [cLM]
      have HV : Hid ((decide (L ≤ 256) && decide (L = M) && KR && (fn == 0) && NC) = (KR && (fn == 0) && NC)) := hide (by rw [decide_eq_true cL256, decide_eq_true cLM]; simp)
      rw [unhide HV]
      clear hNC cL256 cLM HV
      go_enter Try.func17, Try.ntmps17
      go_wp2_with fail
      refine (unhide HK _).mono ?_
      rintro e w1 ⟨rfl, b1⟩
      have HB1 := hide (bl_past (unhide HB _) b1)
      obtain ⟨q, _, ql⟩ := blk_cells ((b1.block w.heap.size (by simp)).trans (heap_alloc_new w _))
      have q0 := q 0
      have q1 := q 1
      have q2 := q 2
      have q3 := q 3
      have q4 := q 4
      have q5 := q 5
      simp only [List.getElem?_toArray, List.getElem?_cons_zero, List.getElem?_cons_succ] at q0 q1 q2 q3 q4 q5
      clear q b1 HK
      cases KR with
      | false =>
        go_wp2_with fail
        go_ret
        exact ⟨rfl, unhide HB1⟩
      | true =>
        by_cases cfn0 : fn = 0
        · have dfn0 : (fn == 0) = true := by simp [cfn0]
          have HR : Hid ((true && (fn == 0) && NC) = NC) := hide (by simp [cfn0])
          clear cfn0
          go_wp2_with fail
          refine (unhide HNC _).mono ?_
          rintro e w2 ⟨rfl, b2⟩
          have HB9 := hide (bl_past (unhide HB1) b2)
          clear b2
          go_wp2_with fail
          go_ret
          exact ⟨by rw [unhide HR]; rfl, unhide HB9⟩
        · have dfn0 : (fn == 0) = false := by simpa using cfn0
          have HR : Hid ((true && (fn == 0) && NC) = false) := hide (by simp [cfn0])
          clear cfn0
          go_wp2_with fail
          go_ret
          exact ⟨by rw [unhide HR]; rfl, unhide HB1⟩
    · have dLM : ((L : Int) == (M : Int)) = false := by simpa using fun e => cLM (by omega)
      have HR : Hid ((decide (L ≤ 256) && decide (L = M) && KR && (fn == 0) && NC) = false) := hide (by simp [cLM])
      clear hNC cL256 cLM HK
      rw [unhide HR]
      clear HR
      go_enter Try.func17, Try.ntmps17
      go_wp2_with fail
      go_ret
      exact ⟨rfl, unhide HB _⟩
  · have dL256 : decide ((L : Int) ≤ 256) = false := decide_eq_false (by omega)
    have HR : Hid ((decide (L ≤ 256) && decide (L = M) && KR && (fn == 0) && NC) = false) := hide (by simp [cL256])
    clear hNC cL256 HK
    rw [unhide HR]
    clear HR
    go_enter Try.func17, Try.ntmps17
    go_wp2_with fail
    go_ret
    exact ⟨rfl, unhide HB _⟩
set_option maxRecDepth 100000 in
set_option maxHeartbeats 800000 in
theorem fields8 {w : World} {v : Value} {o : Ob} (h : ObA w v o) (hkd : o.kind = 8) (hN : o.its.length ≤ 1048576) (hK : o.keys.length ≤ 1048576) :
    Calls Try.prog 17 #[v] w fun e w' => e = .returned (.bool (fRb o)) ∧ Below w.heap.size w w' := by
  obtain ⟨iv, kv, rfl, hi, hk⟩ := h
  have HK : Hid (∀ O, Calls Try.prog 35 #[kv] (w.alloc O) fun e w' => e = .returned (.bool (kRb o.keys)) ∧ Below (w.alloc O).heap.size (w.alloc O) w') := fun O => keys_any (hk.below (bl_box w O) (Nat.le_refl _)) hK
  obtain ⟨ia, ic, rfl, hi1, hi2⟩ := hi.shape
  obtain ⟨ka, kc, rfl, hk1, hk2⟩ := hk.shape
  unfold maxLen at hi2 hk2
  obtain ⟨kd, its, ks, fn, cp, sh⟩ := o
  simp only at *
  have HB := hide (bl_box w)
  have HNC : Hid (∀ W, Calls Try.prog 34 #[.agg #[.int .i64 kd, .slice ia its.length ic, .slice ka ks.length kc, .int .i64 fn, .int .i64 cp, .bool sh]] W fun e w' => e = .returned (.bool ((cp == 0) && !sh)) ∧ Below W.heap.size W w') := fun W => noChan_any W kd _ _ fn cp sh rfl rfl
  clear hi hk
  unfold fRb
  simp only
  generalize kRb ks = KR at *
  generalize hIL : its.length = L at *
  generalize hKL : ks.length = M at *
  clear hIL hKL
  generalize hNC : ((cp == 0) && !sh) = NC at *
  subst hkd
  rw [if_neg (by decide), if_neg (by decide), if_pos rfl]
  by_cases cL4096 : L ≤ 4096
  · have dL4096 : decide ((L : Int) ≤ 4096) = true := decide_eq_true (by omega)
    by_cases cM0 : M = 0
    · have dM0 : ((M : Int) == 0) = true := by simp [cM0]
      by_cases cfnp : 0 ≤ fn
      · have dfnp : decide (fn ≥ 0) = true := decide_eq_true (by omega)
        have HR : Hid ((decide (L ≤ 4096) && decide (M = 0) && decide (0 ≤ fn) && NC) = NC) := hide (by simp [cL4096, cM0, cfnp])
        clear hNC cL4096 cM0 cfnp HK
        rw [unhide HR]
        clear HR
        go_enter Try.func17, Try.ntmps17
        go_wp2_with fail
        refine (unhide HNC _).mono ?_
        rintro e w2 ⟨rfl, b2⟩
        have HB9 := hide (bl_past (unhide HB _) b2)
        clear b2
        go_wp2_with fail
        go_ret
        exact ⟨rfl, unhide HB9⟩
      · have dfnp : decide (fn ≥ 0) = false := decide_eq_false (by omega)
        have HR : Hid ((decide (L ≤ 4096) && decide (M = 0) && decide (0 ≤ fn) && NC) = false) := hide (by simp [cfnp])
        clear hNC cL4096 cM0 cfnp HK
        rw [unhide HR]
        clear HR
        go_enter Try.func17, Try.ntmps17
        go_wp2_with fail
        go_ret
        exact ⟨rfl, unhide HB _⟩
    · have dM0 : ((M : Int) == 0) = false := by simpa using cM0
      have HR : Hid ((decide (L ≤ 4096) && decide (M = 0) && decide (0 ≤ fn) && NC) = false) := hide (by simp [cM0])
      clear hNC cL4096 cM0 HK
      rw [unhide HR]
      clear HR
      go_enter Try.func17, Try.ntmps17
      go_wp2_with fail
      go_ret
      exact ⟨rfl, unhide HB _⟩
  · have dL4096 : decide ((L : Int) ≤ 4096) = false := decide_eq_false (by omega)
    have HR : Hid ((decide (L ≤ 4096) && decide (M = 0) && decide (0 ≤ fn) && NC) = false) := hide (by simp [cL4096])
    clear hNC cL4096 HK
    rw [unhide HR]
    clear HR
    go_enter Try.func17, Try.ntmps17
    go_wp2_with fail
    go_ret
    exact ⟨rfl, unhide HB _⟩
set_option maxRecDepth 100000 in
set_option maxHeartbeats 800000 in
theorem fields9 {w : World} {v : Value} {o : Ob} (h : ObA w v o) (hkd : o.kind = 9) (hN : o.its.length ≤ 1048576) (hK : o.keys.length ≤ 1048576) :
    Calls Try.prog 17 #[v] w fun e w' => e = .returned (.bool (fRb o)) ∧ Below w.heap.size w w' := by
  obtain ⟨iv, kv, rfl, hi, hk⟩ := h
  have HK : Hid (∀ O, Calls Try.prog 35 #[kv] (w.alloc O) fun e w' => e = .returned (.bool (kRb o.keys)) ∧ Below (w.alloc O).heap.size (w.alloc O) w') := fun O => keys_any (hk.below (bl_box w O) (Nat.le_refl _)) hK
  obtain ⟨ia, ic, rfl, hi1, hi2⟩ := hi.shape
  obtain ⟨ka, kc, rfl, hk1, hk2⟩ := hk.shape
  unfold maxLen at hi2 hk2
  obtain ⟨kd, its, ks, fn, cp, sh⟩ := o
  simp only at *
  have HB := hide (bl_box w)
  have HNC : Hid (∀ W, Calls Try.prog 34 #[.agg #[.int .i64 kd, .slice ia its.length ic, .slice ka ks.length kc, .int .i64 fn, .int .i64 cp, .bool sh]] W fun e w' => e = .returned (.bool ((cp == 0) && !sh)) ∧ Below W.heap.size W w') := fun W => noChan_any W kd _ _ fn cp sh rfl rfl
  clear hi hk
  unfold fRb
  simp only
  generalize kRb ks = KR at *
  generalize hIL : its.length = L at *
  generalize hKL : ks.length = M at *
  clear hIL hKL
  generalize hNC : ((cp == 0) && !sh) = NC at *
  subst hkd
  rw [if_neg (by decide), if_neg (by decide), if_neg (by decide), if_pos rfl]
  by_cases cc1 : 1 ≤ cp
  · have dc1 : decide (1 ≤ cp) = true := decide_eq_true (by omega)
    by_cases cc64 : cp ≤ 64
    · have dc64 : decide (cp ≤ 64) = true := decide_eq_true (by omega)
      by_cases cLc : (L : Int) ≤ cp
      · have dLc : decide ((L : Int) ≤ cp) = true := decide_eq_true (by omega)
        by_cases cM0 : M = 0
        · have dM0 : ((M : Int) == 0) = true := by simp [cM0]
          by_cases cfn0 : fn = 0
          · have dfn0 : (fn == 0) = true := by simp [cfn0]
            have HR : Hid ((decide (1 ≤ cp) && decide (cp ≤ 64) && decide ((L : Int) ≤ cp) && decide (M = 0) && (fn == 0)) = true) := hide (by simp [cc1, cc64, cLc, cM0, cfn0])
            clear hNC cc1 cc64 cLc cM0 cfn0 HK
            rw [unhide HR]
            clear HR
            go_enter Try.func17, Try.ntmps17
            go_wp2_with fail
            go_ret
            exact ⟨rfl, unhide HB _⟩
          · have dfn0 : (fn == 0) = false := by simpa using cfn0
            have HR : Hid ((decide (1 ≤ cp) && decide (cp ≤ 64) && decide ((L : Int) ≤ cp) && decide (M = 0) && (fn == 0)) = false) := hide (by simp [cfn0])
            clear hNC cc1 cc64 cLc cM0 cfn0 HK
            rw [unhide HR]
            clear HR
            go_enter Try.func17, Try.ntmps17
            go_wp2_with fail
            go_ret
            exact ⟨rfl, unhide HB _⟩
        · have dM0 : ((M : Int) == 0) = false := by simpa using cM0
          have HR : Hid ((decide (1 ≤ cp) && decide (cp ≤ 64) && decide ((L : Int) ≤ cp) && decide (M = 0) && (fn == 0)) = false) := hide (by simp [cM0])
          clear hNC cc1 cc64 cLc cM0 HK
          rw [unhide HR]
          clear HR
          go_enter Try.func17, Try.ntmps17
          go_wp2_with fail
          go_ret
          exact ⟨rfl, unhide HB _⟩
      · have dLc : decide ((L : Int) ≤ cp) = false := decide_eq_false (by omega)
        have HR : Hid ((decide (1 ≤ cp) && decide (cp ≤ 64) && decide ((L : Int) ≤ cp) && decide (M = 0) && (fn == 0)) = false) := hide (by simp [cLc])
        clear hNC cc1 cc64 cLc HK
        rw [unhide HR]
        clear HR
        go_enter Try.func17, Try.ntmps17
        go_wp2_with fail
        go_ret
        exact ⟨rfl, unhide HB _⟩
    · have dc64 : decide (cp ≤ 64) = false := decide_eq_false (by omega)
      have HR : Hid ((decide (1 ≤ cp) && decide (cp ≤ 64) && decide ((L : Int) ≤ cp) && decide (M = 0) && (fn == 0)) = false) := hide (by simp [cc64])
      clear hNC cc1 cc64 HK
      rw [unhide HR]
      clear HR
      go_enter Try.func17, Try.ntmps17
      go_wp2_with fail
      go_ret
      exact ⟨rfl, unhide HB _⟩
  · have dc1 : decide (1 ≤ cp) = false := decide_eq_false (by omega)
    have HR : Hid ((decide (1 ≤ cp) && decide (cp ≤ 64) && decide ((L : Int) ≤ cp) && decide (M = 0) && (fn == 0)) = false) := hide (by simp [cc1])
    clear hNC cc1 HK
    rw [unhide HR]
    clear HR
    go_enter Try.func17, Try.ntmps17
    go_wp2_with fail
    go_ret
    exact ⟨rfl, unhide HB _⟩
set_option maxRecDepth 100000 in
set_option maxHeartbeats 800000 in
theorem fields0 {w : World} {v : Value} {o : Ob} (h : ObA w v o) (h6 : ¬ o.kind = 6) (h7 : ¬ o.kind = 7) (h8 : ¬ o.kind = 8) (h9 : ¬ o.kind = 9) (hN : o.its.length ≤ 1048576) (hK : o.keys.length ≤ 1048576) :
    Calls Try.prog 17 #[v] w fun e w' => e = .returned (.bool (fRb o)) ∧ Below w.heap.size w w' := by
  obtain ⟨iv, kv, rfl, hi, hk⟩ := h
  have HK : Hid (∀ O, Calls Try.prog 35 #[kv] (w.alloc O) fun e w' => e = .returned (.bool (kRb o.keys)) ∧ Below (w.alloc O).heap.size (w.alloc O) w') := fun O => keys_any (hk.below (bl_box w O) (Nat.le_refl _)) hK
  obtain ⟨ia, ic, rfl, hi1, hi2⟩ := hi.shape
  obtain ⟨ka, kc, rfl, hk1, hk2⟩ := hk.shape
  unfold maxLen at hi2 hk2
  obtain ⟨kd, its, ks, fn, cp, sh⟩ := o
  simp only at *
  have HB := hide (bl_box w)
  have HNC : Hid (∀ W, Calls Try.prog 34 #[.agg #[.int .i64 kd, .slice ia its.length ic, .slice ka ks.length kc, .int .i64 fn, .int .i64 cp, .bool sh]] W fun e w' => e = .returned (.bool ((cp == 0) && !sh)) ∧ Below W.heap.size W w') := fun W => noChan_any W kd _ _ fn cp sh rfl rfl
  clear hi hk
  unfold fRb
  simp only
  generalize kRb ks = KR at *
  generalize hIL : its.length = L at *
  generalize hKL : ks.length = M at *
  clear hIL hKL
  generalize hNC : ((cp == 0) && !sh) = NC at *
  rw [if_neg h6, if_neg h7, if_neg h8, if_neg h9]
  have d6 : (kd == 6) = false := by simpa using h6
  have d7 : (kd == 7) = false := by simpa using h7
  have d8 : (kd == 8) = false := by simpa using h8
  have d9 : (kd == 9) = false := by simpa using h9
  clear h6 h7 h8 h9 hNC HNC HK
  go_enter Try.func17, Try.ntmps17
  go_wp2_with fail
  go_ret
  exact ⟨rfl, unhide HB _⟩
theorem fields_any {w : World} {v : Value} {o : Ob} (h : ObA w v o) (hN : o.its.length ≤ 1048576) (hK : o.keys.length ≤ 1048576) :
    Calls Try.prog 17 #[v] w fun e w' => e = .returned (.bool (fRb o)) ∧ Below w.heap.size w w' := by
  by_cases h6 : o.kind = 6
  · exact fields6 h h6 hN hK
  by_cases h7 : o.kind = 7
  · exact fields7 h h7 hN hK
  by_cases h8 : o.kind = 8
  · exact fields8 h h8 hN hK
  by_cases h9 : o.kind = 9
  · exact fields9 h h9 hN hK
  exact fields0 h h6 h7 h8 h9 hN hK
end Go.Proofs.Ytfoanikkngmeiaa
