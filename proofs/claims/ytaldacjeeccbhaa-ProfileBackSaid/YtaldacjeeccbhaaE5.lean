/-
  The document's form of a spot.
-/
import Derived.Test.YtaldacjeeccbhaaE4
namespace Go.Proofs.Ytaldacjeeccbhaa
open Go.RowKit
set_option linter.unusedVariables false
set_option linter.unusedSimpArgs false
set_option maxRecDepth 100000 in
set_option maxHeartbeats 1600000 in
theorem taken_any (w : World) (s : Sp) : Calls Try.prog 35 #[spV s] w fun e w' => e = .returned (.bool (tkB s)) ∧ Below w.heap.size w w' := by
  obtain ⟨x0, x1, x2, x3⟩ := s
  unfold spV
  simp only
  have HB : Hid (Below w.heap.size w (w.alloc (.cells #[.int .i64 x0, .int .u16 x1, .int .u16 x2, .int .i64 x3] 55))) := (Below.refl _ w).alloc (Nat.le_refl _) _
  by_cases h0 : 0 ≤ x0
  · have d0 : decide (0 ≤ x0) = true := decide_eq_true h0
    by_cases h1 : x1 ≤ 1023
    · have d1 : decide (x1 ≤ 1023) = true := decide_eq_true h1
      by_cases h2 : x2 ≤ 1023
      · have d2 : decide (x2 ≤ 1023) = true := decide_eq_true h2
        by_cases h3 : -1 ≤ x3
        · have d3 : decide (-1 ≤ x3) = true := decide_eq_true h3
          by_cases h4 : x3 ≤ 128
          · have d4 : decide (x3 ≤ 128) = true := decide_eq_true h4
            have HT : Hid (decide (0 ≤ x0 ∧ x1 ≤ 1023 ∧ x2 ≤ 1023 ∧ -1 ≤ x3 ∧ x3 ≤ 128) = true) := decide_eq_true ⟨h0, h1, h2, h3, h4⟩
            clear h0 h1 h2 h3 h4
            go_enter Try.func35, Try.ntmps35
            go_wp2_with fail
            go_ret
            exact ⟨by unfold tkB; rw [unhide HT]; rfl, unhide HB⟩
          · have d4 : decide (x3 ≤ 128) = false := decide_eq_false h4
            have HT : Hid (decide (0 ≤ x0 ∧ x1 ≤ 1023 ∧ x2 ≤ 1023 ∧ -1 ≤ x3 ∧ x3 ≤ 128) = false) := decide_eq_false (fun q => h4 q.2.2.2.2)
            clear h0 h1 h2 h3 h4
            go_enter Try.func35, Try.ntmps35
            go_wp2_with fail
            go_ret
            exact ⟨by unfold tkB; rw [unhide HT]; rfl, unhide HB⟩
        · have d3 : decide (-1 ≤ x3) = false := decide_eq_false h3
          have HT : Hid (decide (0 ≤ x0 ∧ x1 ≤ 1023 ∧ x2 ≤ 1023 ∧ -1 ≤ x3 ∧ x3 ≤ 128) = false) := decide_eq_false (fun q => h3 q.2.2.2.1)
          clear h0 h1 h2 h3
          go_enter Try.func35, Try.ntmps35
          go_wp2_with fail
          go_ret
          exact ⟨by unfold tkB; rw [unhide HT]; rfl, unhide HB⟩
      · have d2 : decide (x2 ≤ 1023) = false := decide_eq_false h2
        have HT : Hid (decide (0 ≤ x0 ∧ x1 ≤ 1023 ∧ x2 ≤ 1023 ∧ -1 ≤ x3 ∧ x3 ≤ 128) = false) := decide_eq_false (fun q => h2 q.2.2.1)
        clear h0 h1 h2
        go_enter Try.func35, Try.ntmps35
        go_wp2_with fail
        go_ret
        exact ⟨by unfold tkB; rw [unhide HT]; rfl, unhide HB⟩
    · have d1 : decide (x1 ≤ 1023) = false := decide_eq_false h1
      have HT : Hid (decide (0 ≤ x0 ∧ x1 ≤ 1023 ∧ x2 ≤ 1023 ∧ -1 ≤ x3 ∧ x3 ≤ 128) = false) := decide_eq_false (fun q => h1 q.2.1)
      clear h0 h1
      go_enter Try.func35, Try.ntmps35
      go_wp2_with fail
      go_ret
      exact ⟨by unfold tkB; rw [unhide HT]; rfl, unhide HB⟩
  · have d0 : decide (0 ≤ x0) = false := decide_eq_false h0
    have HT : Hid (decide (0 ≤ x0 ∧ x1 ≤ 1023 ∧ x2 ≤ 1023 ∧ -1 ≤ x3 ∧ x3 ≤ 128) = false) := decide_eq_false (fun q => h0 q.1)
    clear h0
    go_enter Try.func35, Try.ntmps35
    go_wp2_with fail
    go_ret
    exact ⟨by unfold tkB; rw [unhide HT]; rfl, unhide HB⟩
set_option maxRecDepth 100000 in
set_option maxHeartbeats 12800000 in
theorem putS_any (base : Nat) (l0 : Value) (bs : List Int) (s : Sp) (w : World) (h : w.ownsRow base 5 1 l0 bs.length (bs.map By)) (hbase : base ≤ w.heap.size) (hb : bs.length + 64 ≤ 140737488355328) (hok : okS s) (htk : tkB s = true) :
    Calls Try.prog 36 #[l0, spV s] w fun e w' => ∃ l, e = .returned l ∧ RG base l0 w l (bs ++ encS s) w' := by
  obtain ⟨c, a, b, k⟩ := s
  have ht := tkB_ok htk
  unfold okS at hok
  unfold spV encS
  simp only at ht hok ⊢
  obtain ⟨C, rfl⟩ : ∃ C : Nat, c = (C : Int) := ⟨c.toNat, by omega⟩
  obtain ⟨A, rfl⟩ : ∃ C : Nat, a = (C : Int) := ⟨a.toNat, by omega⟩
  obtain ⟨B, rfl⟩ : ∃ C : Nat, b = (C : Int) := ⟨b.toNat, by omega⟩
  have hC : C < 9223372036854775808 := by omega
  have hA : A < 65536 := by omega
  have hB0 : B < 65536 := by omega
  have hk0 : -1 ≤ k := by omega
  have hk1 : k ≤ 128 := by omega
  have ewC : IntKind.u64.wrap (C : Int) = (C : Int) := by rw [IntKind.wrap_u64]; omega
  have ewA : IntKind.u64.wrap (A : Int) = (A : Int) := by rw [IntKind.wrap_u64]; omega
  have ewB : IntKind.u64.wrap (B : Int) = (B : Int) := by rw [IntKind.wrap_u64]; omega
  clear ht hok htk
  obtain ⟨i0, hi0, hz0, hz1, hz2⟩ := info_parts Try.info5
  have HBX : Hid (∀ (l : Value) (b2 : List Int) (W : World), RG base l0 (w.alloc (.cells #[.int .i64 (C : Int), .int .u16 (A : Int), .int .u16 (B : Int), .int .i64 k] 55)) l b2 W → W.cell? ⟨w.heap.size, 0, none⟩ = some (.int .i64 (C : Int)) ∧ W.cell? ⟨w.heap.size, 1, none⟩ = some (.int .u16 (A : Int)) ∧ W.cell? ⟨w.heap.size, 2, none⟩ = some (.int .u16 (B : Int)) ∧ W.cell? ⟨w.heap.size, 3, none⟩ = some (.int .i64 k) ∧ w.heap.size < W.heap.size) := fun l b2 W hR => by
    have h1 := heap_alloc_new w (.cells #[.int .i64 (C : Int), .int .u16 (A : Int), .int .u16 (B : Int), .int .i64 k] 55)
    have h2 := (hR.fr.block w.heap.size (by simp) (fun e => by have := (h.lt _ e).2; omega)).trans h1
    obtain ⟨cc, -, zz⟩ := blk_cells h2
    exact ⟨cc 0, cc 1, cc 2, cc 3, zz⟩
  obtain ⟨nn, hNN⟩ : ∃ n, Hid (bs.length = n) := ⟨_, hide rfl⟩
  have HO : Hid ((w.alloc (.cells #[.int .i64 (C : Int), .int .u16 (A : Int), .int .u16 (B : Int), .int .i64 k] 55)).ownsRow base 5 1 l0 nn (bs.map By)) := by have := h.alloc (.cells #[.int .i64 (C : Int), .int .u16 (A : Int), .int .u16 (B : Int), .int .i64 k] 55); rw [unhide hNN] at this; exact this
  have HCN : Hid (∀ (z : Value), ∀ j u, [z][j]? = some u → ((w.alloc (.cells #[.int .i64 (C : Int), .int .u16 (A : Int), .int .u16 (B : Int), .int .i64 k] 55)).alloc (.cells #[z] 5)).cell? ((⟨w.heap.size + 1, 0, none⟩ : Addr).add j) = some u) := fun z j u hu => by
    have := new_cells (w.alloc (.cells #[.int .i64 (C : Int), .int .u16 (A : Int), .int .u16 (B : Int), .int .i64 k] 55)) #[z] 5 j u hu
    simpa using this
  rw [unhide hNN] at hb
  clear h
  by_cases hCz : (C : Int) = 0
  · have d0 : ((C : Int) != 0) = false := by simpa using hCz
    by_cases hAz : (A : Int) = 0
    · have d1 : ((A : Int) != 0) = false := by simpa using hAz
      by_cases hBz : (B : Int) = 0
      · have d2 : ((B : Int) != 0) = false := by simpa using hBz
        by_cases hKz : k = 0
        · have d3 : (k != 0) = false := by simpa using hKz
          have nC : C = 0 := by omega
          have nA : A = 0 := by omega
          have nB : B = 0 := by omega
          have HFL : Hid (flP (C : Int) (A : Int) (B : Int) k 4 = 0) := by unfold Hid; simp [flP, *]
          have HPR : Hid (prt (C : Int) (A : Int) (B : Int) k 4 = [0]) := by unfold Hid; simp [prt, fdE, flP, *]
          clear hCz hAz hBz hKz nC nA nB
          go_enter Try.func36, Try.ntmps36
          go_wp2_with (first | (at_builtin; refine wpList_append_own_at _ rfl _ _ 33 rfl base 5 i0 (.int .u8 0) 1 1 Try.underlying33 hi0 hz0 hz1 hz2 rfl (by decide) _ _ _ rfl ((unhide HO).alloc _) ⟨w.heap.size + 1, 0, none⟩ 1 1 [.int .u8 0] rfl rfl (unhide HCN _) (by simp [Value.oneCell']) (by unfold maxLen; omega) (by omega) (by simp; omega) ?_))
          intro v0 w0 hown0 hgrow0 hnil0 hat0
          have HR0 : Hid (RG base l0 (w.alloc (.cells #[.int .i64 (C : Int), .int .u16 (A : Int), .int .u16 (B : Int), .int .i64 k] 55)) v0 (bs ++ [0]) w0) := (RG.start (by rw [unhide hNN]; exact unhide HO)).step hown0 (by rw [unhide hNN]) (by simp) hgrow0 (by simpa using hat0)
          clear hown0 hgrow0 hnil0 hat0
          obtain ⟨q0, q1, q2, q3, qz⟩ := unhide HBX _ _ _ (unhide HR0)
          go_wp2_with fail
          go_ret
          exact ⟨_, rfl, by rw [unhide HPR]; exact (by simpa using (unhide HR0).alloc)⟩
        · have d3 : (k != 0) = true := by simpa using hKz
          have nC : C = 0 := by omega
          have nA : A = 0 := by omega
          have nB : B = 0 := by omega
          have HFL : Hid (flP (C : Int) (A : Int) (B : Int) k 4 = 8) := by unfold Hid; simp [flP, *]
          have HPR : Hid (prt (C : Int) (A : Int) (B : Int) k 4 = [8] ++ Wm.uform 9 (foldI k).toNat) := by unfold Hid; simp [prt, fdE, flP, *]
          clear hCz hAz hBz hKz nC nA nB
          go_enter Try.func36, Try.ntmps36
          go_wp2_with (first | (at_builtin; refine wpList_append_own_at _ rfl _ _ 33 rfl base 5 i0 (.int .u8 0) 1 1 Try.underlying33 hi0 hz0 hz1 hz2 rfl (by decide) _ _ _ rfl ((unhide HO).alloc _) ⟨w.heap.size + 1, 0, none⟩ 1 1 [.int .u8 8] rfl rfl (unhide HCN _) (by simp [Value.oneCell']) (by unfold maxLen; omega) (by omega) (by simp; omega) ?_))
          intro v0 w0 hown0 hgrow0 hnil0 hat0
          have HR0 : Hid (RG base l0 (w.alloc (.cells #[.int .i64 (C : Int), .int .u16 (A : Int), .int .u16 (B : Int), .int .i64 k] 55)) v0 (bs ++ [8]) w0) := (RG.start (by rw [unhide hNN]; exact unhide HO)).step hown0 (by rw [unhide hNN]) (by simp) hgrow0 (by simpa using hat0)
          clear hown0 hgrow0 hnil0 hat0
          obtain ⟨q0, q1, q2, q3, qz⟩ := unhide HBX _ _ _ (unhide HR0)
          have HC1 := hide (putInt_any base v0 (bs ++ [8]) k w0 (unhide HR0).own (Nat.le_trans hbase (Nat.le_trans (by simp) (unhide HR0).fr.size)) (by simp only [List.length_append, List.length_cons, List.length_nil]; have hnn := unhide hNN; omega) (by omega) (by omega))
          go_wp2_with fail
          refine (unhide HC1).mono ?_
          rintro e w1 ⟨v1, rfl, R1⟩
          have HR1 := hide ((unhide HR0).trans R1)
          clear R1 HC1 q0 q1 q2 q3 qz
          obtain ⟨q0, q1, q2, q3, qz⟩ := unhide HBX _ _ _ (unhide HR1)
          go_wp2_with fail
          go_ret
          exact ⟨_, rfl, by rw [unhide HPR]; exact (by simpa using (unhide HR1).alloc)⟩
      · have d2 : ((B : Int) != 0) = true := by simpa using hBz
        by_cases hKz : k = 0
        · have d3 : (k != 0) = false := by simpa using hKz
          have nC : C = 0 := by omega
          have nA : A = 0 := by omega
          have nB : ¬ B = 0 := by omega
          have HFL : Hid (flP (C : Int) (A : Int) (B : Int) k 4 = 4) := by unfold Hid; simp [flP, *]
          have HPR : Hid (prt (C : Int) (A : Int) (B : Int) k 4 = [4] ++ Wm.uform 9 B) := by unfold Hid; simp [prt, fdE, flP, *]
          clear hCz hAz hBz hKz nC nA nB
          go_enter Try.func36, Try.ntmps36
          go_wp2_with (first | (at_builtin; refine wpList_append_own_at _ rfl _ _ 33 rfl base 5 i0 (.int .u8 0) 1 1 Try.underlying33 hi0 hz0 hz1 hz2 rfl (by decide) _ _ _ rfl ((unhide HO).alloc _) ⟨w.heap.size + 1, 0, none⟩ 1 1 [.int .u8 4] rfl rfl (unhide HCN _) (by simp [Value.oneCell']) (by unfold maxLen; omega) (by omega) (by simp; omega) ?_))
          intro v0 w0 hown0 hgrow0 hnil0 hat0
          have HR0 : Hid (RG base l0 (w.alloc (.cells #[.int .i64 (C : Int), .int .u16 (A : Int), .int .u16 (B : Int), .int .i64 k] 55)) v0 (bs ++ [4]) w0) := (RG.start (by rw [unhide hNN]; exact unhide HO)).step hown0 (by rw [unhide hNN]) (by simp) hgrow0 (by simpa using hat0)
          clear hown0 hgrow0 hnil0 hat0
          obtain ⟨q0, q1, q2, q3, qz⟩ := unhide HBX _ _ _ (unhide HR0)
          have HC1 := hide (putUint_any base v0 (bs ++ [4]) B w0 (unhide HR0).own (Nat.le_trans hbase (Nat.le_trans (by simp) (unhide HR0).fr.size)) (by simp only [List.length_append, List.length_cons, List.length_nil]; have hnn := unhide hNN; omega) (by omega))
          go_wp2_with fail
          refine (unhide HC1).mono ?_
          rintro e w1 ⟨v1, rfl, R1⟩
          have HR1 := hide ((unhide HR0).trans R1)
          clear R1 HC1 q0 q1 q2 q3 qz
          obtain ⟨q0, q1, q2, q3, qz⟩ := unhide HBX _ _ _ (unhide HR1)
          go_wp2_with fail
          go_ret
          exact ⟨_, rfl, by rw [unhide HPR]; exact (by simpa using (unhide HR1).alloc)⟩
        · have d3 : (k != 0) = true := by simpa using hKz
          have nC : C = 0 := by omega
          have nA : A = 0 := by omega
          have nB : ¬ B = 0 := by omega
          have HFL : Hid (flP (C : Int) (A : Int) (B : Int) k 4 = 12) := by unfold Hid; simp [flP, *]
          have HPR : Hid (prt (C : Int) (A : Int) (B : Int) k 4 = [12] ++ Wm.uform 9 B ++ Wm.uform 9 (foldI k).toNat) := by unfold Hid; simp [prt, fdE, flP, *]
          clear hCz hAz hBz hKz nC nA nB
          go_enter Try.func36, Try.ntmps36
          go_wp2_with (first | (at_builtin; refine wpList_append_own_at _ rfl _ _ 33 rfl base 5 i0 (.int .u8 0) 1 1 Try.underlying33 hi0 hz0 hz1 hz2 rfl (by decide) _ _ _ rfl ((unhide HO).alloc _) ⟨w.heap.size + 1, 0, none⟩ 1 1 [.int .u8 12] rfl rfl (unhide HCN _) (by simp [Value.oneCell']) (by unfold maxLen; omega) (by omega) (by simp; omega) ?_))
          intro v0 w0 hown0 hgrow0 hnil0 hat0
          have HR0 : Hid (RG base l0 (w.alloc (.cells #[.int .i64 (C : Int), .int .u16 (A : Int), .int .u16 (B : Int), .int .i64 k] 55)) v0 (bs ++ [12]) w0) := (RG.start (by rw [unhide hNN]; exact unhide HO)).step hown0 (by rw [unhide hNN]) (by simp) hgrow0 (by simpa using hat0)
          clear hown0 hgrow0 hnil0 hat0
          obtain ⟨q0, q1, q2, q3, qz⟩ := unhide HBX _ _ _ (unhide HR0)
          have HC1 := hide (putUint_any base v0 (bs ++ [12]) B w0 (unhide HR0).own (Nat.le_trans hbase (Nat.le_trans (by simp) (unhide HR0).fr.size)) (by simp only [List.length_append, List.length_cons, List.length_nil]; have hnn := unhide hNN; omega) (by omega))
          go_wp2_with fail
          refine (unhide HC1).mono ?_
          rintro e w1 ⟨v1, rfl, R1⟩
          have HR1 := hide ((unhide HR0).trans R1)
          clear R1 HC1 q0 q1 q2 q3 qz
          obtain ⟨q0, q1, q2, q3, qz⟩ := unhide HBX _ _ _ (unhide HR1)
          have HC2 := hide (putInt_any base v1 (bs ++ [12] ++ Wm.uform 9 B) k w1 (unhide HR1).own (Nat.le_trans hbase (Nat.le_trans (by simp) (unhide HR1).fr.size)) (by simp only [List.length_append, List.length_cons, List.length_nil]; have u2 := uform_le B; have hnn := unhide hNN; omega) (by omega) (by omega))
          go_wp2_with fail
          refine (unhide HC2).mono ?_
          rintro e w2 ⟨v2, rfl, R2⟩
          have HR2 := hide ((unhide HR1).trans R2)
          clear R2 HC2 q0 q1 q2 q3 qz
          obtain ⟨q0, q1, q2, q3, qz⟩ := unhide HBX _ _ _ (unhide HR2)
          go_wp2_with fail
          go_ret
          exact ⟨_, rfl, by rw [unhide HPR]; exact (by simpa using (unhide HR2).alloc)⟩
    · have d1 : ((A : Int) != 0) = true := by simpa using hAz
      by_cases hBz : (B : Int) = 0
      · have d2 : ((B : Int) != 0) = false := by simpa using hBz
        by_cases hKz : k = 0
        · have d3 : (k != 0) = false := by simpa using hKz
          have nC : C = 0 := by omega
          have nA : ¬ A = 0 := by omega
          have nB : B = 0 := by omega
          have HFL : Hid (flP (C : Int) (A : Int) (B : Int) k 4 = 2) := by unfold Hid; simp [flP, *]
          have HPR : Hid (prt (C : Int) (A : Int) (B : Int) k 4 = [2] ++ Wm.uform 9 A) := by unfold Hid; simp [prt, fdE, flP, *]
          clear hCz hAz hBz hKz nC nA nB
          go_enter Try.func36, Try.ntmps36
          go_wp2_with (first | (at_builtin; refine wpList_append_own_at _ rfl _ _ 33 rfl base 5 i0 (.int .u8 0) 1 1 Try.underlying33 hi0 hz0 hz1 hz2 rfl (by decide) _ _ _ rfl ((unhide HO).alloc _) ⟨w.heap.size + 1, 0, none⟩ 1 1 [.int .u8 2] rfl rfl (unhide HCN _) (by simp [Value.oneCell']) (by unfold maxLen; omega) (by omega) (by simp; omega) ?_))
          intro v0 w0 hown0 hgrow0 hnil0 hat0
          have HR0 : Hid (RG base l0 (w.alloc (.cells #[.int .i64 (C : Int), .int .u16 (A : Int), .int .u16 (B : Int), .int .i64 k] 55)) v0 (bs ++ [2]) w0) := (RG.start (by rw [unhide hNN]; exact unhide HO)).step hown0 (by rw [unhide hNN]) (by simp) hgrow0 (by simpa using hat0)
          clear hown0 hgrow0 hnil0 hat0
          obtain ⟨q0, q1, q2, q3, qz⟩ := unhide HBX _ _ _ (unhide HR0)
          have HC1 := hide (putUint_any base v0 (bs ++ [2]) A w0 (unhide HR0).own (Nat.le_trans hbase (Nat.le_trans (by simp) (unhide HR0).fr.size)) (by simp only [List.length_append, List.length_cons, List.length_nil]; have hnn := unhide hNN; omega) (by omega))
          go_wp2_with fail
          refine (unhide HC1).mono ?_
          rintro e w1 ⟨v1, rfl, R1⟩
          have HR1 := hide ((unhide HR0).trans R1)
          clear R1 HC1 q0 q1 q2 q3 qz
          obtain ⟨q0, q1, q2, q3, qz⟩ := unhide HBX _ _ _ (unhide HR1)
          go_wp2_with fail
          go_ret
          exact ⟨_, rfl, by rw [unhide HPR]; exact (by simpa using (unhide HR1).alloc)⟩
        · have d3 : (k != 0) = true := by simpa using hKz
          have nC : C = 0 := by omega
          have nA : ¬ A = 0 := by omega
          have nB : B = 0 := by omega
          have HFL : Hid (flP (C : Int) (A : Int) (B : Int) k 4 = 10) := by unfold Hid; simp [flP, *]
          have HPR : Hid (prt (C : Int) (A : Int) (B : Int) k 4 = [10] ++ Wm.uform 9 A ++ Wm.uform 9 (foldI k).toNat) := by unfold Hid; simp [prt, fdE, flP, *]
          clear hCz hAz hBz hKz nC nA nB
          go_enter Try.func36, Try.ntmps36
          go_wp2_with (first | (at_builtin; refine wpList_append_own_at _ rfl _ _ 33 rfl base 5 i0 (.int .u8 0) 1 1 Try.underlying33 hi0 hz0 hz1 hz2 rfl (by decide) _ _ _ rfl ((unhide HO).alloc _) ⟨w.heap.size + 1, 0, none⟩ 1 1 [.int .u8 10] rfl rfl (unhide HCN _) (by simp [Value.oneCell']) (by unfold maxLen; omega) (by omega) (by simp; omega) ?_))
          intro v0 w0 hown0 hgrow0 hnil0 hat0
          have HR0 : Hid (RG base l0 (w.alloc (.cells #[.int .i64 (C : Int), .int .u16 (A : Int), .int .u16 (B : Int), .int .i64 k] 55)) v0 (bs ++ [10]) w0) := (RG.start (by rw [unhide hNN]; exact unhide HO)).step hown0 (by rw [unhide hNN]) (by simp) hgrow0 (by simpa using hat0)
          clear hown0 hgrow0 hnil0 hat0
          obtain ⟨q0, q1, q2, q3, qz⟩ := unhide HBX _ _ _ (unhide HR0)
          have HC1 := hide (putUint_any base v0 (bs ++ [10]) A w0 (unhide HR0).own (Nat.le_trans hbase (Nat.le_trans (by simp) (unhide HR0).fr.size)) (by simp only [List.length_append, List.length_cons, List.length_nil]; have hnn := unhide hNN; omega) (by omega))
          go_wp2_with fail
          refine (unhide HC1).mono ?_
          rintro e w1 ⟨v1, rfl, R1⟩
          have HR1 := hide ((unhide HR0).trans R1)
          clear R1 HC1 q0 q1 q2 q3 qz
          obtain ⟨q0, q1, q2, q3, qz⟩ := unhide HBX _ _ _ (unhide HR1)
          have HC2 := hide (putInt_any base v1 (bs ++ [10] ++ Wm.uform 9 A) k w1 (unhide HR1).own (Nat.le_trans hbase (Nat.le_trans (by simp) (unhide HR1).fr.size)) (by simp only [List.length_append, List.length_cons, List.length_nil]; have u1 := uform_le A; have hnn := unhide hNN; omega) (by omega) (by omega))
          go_wp2_with fail
          refine (unhide HC2).mono ?_
          rintro e w2 ⟨v2, rfl, R2⟩
          have HR2 := hide ((unhide HR1).trans R2)
          clear R2 HC2 q0 q1 q2 q3 qz
          obtain ⟨q0, q1, q2, q3, qz⟩ := unhide HBX _ _ _ (unhide HR2)
          go_wp2_with fail
          go_ret
          exact ⟨_, rfl, by rw [unhide HPR]; exact (by simpa using (unhide HR2).alloc)⟩
      · have d2 : ((B : Int) != 0) = true := by simpa using hBz
        by_cases hKz : k = 0
        · have d3 : (k != 0) = false := by simpa using hKz
          have nC : C = 0 := by omega
          have nA : ¬ A = 0 := by omega
          have nB : ¬ B = 0 := by omega
          have HFL : Hid (flP (C : Int) (A : Int) (B : Int) k 4 = 6) := by unfold Hid; simp [flP, *]
          have HPR : Hid (prt (C : Int) (A : Int) (B : Int) k 4 = [6] ++ Wm.uform 9 A ++ Wm.uform 9 B) := by unfold Hid; simp [prt, fdE, flP, *]
          clear hCz hAz hBz hKz nC nA nB
          go_enter Try.func36, Try.ntmps36
          go_wp2_with (first | (at_builtin; refine wpList_append_own_at _ rfl _ _ 33 rfl base 5 i0 (.int .u8 0) 1 1 Try.underlying33 hi0 hz0 hz1 hz2 rfl (by decide) _ _ _ rfl ((unhide HO).alloc _) ⟨w.heap.size + 1, 0, none⟩ 1 1 [.int .u8 6] rfl rfl (unhide HCN _) (by simp [Value.oneCell']) (by unfold maxLen; omega) (by omega) (by simp; omega) ?_))
          intro v0 w0 hown0 hgrow0 hnil0 hat0
          have HR0 : Hid (RG base l0 (w.alloc (.cells #[.int .i64 (C : Int), .int .u16 (A : Int), .int .u16 (B : Int), .int .i64 k] 55)) v0 (bs ++ [6]) w0) := (RG.start (by rw [unhide hNN]; exact unhide HO)).step hown0 (by rw [unhide hNN]) (by simp) hgrow0 (by simpa using hat0)
          clear hown0 hgrow0 hnil0 hat0
          obtain ⟨q0, q1, q2, q3, qz⟩ := unhide HBX _ _ _ (unhide HR0)
          have HC1 := hide (putUint_any base v0 (bs ++ [6]) A w0 (unhide HR0).own (Nat.le_trans hbase (Nat.le_trans (by simp) (unhide HR0).fr.size)) (by simp only [List.length_append, List.length_cons, List.length_nil]; have hnn := unhide hNN; omega) (by omega))
          go_wp2_with fail
          refine (unhide HC1).mono ?_
          rintro e w1 ⟨v1, rfl, R1⟩
          have HR1 := hide ((unhide HR0).trans R1)
          clear R1 HC1 q0 q1 q2 q3 qz
          obtain ⟨q0, q1, q2, q3, qz⟩ := unhide HBX _ _ _ (unhide HR1)
          have HC2 := hide (putUint_any base v1 (bs ++ [6] ++ Wm.uform 9 A) B w1 (unhide HR1).own (Nat.le_trans hbase (Nat.le_trans (by simp) (unhide HR1).fr.size)) (by simp only [List.length_append, List.length_cons, List.length_nil]; have u1 := uform_le A; have hnn := unhide hNN; omega) (by omega))
          go_wp2_with fail
          refine (unhide HC2).mono ?_
          rintro e w2 ⟨v2, rfl, R2⟩
          have HR2 := hide ((unhide HR1).trans R2)
          clear R2 HC2 q0 q1 q2 q3 qz
          obtain ⟨q0, q1, q2, q3, qz⟩ := unhide HBX _ _ _ (unhide HR2)
          go_wp2_with fail
          go_ret
          exact ⟨_, rfl, by rw [unhide HPR]; exact (by simpa using (unhide HR2).alloc)⟩
        · have d3 : (k != 0) = true := by simpa using hKz
          have nC : C = 0 := by omega
          have nA : ¬ A = 0 := by omega
          have nB : ¬ B = 0 := by omega
          have HFL : Hid (flP (C : Int) (A : Int) (B : Int) k 4 = 14) := by unfold Hid; simp [flP, *]
          have HPR : Hid (prt (C : Int) (A : Int) (B : Int) k 4 = [14] ++ Wm.uform 9 A ++ Wm.uform 9 B ++ Wm.uform 9 (foldI k).toNat) := by unfold Hid; simp [prt, fdE, flP, *]
          clear hCz hAz hBz hKz nC nA nB
          go_enter Try.func36, Try.ntmps36
          go_wp2_with (first | (at_builtin; refine wpList_append_own_at _ rfl _ _ 33 rfl base 5 i0 (.int .u8 0) 1 1 Try.underlying33 hi0 hz0 hz1 hz2 rfl (by decide) _ _ _ rfl ((unhide HO).alloc _) ⟨w.heap.size + 1, 0, none⟩ 1 1 [.int .u8 14] rfl rfl (unhide HCN _) (by simp [Value.oneCell']) (by unfold maxLen; omega) (by omega) (by simp; omega) ?_))
          intro v0 w0 hown0 hgrow0 hnil0 hat0
          have HR0 : Hid (RG base l0 (w.alloc (.cells #[.int .i64 (C : Int), .int .u16 (A : Int), .int .u16 (B : Int), .int .i64 k] 55)) v0 (bs ++ [14]) w0) := (RG.start (by rw [unhide hNN]; exact unhide HO)).step hown0 (by rw [unhide hNN]) (by simp) hgrow0 (by simpa using hat0)
          clear hown0 hgrow0 hnil0 hat0
          obtain ⟨q0, q1, q2, q3, qz⟩ := unhide HBX _ _ _ (unhide HR0)
          have HC1 := hide (putUint_any base v0 (bs ++ [14]) A w0 (unhide HR0).own (Nat.le_trans hbase (Nat.le_trans (by simp) (unhide HR0).fr.size)) (by simp only [List.length_append, List.length_cons, List.length_nil]; have hnn := unhide hNN; omega) (by omega))
          go_wp2_with fail
          refine (unhide HC1).mono ?_
          rintro e w1 ⟨v1, rfl, R1⟩
          have HR1 := hide ((unhide HR0).trans R1)
          clear R1 HC1 q0 q1 q2 q3 qz
          obtain ⟨q0, q1, q2, q3, qz⟩ := unhide HBX _ _ _ (unhide HR1)
          have HC2 := hide (putUint_any base v1 (bs ++ [14] ++ Wm.uform 9 A) B w1 (unhide HR1).own (Nat.le_trans hbase (Nat.le_trans (by simp) (unhide HR1).fr.size)) (by simp only [List.length_append, List.length_cons, List.length_nil]; have u1 := uform_le A; have hnn := unhide hNN; omega) (by omega))
          go_wp2_with fail
          refine (unhide HC2).mono ?_
          rintro e w2 ⟨v2, rfl, R2⟩
          have HR2 := hide ((unhide HR1).trans R2)
          clear R2 HC2 q0 q1 q2 q3 qz
          obtain ⟨q0, q1, q2, q3, qz⟩ := unhide HBX _ _ _ (unhide HR2)
          have HC3 := hide (putInt_any base v2 (bs ++ [14] ++ Wm.uform 9 A ++ Wm.uform 9 B) k w2 (unhide HR2).own (Nat.le_trans hbase (Nat.le_trans (by simp) (unhide HR2).fr.size)) (by simp only [List.length_append, List.length_cons, List.length_nil]; have u1 := uform_le A; have u2 := uform_le B; have hnn := unhide hNN; omega) (by omega) (by omega))
          go_wp2_with fail
          refine (unhide HC3).mono ?_
          rintro e w3 ⟨v3, rfl, R3⟩
          have HR3 := hide ((unhide HR2).trans R3)
          clear R3 HC3 q0 q1 q2 q3 qz
          obtain ⟨q0, q1, q2, q3, qz⟩ := unhide HBX _ _ _ (unhide HR3)
          go_wp2_with fail
          go_ret
          exact ⟨_, rfl, by rw [unhide HPR]; exact (by simpa using (unhide HR3).alloc)⟩
  · have d0 : ((C : Int) != 0) = true := by simpa using hCz
    by_cases hAz : (A : Int) = 0
    · have d1 : ((A : Int) != 0) = false := by simpa using hAz
      by_cases hBz : (B : Int) = 0
      · have d2 : ((B : Int) != 0) = false := by simpa using hBz
        by_cases hKz : k = 0
        · have d3 : (k != 0) = false := by simpa using hKz
          have nC : ¬ C = 0 := by omega
          have nA : A = 0 := by omega
          have nB : B = 0 := by omega
          have HFL : Hid (flP (C : Int) (A : Int) (B : Int) k 4 = 1) := by unfold Hid; simp [flP, *]
          have HPR : Hid (prt (C : Int) (A : Int) (B : Int) k 4 = [1] ++ Wm.uform 9 C) := by unfold Hid; simp [prt, fdE, flP, *]
          clear hCz hAz hBz hKz nC nA nB
          go_enter Try.func36, Try.ntmps36
          go_wp2_with (first | (at_builtin; refine wpList_append_own_at _ rfl _ _ 33 rfl base 5 i0 (.int .u8 0) 1 1 Try.underlying33 hi0 hz0 hz1 hz2 rfl (by decide) _ _ _ rfl ((unhide HO).alloc _) ⟨w.heap.size + 1, 0, none⟩ 1 1 [.int .u8 1] rfl rfl (unhide HCN _) (by simp [Value.oneCell']) (by unfold maxLen; omega) (by omega) (by simp; omega) ?_))
          intro v0 w0 hown0 hgrow0 hnil0 hat0
          have HR0 : Hid (RG base l0 (w.alloc (.cells #[.int .i64 (C : Int), .int .u16 (A : Int), .int .u16 (B : Int), .int .i64 k] 55)) v0 (bs ++ [1]) w0) := (RG.start (by rw [unhide hNN]; exact unhide HO)).step hown0 (by rw [unhide hNN]) (by simp) hgrow0 (by simpa using hat0)
          clear hown0 hgrow0 hnil0 hat0
          obtain ⟨q0, q1, q2, q3, qz⟩ := unhide HBX _ _ _ (unhide HR0)
          have HC1 := hide (putUint_any base v0 (bs ++ [1]) C w0 (unhide HR0).own (Nat.le_trans hbase (Nat.le_trans (by simp) (unhide HR0).fr.size)) (by simp only [List.length_append, List.length_cons, List.length_nil]; have hnn := unhide hNN; omega) (by omega))
          go_wp2_with fail
          refine (unhide HC1).mono ?_
          rintro e w1 ⟨v1, rfl, R1⟩
          have HR1 := hide ((unhide HR0).trans R1)
          clear R1 HC1 q0 q1 q2 q3 qz
          obtain ⟨q0, q1, q2, q3, qz⟩ := unhide HBX _ _ _ (unhide HR1)
          go_wp2_with fail
          go_ret
          exact ⟨_, rfl, by rw [unhide HPR]; exact (by simpa using (unhide HR1).alloc)⟩
        · have d3 : (k != 0) = true := by simpa using hKz
          have nC : ¬ C = 0 := by omega
          have nA : A = 0 := by omega
          have nB : B = 0 := by omega
          have HFL : Hid (flP (C : Int) (A : Int) (B : Int) k 4 = 9) := by unfold Hid; simp [flP, *]
          have HPR : Hid (prt (C : Int) (A : Int) (B : Int) k 4 = [9] ++ Wm.uform 9 C ++ Wm.uform 9 (foldI k).toNat) := by unfold Hid; simp [prt, fdE, flP, *]
          clear hCz hAz hBz hKz nC nA nB
          go_enter Try.func36, Try.ntmps36
          go_wp2_with (first | (at_builtin; refine wpList_append_own_at _ rfl _ _ 33 rfl base 5 i0 (.int .u8 0) 1 1 Try.underlying33 hi0 hz0 hz1 hz2 rfl (by decide) _ _ _ rfl ((unhide HO).alloc _) ⟨w.heap.size + 1, 0, none⟩ 1 1 [.int .u8 9] rfl rfl (unhide HCN _) (by simp [Value.oneCell']) (by unfold maxLen; omega) (by omega) (by simp; omega) ?_))
          intro v0 w0 hown0 hgrow0 hnil0 hat0
          have HR0 : Hid (RG base l0 (w.alloc (.cells #[.int .i64 (C : Int), .int .u16 (A : Int), .int .u16 (B : Int), .int .i64 k] 55)) v0 (bs ++ [9]) w0) := (RG.start (by rw [unhide hNN]; exact unhide HO)).step hown0 (by rw [unhide hNN]) (by simp) hgrow0 (by simpa using hat0)
          clear hown0 hgrow0 hnil0 hat0
          obtain ⟨q0, q1, q2, q3, qz⟩ := unhide HBX _ _ _ (unhide HR0)
          have HC1 := hide (putUint_any base v0 (bs ++ [9]) C w0 (unhide HR0).own (Nat.le_trans hbase (Nat.le_trans (by simp) (unhide HR0).fr.size)) (by simp only [List.length_append, List.length_cons, List.length_nil]; have hnn := unhide hNN; omega) (by omega))
          go_wp2_with fail
          refine (unhide HC1).mono ?_
          rintro e w1 ⟨v1, rfl, R1⟩
          have HR1 := hide ((unhide HR0).trans R1)
          clear R1 HC1 q0 q1 q2 q3 qz
          obtain ⟨q0, q1, q2, q3, qz⟩ := unhide HBX _ _ _ (unhide HR1)
          have HC2 := hide (putInt_any base v1 (bs ++ [9] ++ Wm.uform 9 C) k w1 (unhide HR1).own (Nat.le_trans hbase (Nat.le_trans (by simp) (unhide HR1).fr.size)) (by simp only [List.length_append, List.length_cons, List.length_nil]; have u0 := uform_le C; have hnn := unhide hNN; omega) (by omega) (by omega))
          go_wp2_with fail
          refine (unhide HC2).mono ?_
          rintro e w2 ⟨v2, rfl, R2⟩
          have HR2 := hide ((unhide HR1).trans R2)
          clear R2 HC2 q0 q1 q2 q3 qz
          obtain ⟨q0, q1, q2, q3, qz⟩ := unhide HBX _ _ _ (unhide HR2)
          go_wp2_with fail
          go_ret
          exact ⟨_, rfl, by rw [unhide HPR]; exact (by simpa using (unhide HR2).alloc)⟩
      · have d2 : ((B : Int) != 0) = true := by simpa using hBz
        by_cases hKz : k = 0
        · have d3 : (k != 0) = false := by simpa using hKz
          have nC : ¬ C = 0 := by omega
          have nA : A = 0 := by omega
          have nB : ¬ B = 0 := by omega
          have HFL : Hid (flP (C : Int) (A : Int) (B : Int) k 4 = 5) := by unfold Hid; simp [flP, *]
          have HPR : Hid (prt (C : Int) (A : Int) (B : Int) k 4 = [5] ++ Wm.uform 9 C ++ Wm.uform 9 B) := by unfold Hid; simp [prt, fdE, flP, *]
          clear hCz hAz hBz hKz nC nA nB
          go_enter Try.func36, Try.ntmps36
          go_wp2_with (first | (at_builtin; refine wpList_append_own_at _ rfl _ _ 33 rfl base 5 i0 (.int .u8 0) 1 1 Try.underlying33 hi0 hz0 hz1 hz2 rfl (by decide) _ _ _ rfl ((unhide HO).alloc _) ⟨w.heap.size + 1, 0, none⟩ 1 1 [.int .u8 5] rfl rfl (unhide HCN _) (by simp [Value.oneCell']) (by unfold maxLen; omega) (by omega) (by simp; omega) ?_))
          intro v0 w0 hown0 hgrow0 hnil0 hat0
          have HR0 : Hid (RG base l0 (w.alloc (.cells #[.int .i64 (C : Int), .int .u16 (A : Int), .int .u16 (B : Int), .int .i64 k] 55)) v0 (bs ++ [5]) w0) := (RG.start (by rw [unhide hNN]; exact unhide HO)).step hown0 (by rw [unhide hNN]) (by simp) hgrow0 (by simpa using hat0)
          clear hown0 hgrow0 hnil0 hat0
          obtain ⟨q0, q1, q2, q3, qz⟩ := unhide HBX _ _ _ (unhide HR0)
          have HC1 := hide (putUint_any base v0 (bs ++ [5]) C w0 (unhide HR0).own (Nat.le_trans hbase (Nat.le_trans (by simp) (unhide HR0).fr.size)) (by simp only [List.length_append, List.length_cons, List.length_nil]; have hnn := unhide hNN; omega) (by omega))
          go_wp2_with fail
          refine (unhide HC1).mono ?_
          rintro e w1 ⟨v1, rfl, R1⟩
          have HR1 := hide ((unhide HR0).trans R1)
          clear R1 HC1 q0 q1 q2 q3 qz
          obtain ⟨q0, q1, q2, q3, qz⟩ := unhide HBX _ _ _ (unhide HR1)
          have HC2 := hide (putUint_any base v1 (bs ++ [5] ++ Wm.uform 9 C) B w1 (unhide HR1).own (Nat.le_trans hbase (Nat.le_trans (by simp) (unhide HR1).fr.size)) (by simp only [List.length_append, List.length_cons, List.length_nil]; have u0 := uform_le C; have hnn := unhide hNN; omega) (by omega))
          go_wp2_with fail
          refine (unhide HC2).mono ?_
          rintro e w2 ⟨v2, rfl, R2⟩
          have HR2 := hide ((unhide HR1).trans R2)
          clear R2 HC2 q0 q1 q2 q3 qz
          obtain ⟨q0, q1, q2, q3, qz⟩ := unhide HBX _ _ _ (unhide HR2)
          go_wp2_with fail
          go_ret
          exact ⟨_, rfl, by rw [unhide HPR]; exact (by simpa using (unhide HR2).alloc)⟩
        · have d3 : (k != 0) = true := by simpa using hKz
          have nC : ¬ C = 0 := by omega
          have nA : A = 0 := by omega
          have nB : ¬ B = 0 := by omega
          have HFL : Hid (flP (C : Int) (A : Int) (B : Int) k 4 = 13) := by unfold Hid; simp [flP, *]
          have HPR : Hid (prt (C : Int) (A : Int) (B : Int) k 4 = [13] ++ Wm.uform 9 C ++ Wm.uform 9 B ++ Wm.uform 9 (foldI k).toNat) := by unfold Hid; simp [prt, fdE, flP, *]
          clear hCz hAz hBz hKz nC nA nB
          go_enter Try.func36, Try.ntmps36
          go_wp2_with (first | (at_builtin; refine wpList_append_own_at _ rfl _ _ 33 rfl base 5 i0 (.int .u8 0) 1 1 Try.underlying33 hi0 hz0 hz1 hz2 rfl (by decide) _ _ _ rfl ((unhide HO).alloc _) ⟨w.heap.size + 1, 0, none⟩ 1 1 [.int .u8 13] rfl rfl (unhide HCN _) (by simp [Value.oneCell']) (by unfold maxLen; omega) (by omega) (by simp; omega) ?_))
          intro v0 w0 hown0 hgrow0 hnil0 hat0
          have HR0 : Hid (RG base l0 (w.alloc (.cells #[.int .i64 (C : Int), .int .u16 (A : Int), .int .u16 (B : Int), .int .i64 k] 55)) v0 (bs ++ [13]) w0) := (RG.start (by rw [unhide hNN]; exact unhide HO)).step hown0 (by rw [unhide hNN]) (by simp) hgrow0 (by simpa using hat0)
          clear hown0 hgrow0 hnil0 hat0
          obtain ⟨q0, q1, q2, q3, qz⟩ := unhide HBX _ _ _ (unhide HR0)
          have HC1 := hide (putUint_any base v0 (bs ++ [13]) C w0 (unhide HR0).own (Nat.le_trans hbase (Nat.le_trans (by simp) (unhide HR0).fr.size)) (by simp only [List.length_append, List.length_cons, List.length_nil]; have hnn := unhide hNN; omega) (by omega))
          go_wp2_with fail
          refine (unhide HC1).mono ?_
          rintro e w1 ⟨v1, rfl, R1⟩
          have HR1 := hide ((unhide HR0).trans R1)
          clear R1 HC1 q0 q1 q2 q3 qz
          obtain ⟨q0, q1, q2, q3, qz⟩ := unhide HBX _ _ _ (unhide HR1)
          have HC2 := hide (putUint_any base v1 (bs ++ [13] ++ Wm.uform 9 C) B w1 (unhide HR1).own (Nat.le_trans hbase (Nat.le_trans (by simp) (unhide HR1).fr.size)) (by simp only [List.length_append, List.length_cons, List.length_nil]; have u0 := uform_le C; have hnn := unhide hNN; omega) (by omega))
          go_wp2_with fail
          refine (unhide HC2).mono ?_
          rintro e w2 ⟨v2, rfl, R2⟩
          have HR2 := hide ((unhide HR1).trans R2)
          clear R2 HC2 q0 q1 q2 q3 qz
          obtain ⟨q0, q1, q2, q3, qz⟩ := unhide HBX _ _ _ (unhide HR2)
          have HC3 := hide (putInt_any base v2 (bs ++ [13] ++ Wm.uform 9 C ++ Wm.uform 9 B) k w2 (unhide HR2).own (Nat.le_trans hbase (Nat.le_trans (by simp) (unhide HR2).fr.size)) (by simp only [List.length_append, List.length_cons, List.length_nil]; have u0 := uform_le C; have u2 := uform_le B; have hnn := unhide hNN; omega) (by omega) (by omega))
          go_wp2_with fail
          refine (unhide HC3).mono ?_
          rintro e w3 ⟨v3, rfl, R3⟩
          have HR3 := hide ((unhide HR2).trans R3)
          clear R3 HC3 q0 q1 q2 q3 qz
          obtain ⟨q0, q1, q2, q3, qz⟩ := unhide HBX _ _ _ (unhide HR3)
          go_wp2_with fail
          go_ret
          exact ⟨_, rfl, by rw [unhide HPR]; exact (by simpa using (unhide HR3).alloc)⟩
    · have d1 : ((A : Int) != 0) = true := by simpa using hAz
      by_cases hBz : (B : Int) = 0
      · have d2 : ((B : Int) != 0) = false := by simpa using hBz
        by_cases hKz : k = 0
        · have d3 : (k != 0) = false := by simpa using hKz
          have nC : ¬ C = 0 := by omega
          have nA : ¬ A = 0 := by omega
          have nB : B = 0 := by omega
          have HFL : Hid (flP (C : Int) (A : Int) (B : Int) k 4 = 3) := by unfold Hid; simp [flP, *]
          have HPR : Hid (prt (C : Int) (A : Int) (B : Int) k 4 = [3] ++ Wm.uform 9 C ++ Wm.uform 9 A) := by unfold Hid; simp [prt, fdE, flP, *]
          clear hCz hAz hBz hKz nC nA nB
          go_enter Try.func36, Try.ntmps36
          go_wp2_with (first | (at_builtin; refine wpList_append_own_at _ rfl _ _ 33 rfl base 5 i0 (.int .u8 0) 1 1 Try.underlying33 hi0 hz0 hz1 hz2 rfl (by decide) _ _ _ rfl ((unhide HO).alloc _) ⟨w.heap.size + 1, 0, none⟩ 1 1 [.int .u8 3] rfl rfl (unhide HCN _) (by simp [Value.oneCell']) (by unfold maxLen; omega) (by omega) (by simp; omega) ?_))
          intro v0 w0 hown0 hgrow0 hnil0 hat0
          have HR0 : Hid (RG base l0 (w.alloc (.cells #[.int .i64 (C : Int), .int .u16 (A : Int), .int .u16 (B : Int), .int .i64 k] 55)) v0 (bs ++ [3]) w0) := (RG.start (by rw [unhide hNN]; exact unhide HO)).step hown0 (by rw [unhide hNN]) (by simp) hgrow0 (by simpa using hat0)
          clear hown0 hgrow0 hnil0 hat0
          obtain ⟨q0, q1, q2, q3, qz⟩ := unhide HBX _ _ _ (unhide HR0)
          have HC1 := hide (putUint_any base v0 (bs ++ [3]) C w0 (unhide HR0).own (Nat.le_trans hbase (Nat.le_trans (by simp) (unhide HR0).fr.size)) (by simp only [List.length_append, List.length_cons, List.length_nil]; have hnn := unhide hNN; omega) (by omega))
          go_wp2_with fail
          refine (unhide HC1).mono ?_
          rintro e w1 ⟨v1, rfl, R1⟩
          have HR1 := hide ((unhide HR0).trans R1)
          clear R1 HC1 q0 q1 q2 q3 qz
          obtain ⟨q0, q1, q2, q3, qz⟩ := unhide HBX _ _ _ (unhide HR1)
          have HC2 := hide (putUint_any base v1 (bs ++ [3] ++ Wm.uform 9 C) A w1 (unhide HR1).own (Nat.le_trans hbase (Nat.le_trans (by simp) (unhide HR1).fr.size)) (by simp only [List.length_append, List.length_cons, List.length_nil]; have u0 := uform_le C; have hnn := unhide hNN; omega) (by omega))
          go_wp2_with fail
          refine (unhide HC2).mono ?_
          rintro e w2 ⟨v2, rfl, R2⟩
          have HR2 := hide ((unhide HR1).trans R2)
          clear R2 HC2 q0 q1 q2 q3 qz
          obtain ⟨q0, q1, q2, q3, qz⟩ := unhide HBX _ _ _ (unhide HR2)
          go_wp2_with fail
          go_ret
          exact ⟨_, rfl, by rw [unhide HPR]; exact (by simpa using (unhide HR2).alloc)⟩
        · have d3 : (k != 0) = true := by simpa using hKz
          have nC : ¬ C = 0 := by omega
          have nA : ¬ A = 0 := by omega
          have nB : B = 0 := by omega
          have HFL : Hid (flP (C : Int) (A : Int) (B : Int) k 4 = 11) := by unfold Hid; simp [flP, *]
          have HPR : Hid (prt (C : Int) (A : Int) (B : Int) k 4 = [11] ++ Wm.uform 9 C ++ Wm.uform 9 A ++ Wm.uform 9 (foldI k).toNat) := by unfold Hid; simp [prt, fdE, flP, *]
          clear hCz hAz hBz hKz nC nA nB
          go_enter Try.func36, Try.ntmps36
          go_wp2_with (first | (at_builtin; refine wpList_append_own_at _ rfl _ _ 33 rfl base 5 i0 (.int .u8 0) 1 1 Try.underlying33 hi0 hz0 hz1 hz2 rfl (by decide) _ _ _ rfl ((unhide HO).alloc _) ⟨w.heap.size + 1, 0, none⟩ 1 1 [.int .u8 11] rfl rfl (unhide HCN _) (by simp [Value.oneCell']) (by unfold maxLen; omega) (by omega) (by simp; omega) ?_))
          intro v0 w0 hown0 hgrow0 hnil0 hat0
          have HR0 : Hid (RG base l0 (w.alloc (.cells #[.int .i64 (C : Int), .int .u16 (A : Int), .int .u16 (B : Int), .int .i64 k] 55)) v0 (bs ++ [11]) w0) := (RG.start (by rw [unhide hNN]; exact unhide HO)).step hown0 (by rw [unhide hNN]) (by simp) hgrow0 (by simpa using hat0)
          clear hown0 hgrow0 hnil0 hat0
          obtain ⟨q0, q1, q2, q3, qz⟩ := unhide HBX _ _ _ (unhide HR0)
          have HC1 := hide (putUint_any base v0 (bs ++ [11]) C w0 (unhide HR0).own (Nat.le_trans hbase (Nat.le_trans (by simp) (unhide HR0).fr.size)) (by simp only [List.length_append, List.length_cons, List.length_nil]; have hnn := unhide hNN; omega) (by omega))
          go_wp2_with fail
          refine (unhide HC1).mono ?_
          rintro e w1 ⟨v1, rfl, R1⟩
          have HR1 := hide ((unhide HR0).trans R1)
          clear R1 HC1 q0 q1 q2 q3 qz
          obtain ⟨q0, q1, q2, q3, qz⟩ := unhide HBX _ _ _ (unhide HR1)
          have HC2 := hide (putUint_any base v1 (bs ++ [11] ++ Wm.uform 9 C) A w1 (unhide HR1).own (Nat.le_trans hbase (Nat.le_trans (by simp) (unhide HR1).fr.size)) (by simp only [List.length_append, List.length_cons, List.length_nil]; have u0 := uform_le C; have hnn := unhide hNN; omega) (by omega))
          go_wp2_with fail
          refine (unhide HC2).mono ?_
          rintro e w2 ⟨v2, rfl, R2⟩
          have HR2 := hide ((unhide HR1).trans R2)
          clear R2 HC2 q0 q1 q2 q3 qz
          obtain ⟨q0, q1, q2, q3, qz⟩ := unhide HBX _ _ _ (unhide HR2)
          have HC3 := hide (putInt_any base v2 (bs ++ [11] ++ Wm.uform 9 C ++ Wm.uform 9 A) k w2 (unhide HR2).own (Nat.le_trans hbase (Nat.le_trans (by simp) (unhide HR2).fr.size)) (by simp only [List.length_append, List.length_cons, List.length_nil]; have u0 := uform_le C; have u1 := uform_le A; have hnn := unhide hNN; omega) (by omega) (by omega))
          go_wp2_with fail
          refine (unhide HC3).mono ?_
          rintro e w3 ⟨v3, rfl, R3⟩
          have HR3 := hide ((unhide HR2).trans R3)
          clear R3 HC3 q0 q1 q2 q3 qz
          obtain ⟨q0, q1, q2, q3, qz⟩ := unhide HBX _ _ _ (unhide HR3)
          go_wp2_with fail
          go_ret
          exact ⟨_, rfl, by rw [unhide HPR]; exact (by simpa using (unhide HR3).alloc)⟩
      · have d2 : ((B : Int) != 0) = true := by simpa using hBz
        by_cases hKz : k = 0
        · have d3 : (k != 0) = false := by simpa using hKz
          have nC : ¬ C = 0 := by omega
          have nA : ¬ A = 0 := by omega
          have nB : ¬ B = 0 := by omega
          have HFL : Hid (flP (C : Int) (A : Int) (B : Int) k 4 = 7) := by unfold Hid; simp [flP, *]
          have HPR : Hid (prt (C : Int) (A : Int) (B : Int) k 4 = [7] ++ Wm.uform 9 C ++ Wm.uform 9 A ++ Wm.uform 9 B) := by unfold Hid; simp [prt, fdE, flP, *]
          clear hCz hAz hBz hKz nC nA nB
          go_enter Try.func36, Try.ntmps36
          go_wp2_with (first | (at_builtin; refine wpList_append_own_at _ rfl _ _ 33 rfl base 5 i0 (.int .u8 0) 1 1 Try.underlying33 hi0 hz0 hz1 hz2 rfl (by decide) _ _ _ rfl ((unhide HO).alloc _) ⟨w.heap.size + 1, 0, none⟩ 1 1 [.int .u8 7] rfl rfl (unhide HCN _) (by simp [Value.oneCell']) (by unfold maxLen; omega) (by omega) (by simp; omega) ?_))
          intro v0 w0 hown0 hgrow0 hnil0 hat0
          have HR0 : Hid (RG base l0 (w.alloc (.cells #[.int .i64 (C : Int), .int .u16 (A : Int), .int .u16 (B : Int), .int .i64 k] 55)) v0 (bs ++ [7]) w0) := (RG.start (by rw [unhide hNN]; exact unhide HO)).step hown0 (by rw [unhide hNN]) (by simp) hgrow0 (by simpa using hat0)
          clear hown0 hgrow0 hnil0 hat0
          obtain ⟨q0, q1, q2, q3, qz⟩ := unhide HBX _ _ _ (unhide HR0)
          have HC1 := hide (putUint_any base v0 (bs ++ [7]) C w0 (unhide HR0).own (Nat.le_trans hbase (Nat.le_trans (by simp) (unhide HR0).fr.size)) (by simp only [List.length_append, List.length_cons, List.length_nil]; have hnn := unhide hNN; omega) (by omega))
          go_wp2_with fail
          refine (unhide HC1).mono ?_
          rintro e w1 ⟨v1, rfl, R1⟩
          have HR1 := hide ((unhide HR0).trans R1)
          clear R1 HC1 q0 q1 q2 q3 qz
          obtain ⟨q0, q1, q2, q3, qz⟩ := unhide HBX _ _ _ (unhide HR1)
          have HC2 := hide (putUint_any base v1 (bs ++ [7] ++ Wm.uform 9 C) A w1 (unhide HR1).own (Nat.le_trans hbase (Nat.le_trans (by simp) (unhide HR1).fr.size)) (by simp only [List.length_append, List.length_cons, List.length_nil]; have u0 := uform_le C; have hnn := unhide hNN; omega) (by omega))
          go_wp2_with fail
          refine (unhide HC2).mono ?_
          rintro e w2 ⟨v2, rfl, R2⟩
          have HR2 := hide ((unhide HR1).trans R2)
          clear R2 HC2 q0 q1 q2 q3 qz
          obtain ⟨q0, q1, q2, q3, qz⟩ := unhide HBX _ _ _ (unhide HR2)
          have HC3 := hide (putUint_any base v2 (bs ++ [7] ++ Wm.uform 9 C ++ Wm.uform 9 A) B w2 (unhide HR2).own (Nat.le_trans hbase (Nat.le_trans (by simp) (unhide HR2).fr.size)) (by simp only [List.length_append, List.length_cons, List.length_nil]; have u0 := uform_le C; have u1 := uform_le A; have hnn := unhide hNN; omega) (by omega))
          go_wp2_with fail
          refine (unhide HC3).mono ?_
          rintro e w3 ⟨v3, rfl, R3⟩
          have HR3 := hide ((unhide HR2).trans R3)
          clear R3 HC3 q0 q1 q2 q3 qz
          obtain ⟨q0, q1, q2, q3, qz⟩ := unhide HBX _ _ _ (unhide HR3)
          go_wp2_with fail
          go_ret
          exact ⟨_, rfl, by rw [unhide HPR]; exact (by simpa using (unhide HR3).alloc)⟩
        · have d3 : (k != 0) = true := by simpa using hKz
          have nC : ¬ C = 0 := by omega
          have nA : ¬ A = 0 := by omega
          have nB : ¬ B = 0 := by omega
          have HFL : Hid (flP (C : Int) (A : Int) (B : Int) k 4 = 15) := by unfold Hid; simp [flP, *]
          have HPR : Hid (prt (C : Int) (A : Int) (B : Int) k 4 = [15] ++ Wm.uform 9 C ++ Wm.uform 9 A ++ Wm.uform 9 B ++ Wm.uform 9 (foldI k).toNat) := by unfold Hid; simp [prt, fdE, flP, *]
          clear hCz hAz hBz hKz nC nA nB
          go_enter Try.func36, Try.ntmps36
          go_wp2_with (first | (at_builtin; refine wpList_append_own_at _ rfl _ _ 33 rfl base 5 i0 (.int .u8 0) 1 1 Try.underlying33 hi0 hz0 hz1 hz2 rfl (by decide) _ _ _ rfl ((unhide HO).alloc _) ⟨w.heap.size + 1, 0, none⟩ 1 1 [.int .u8 15] rfl rfl (unhide HCN _) (by simp [Value.oneCell']) (by unfold maxLen; omega) (by omega) (by simp; omega) ?_))
          intro v0 w0 hown0 hgrow0 hnil0 hat0
          have HR0 : Hid (RG base l0 (w.alloc (.cells #[.int .i64 (C : Int), .int .u16 (A : Int), .int .u16 (B : Int), .int .i64 k] 55)) v0 (bs ++ [15]) w0) := (RG.start (by rw [unhide hNN]; exact unhide HO)).step hown0 (by rw [unhide hNN]) (by simp) hgrow0 (by simpa using hat0)
          clear hown0 hgrow0 hnil0 hat0
          obtain ⟨q0, q1, q2, q3, qz⟩ := unhide HBX _ _ _ (unhide HR0)
          have HC1 := hide (putUint_any base v0 (bs ++ [15]) C w0 (unhide HR0).own (Nat.le_trans hbase (Nat.le_trans (by simp) (unhide HR0).fr.size)) (by simp only [List.length_append, List.length_cons, List.length_nil]; have hnn := unhide hNN; omega) (by omega))
          go_wp2_with fail
          refine (unhide HC1).mono ?_
          rintro e w1 ⟨v1, rfl, R1⟩
          have HR1 := hide ((unhide HR0).trans R1)
          clear R1 HC1 q0 q1 q2 q3 qz
          obtain ⟨q0, q1, q2, q3, qz⟩ := unhide HBX _ _ _ (unhide HR1)
          have HC2 := hide (putUint_any base v1 (bs ++ [15] ++ Wm.uform 9 C) A w1 (unhide HR1).own (Nat.le_trans hbase (Nat.le_trans (by simp) (unhide HR1).fr.size)) (by simp only [List.length_append, List.length_cons, List.length_nil]; have u0 := uform_le C; have hnn := unhide hNN; omega) (by omega))
          go_wp2_with fail
          refine (unhide HC2).mono ?_
          rintro e w2 ⟨v2, rfl, R2⟩
          have HR2 := hide ((unhide HR1).trans R2)
          clear R2 HC2 q0 q1 q2 q3 qz
          obtain ⟨q0, q1, q2, q3, qz⟩ := unhide HBX _ _ _ (unhide HR2)
          have HC3 := hide (putUint_any base v2 (bs ++ [15] ++ Wm.uform 9 C ++ Wm.uform 9 A) B w2 (unhide HR2).own (Nat.le_trans hbase (Nat.le_trans (by simp) (unhide HR2).fr.size)) (by simp only [List.length_append, List.length_cons, List.length_nil]; have u0 := uform_le C; have u1 := uform_le A; have hnn := unhide hNN; omega) (by omega))
          go_wp2_with fail
          refine (unhide HC3).mono ?_
          rintro e w3 ⟨v3, rfl, R3⟩
          have HR3 := hide ((unhide HR2).trans R3)
          clear R3 HC3 q0 q1 q2 q3 qz
          obtain ⟨q0, q1, q2, q3, qz⟩ := unhide HBX _ _ _ (unhide HR3)
          have HC4 := hide (putInt_any base v3 (bs ++ [15] ++ Wm.uform 9 C ++ Wm.uform 9 A ++ Wm.uform 9 B) k w3 (unhide HR3).own (Nat.le_trans hbase (Nat.le_trans (by simp) (unhide HR3).fr.size)) (by simp only [List.length_append, List.length_cons, List.length_nil]; have u0 := uform_le C; have u1 := uform_le A; have u2 := uform_le B; have hnn := unhide hNN; omega) (by omega) (by omega))
          go_wp2_with fail
          refine (unhide HC4).mono ?_
          rintro e w4 ⟨v4, rfl, R4⟩
          have HR4 := hide ((unhide HR3).trans R4)
          clear R4 HC4 q0 q1 q2 q3 qz
          obtain ⟨q0, q1, q2, q3, qz⟩ := unhide HBX _ _ _ (unhide HR4)
          go_wp2_with fail
          go_ret
          exact ⟨_, rfl, by rw [unhide HPR]; exact (by simpa using (unhide HR4).alloc)⟩
end Go.Proofs.Ytaldacjeeccbhaa
