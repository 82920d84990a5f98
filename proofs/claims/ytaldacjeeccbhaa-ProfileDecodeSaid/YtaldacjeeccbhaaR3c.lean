/-
  The document reads a spot.
-/
import Derived.Test.YtaldacjeeccbhaaR2
namespace Go.Proofs.Ytaldacjeeccbhaa
open Go.RowKit
set_option linter.unusedVariables false
set_option linter.unusedSimpArgs false
set_option maxRecDepth 100000 in
set_option maxHeartbeats 6400000 in
theorem refSpot8 (q : Nat) {qb : Nat} (v : Value) (B : List Int) (pl : Nat) (w : World) (h : RefR w q qb v B pl 0) (hB : BOk B) (hN : B.length ≤ 140737488355328) (hqb : qb < w.heap.size) {t : List Int} (hd : B.drop pl = 8 :: t) :
    Calls Try.prog 46 #[.pointer (some ⟨q, 0, none⟩)] w (RsP q qb v B w (rdG 8 4 q4Z t)) := by
  have HS := hide (RQ.start h hqb)
  obtain ⟨w0, hw0⟩ : ∃ w0, Hid ((w.alloc (.cells #[.int .i64 0, .int .u16 0, .int .u16 0, .int .i64 0] 55)).alloc (.cells #[.int .i64 0, .int .u16 0, .int .u16 0, .int .i64 0] 55) = w0) := ⟨_, hide rfl⟩
  rw [unhide hw0] at HS
  have HBY := hide (refByte_any q v B pl 0 w0 (unhide HS).rd hN)
  rw [hd] at HBY
  simp only [gByte, rres, ↓reduceIte] at HBY
  have hw0' := unhide hw0
  clear h
  go_enter Try.func46, Try.ntmps46
  go_wp2_with fail
  refine (unhide HBY).mono ?_
  rintro e w1 ⟨rfl, p1, hr1, hp1, f1⟩
  dsimp only at hr1 hp1 ⊢
  have HR1 : Hid (RQ w q qb v B ⟨0, 0, 0, 0⟩ p1 0 w1) := hide ((unhide HS).read f1 hr1)
  clear HBY hw0' hw0 hr1 f1 HS hd
  have HO0 : rdG 8 4 q4Z t = rdG 8 4 ⟨0, 0, 0, 0⟩ t := rfl
  have a1 : bits .and .u8 8 1 = 0 := rfl
  have a2 : bits .and .u8 8 2 = 0 := rfl
  have a4 : bits .and .u8 8 4 = 0 := rfl
  have a8 : bits .and .u8 8 8 = 8 := rfl
  have HO1 : rdG 8 4 q4Z t = rdG 8 3 ⟨0, 0, 0, 0⟩ t := HO0.trans (rdG_unset (n := 3) (k := 0) rfl rfl _ _)
  have HO2 : rdG 8 4 q4Z t = rdG 8 2 ⟨0, 0, 0, 0⟩ t := HO1.trans (rdG_unset (n := 2) (k := 1) rfl rfl _ _)
  have HO3 : rdG 8 4 q4Z t = rdG 8 1 ⟨0, 0, 0, 0⟩ t := HO2.trans (rdG_unset (n := 1) (k := 2) rfl rfl _ _)
  have HCI := hide (refInt_any q v B p1 0 w1 (unhide HR1).rd hB hN)
  rw [hp1] at HCI
  obtain ⟨⟨s0, s1, s2, s3⟩, sf, sl, ⟨r0, r1, r2, r3⟩, rf, rl, ec, ql⟩ := (unhide HR1).cells
  have sf0 := sf 0
  have sf1 := sf 1
  have sf2 := sf 2
  have sf3 := sf 3
  have rf0 := rf 0
  have rf1 := rf 1
  have rf2 := rf 2
  have rf3 := rf 3
  clear sf rf
  cases hu : unum 0 0 t with
  | error k0 =>
    have hk0 := unum_err 0 0 _ k0 hu
    have HE : rdG 8 4 q4Z t = .error k0 := HO3.trans ((rdG_set (n := 0) (k := 3) rfl rfl _ _).1 k0 (by unfold rdF; rw [hu]))
    rw [hu] at HCI
    simp only [gNum, rres, ↓reduceIte] at HCI
    have dk : (k0 != 0) = true := by simpa using hk0
    go_wp2_with fail
    refine (unhide HCI).mono ?_
    rintro e w9 ⟨rfl, p9, hr9, hp9, f9⟩
    dsimp only at hr9 hp9 ⊢
    have HR9 := hide ((unhide HR1).read f9 hr9)
    clear s0 s1 s2 s3 sl r0 r1 r2 r3 rl ec ql sf0 sf1 sf2 sf3 rf0 rf1 rf2 rf3
    clear HCI
    obtain ⟨⟨s0, s1, s2, s3⟩, sf, sl, ⟨r0, r1, r2, r3⟩, rf, rl, ec, ql⟩ := (unhide HR9).cells
    have sf0 := sf 0
    have sf1 := sf 1
    have sf2 := sf 2
    have sf3 := sf 3
    have rf0 := rf 0
    have rf1 := rf 1
    have rf2 := rf 2
    have rf3 := rf 3
    clear sf rf
    have HRd := hide (unhide HR9).drew
    have HSD : Hid ((((w9.drew).cell? ⟨w.heap.size + 1, 0, none⟩ = some (.int .i64 0) ∧ w9.drew.cell? ⟨w.heap.size + 1, 1, none⟩ = some (.int .u16 0) ∧ w9.drew.cell? ⟨w.heap.size + 1, 2, none⟩ = some (.int .u16 0) ∧ w9.drew.cell? ⟨w.heap.size + 1, 3, none⟩ = some (.int .i64 0)) ∧ w9.drew.cell? ⟨q, 2, none⟩ = some (.int .i64 k0))) := ⟨⟨s0, s1, s2, s3⟩, ec⟩
    obtain ⟨V, hV⟩ : ∃ V, Hid (w9.drew = V) := ⟨_, hide rfl⟩
    have HSV := HSD
    rw [unhide hV] at HSV HRd
    obtain ⟨_, _, _, ⟨m0, m1, m2, m3⟩, mf, ml, _, _⟩ := (unhide HRd).cells
    have mf0 := mf 0
    have mf1 := mf 1
    have mf2 := mf 2
    have mf3 := mf 3
    clear mf
    obtain ⟨Z, hZ, HZF, HZR, ⟨z0, z1, z2, z3⟩, zz, zl⟩ := (unhide HRd).fin
    have HSz : Hid ((Z.cell? ⟨w.heap.size + 1, 0, none⟩ = some (.int .i64 0) ∧ Z.cell? ⟨w.heap.size + 1, 1, none⟩ = some (.int .u16 0) ∧ Z.cell? ⟨w.heap.size + 1, 2, none⟩ = some (.int .u16 0) ∧ Z.cell? ⟨w.heap.size + 1, 3, none⟩ = some (.int .i64 0)) ∧ Z.cell? ⟨q, 2, none⟩ = some (.int .i64 k0)) := ⟨zz, HZR.c2⟩
    have HZF' := hide HZF
    clear HZF HZR zz
    go_wp2_with fail
    refine wp_region_held_drew (S := (fun W => (W.cell? ⟨w.heap.size + 1, 0, none⟩ = some (.int .i64 0) ∧ W.cell? ⟨w.heap.size + 1, 1, none⟩ = some (.int .u16 0) ∧ W.cell? ⟨w.heap.size + 1, 2, none⟩ = some (.int .u16 0) ∧ W.cell? ⟨w.heap.size + 1, 3, none⟩ = some (.int .i64 0)) ∧ W.cell? ⟨q, 2, none⟩ = some (.int .i64 k0))) (by kernel_rfl) (unhide HSD) (fun hHeld => ?_)
    clear hHeld
    rw [unhide hV]
    refine wpAnyH_take (i := 0) (oi := _) (v := .agg #[.int .i64 0, .int .u16 0, .int .u16 0, .int .i64 0]) rfl (by kernel_rfl) (by kernel_rfl) (by kernel_rfl) (fun _ _ _ h => h) (Or.inl ⟨by rfl, (by intro w' hSw; obtain ⟨⟨y0, y1, y2, y3⟩, y4⟩ := hSw; go_simp)⟩) (unhide HSV) ?_
    go_simp
    refine wpAnyH_take (i := 1) (oi := _) (v := .pointer (some ⟨q, 0, none⟩)) rfl (by kernel_rfl) (by kernel_rfl) (by kernel_rfl) (fun _ _ _ h => h) (Or.inl ⟨by rfl, (by intro w' hSw; obtain ⟨⟨y0, y1, y2, y3⟩, y4⟩ := hSw; go_simp)⟩) (unhide HSV) ?_
    go_simp
    refine wpAnyH_take (i := 2) (oi := _) (v := .pointer (some ⟨q, 0, none⟩)) rfl (by kernel_rfl) (by kernel_rfl) (by kernel_rfl) (fun _ _ _ h => h) (Or.inl ⟨by rfl, (by intro w' hSw; obtain ⟨⟨y0, y1, y2, y3⟩, y4⟩ := hSw; go_simp)⟩) (unhide HSV) ?_
    go_simp
    refine wpAnyH_take (i := 3) (oi := _) (v := .pointer (some ⟨q, 2, none⟩)) rfl (by kernel_rfl) (by kernel_rfl) (by kernel_rfl) (fun _ _ _ h => h) (Or.inl ⟨by rfl, (by intro w' hSw; obtain ⟨⟨y0, y1, y2, y3⟩, y4⟩ := hSw; go_simp)⟩) (unhide HSV) ?_
    go_simp
    refine wpAnyH_take (i := 4) (oi := _) (v := .int .i64 k0) rfl (by kernel_rfl) (by kernel_rfl) (by kernel_rfl) (fun _ _ _ h => h) (Or.inl ⟨by rfl, (by intro w' hSw; obtain ⟨⟨y0, y1, y2, y3⟩, y4⟩ := hSw; go_simp)⟩) (unhide HSV) ?_
    go_simp
    refine wpAnyH_ready (rs := [5]) (by kernel_rfl) (by simp) ?_
    refine AllReadyH.cons (o := _) rfl (fun K hK => ?_) AllReadyH.nil
    go_simp
    rw [unhide hZ]
    refine hK.out _ _ (unhide HSz) (fun _ => ?_)
    clear hK K
    go_simp
    refine wpAnyH_take (i := 6) (oi := _) (v := .int .i64 k0) rfl (by kernel_rfl) (by kernel_rfl) (by kernel_rfl) (fun _ _ _ h => h) (Or.inl ⟨by rfl, (by intro w' hSw; obtain ⟨⟨y0, y1, y2, y3⟩, y4⟩ := hSw; go_simp)⟩) (unhide HSz) ?_
    go_simp
    refine wpAnyH_done (by kernel_rfl) ?_ _
    go_wp2_with fail
    refine bodyPost_ret (v := .tuple #[.agg #[.int .i64 0, .int .u16 0, .int .u16 0, .int .i64 0], .int .i64 k0]) ?_ rfl ?_
    · rw [results_cell_tmp rfl]
      go_simp
    · show RsP q qb v B w (rdG 8 4 q4Z t) _ _
      rw [HE]
      exact ⟨unhide HZF', hk0, _, _, _, _, rfl⟩
  | ok p =>
    obtain ⟨nn, t9⟩ := p
    have HE0 := rdF3_num hu
    rw [hu] at HCI
    simp only [gNum, rres, ↓reduceIte] at HCI
    obtain ⟨X, hX⟩ : ∃ X, Hid (unfoldI nn = X) := ⟨_, hide rfl⟩
    rw [unhide hX] at HE0 HCI
    go_wp2_with fail
    refine (unhide HCI).mono ?_
    rintro e w9 ⟨rfl, p9, hr9, hp9, f9⟩
    dsimp only at hr9 hp9 ⊢
    have HR9 := hide ((unhide HR1).read f9 hr9)
    clear s0 s1 s2 s3 sl r0 r1 r2 r3 rl ec ql sf0 sf1 sf2 sf3 rf0 rf1 rf2 rf3
    clear HCI
    by_cases hz : X = 0
    · rw [if_pos hz] at HE0
      have HE : rdG 8 4 q4Z t = .error 4 := HO3.trans ((rdG_set (n := 0) (k := 3) rfl rfl _ _).1 4 HE0)
      have dz : (X == 0) = true := by simpa using hz
      subst hz
      obtain ⟨⟨s0, s1, s2, s3⟩, sf, sl, ⟨r0, r1, r2, r3⟩, rf, rl, ec, ql⟩ := (unhide HR9).cells
      have sf0 := sf 0
      have sf1 := sf 1
      have sf2 := sf 2
      have sf3 := sf 3
      have rf0 := rf 0
      have rf1 := rf 1
      have rf2 := rf 2
      have rf3 := rf 3
      clear sf rf
      obtain ⟨Z, hZ, HZF, HZR, ⟨z0, z1, z2, z3⟩, _, zl⟩ := (unhide HR9).fin
      have HZF' := hide HZF
      have HZR' := hide HZR
      have hZ' := unhide hZ
      clear HZF HZR hZ
      go_wp2_with fail
      refine bodyPost_ret (v := .tuple #[.agg #[.int .i64 0, .int .u16 0, .int .u16 0, .int .i64 0], .int .i64 4]) ?_ rfl ?_
      · rw [results_cell_tmp rfl]
        go_simp
      · show RsP q qb v B w (rdG 8 4 q4Z t) _ _
        rw [HE]
        exact ⟨unhide HZF', by decide, _, _, _, _, rfl⟩
    · rw [if_neg hz] at HE0
      have dz : (X == 0) = false := by simpa using hz
      by_cases hf : -1 ≤ X ∧ X ≤ 128
      · rw [if_pos hf] at HE0
        have HE : rdG 8 4 q4Z t = .ok (⟨0, 0, 0, X⟩, t9) := HO3.trans ((rdG_set (n := 0) (k := 3) rfl rfl _ _).2 _ _ HE0)
        have d1 : decide (X < -1) = false := decide_eq_false (by omega)
        have d2 : decide (X > 128) = false := decide_eq_false (by omega)
        have d3 : ¬ X < -1 := by omega
        have d4 : ¬ 128 < X := by omega
        have HRf : Hid (RQ w q qb v B ⟨0, 0, 0, X⟩ p9 0 (w9.setCell ⟨w.heap.size + 1, 3, none⟩ (.int .i64 X))) := hide ((unhide HR9).put3 X)
        obtain ⟨⟨s0, s1, s2, s3⟩, sf, sl, ⟨r0, r1, r2, r3⟩, rf, rl, ec, ql⟩ := (unhide HR9).cells
        have sf0 := sf 0
        have sf1 := sf 1
        have sf2 := sf 2
        have sf3 := sf 3
        have rf0 := rf 0
        have rf1 := rf 1
        have rf2 := rf 2
        have rf3 := rf 3
        clear sf rf
        obtain ⟨Wf, hWf⟩ : ∃ W, Hid (w9.setCell ⟨w.heap.size + 1, 3, none⟩ (.int .i64 X) = W) := ⟨_, hide rfl⟩
        rw [unhide hWf] at HRf
        have hWf' := unhide hWf
        obtain ⟨⟨u0, u1, u2, u3⟩, uf, ul, ⟨m0, m1, m2, m3⟩, mf, ml, me, mq⟩ := (unhide HRf).cells
        have mf0 := mf 0
        have mf1 := mf 1
        have mf2 := mf 2
        have mf3 := mf 3
        clear mf uf
        obtain ⟨Z, hZ, HZF, HZR, ⟨z0, z1, z2, z3⟩, _, zl⟩ := (unhide HRf).fin
        have HZF' := hide HZF
        have HZR' := hide HZR
        have hZ' := unhide hZ
        clear HZF HZR hZ
        go_wp2_with fail
        refine bodyPost_ret (v := .tuple #[.agg #[.int .i64 0, .int .u16 0, .int .u16 0, .int .i64 X], .int .i64 0]) ?_ rfl ?_
        · rw [results_cell_tmp rfl]
          go_simp
        · show RsP q qb v B w (rdG 8 4 q4Z t) _ _
          rw [HE]
          exact ⟨unhide HZF', rfl, p9, unhide HZR', hp9⟩
      · rw [if_neg hf] at HE0
        have HE : rdG 8 4 q4Z t = .error 1 := HO3.trans ((rdG_set (n := 0) (k := 3) rfl rfl _ _).1 1 HE0)
        by_cases hl : X < -1
        · have d1 : decide (X < -1) = true := decide_eq_true hl
          obtain ⟨⟨s0, s1, s2, s3⟩, sf, sl, ⟨r0, r1, r2, r3⟩, rf, rl, ec, ql⟩ := (unhide HR9).cells
          have sf0 := sf 0
          have sf1 := sf 1
          have sf2 := sf 2
          have sf3 := sf 3
          have rf0 := rf 0
          have rf1 := rf 1
          have rf2 := rf 2
          have rf3 := rf 3
          clear sf rf
          obtain ⟨Z, hZ, HZF, HZR, ⟨z0, z1, z2, z3⟩, _, zl⟩ := (unhide HR9).fin
          have HZF' := hide HZF
          have HZR' := hide HZR
          have hZ' := unhide hZ
          clear HZF HZR hZ
          go_wp2_with fail
          refine bodyPost_ret (v := .tuple #[.agg #[.int .i64 0, .int .u16 0, .int .u16 0, .int .i64 0], .int .i64 1]) ?_ rfl ?_
          · rw [results_cell_tmp rfl]
            go_simp
          · show RsP q qb v B w (rdG 8 4 q4Z t) _ _
            rw [HE]
            exact ⟨unhide HZF', by decide, _, _, _, _, rfl⟩
        · have d1 : decide (X < -1) = false := decide_eq_false hl
          have d2 : decide (X > 128) = true := decide_eq_true (by omega)
          have d4 : 128 < X := by omega
          obtain ⟨⟨s0, s1, s2, s3⟩, sf, sl, ⟨r0, r1, r2, r3⟩, rf, rl, ec, ql⟩ := (unhide HR9).cells
          have sf0 := sf 0
          have sf1 := sf 1
          have sf2 := sf 2
          have sf3 := sf 3
          have rf0 := rf 0
          have rf1 := rf 1
          have rf2 := rf 2
          have rf3 := rf 3
          clear sf rf
          obtain ⟨Z, hZ, HZF, HZR, ⟨z0, z1, z2, z3⟩, _, zl⟩ := (unhide HR9).fin
          have HZF' := hide HZF
          have HZR' := hide HZR
          have hZ' := unhide hZ
          clear HZF HZR hZ
          go_wp2_with fail
          refine bodyPost_ret (v := .tuple #[.agg #[.int .i64 0, .int .u16 0, .int .u16 0, .int .i64 0], .int .i64 1]) ?_ rfl ?_
          · rw [results_cell_tmp rfl]
            go_simp
          · show RsP q qb v B w (rdG 8 4 q4Z t) _ _
            rw [HE]
            exact ⟨unhide HZF', by decide, _, _, _, _, rfl⟩
set_option maxRecDepth 100000 in
set_option maxHeartbeats 6400000 in
theorem refSpot9 (q : Nat) {qb : Nat} (v : Value) (B : List Int) (pl : Nat) (w : World) (h : RefR w q qb v B pl 0) (hB : BOk B) (hN : B.length ≤ 140737488355328) (hqb : qb < w.heap.size) {t : List Int} (hd : B.drop pl = 9 :: t) :
    Calls Try.prog 46 #[.pointer (some ⟨q, 0, none⟩)] w (RsP q qb v B w (rdG 9 4 q4Z t)) := by
  have HS := hide (RQ.start h hqb)
  obtain ⟨w0, hw0⟩ : ∃ w0, Hid ((w.alloc (.cells #[.int .i64 0, .int .u16 0, .int .u16 0, .int .i64 0] 55)).alloc (.cells #[.int .i64 0, .int .u16 0, .int .u16 0, .int .i64 0] 55) = w0) := ⟨_, hide rfl⟩
  rw [unhide hw0] at HS
  have HBY := hide (refByte_any q v B pl 0 w0 (unhide HS).rd hN)
  rw [hd] at HBY
  simp only [gByte, rres, ↓reduceIte] at HBY
  have hw0' := unhide hw0
  clear h
  go_enter Try.func46, Try.ntmps46
  go_wp2_with fail
  refine (unhide HBY).mono ?_
  rintro e w1 ⟨rfl, p1, hr1, hp1, f1⟩
  dsimp only at hr1 hp1 ⊢
  have HR1 : Hid (RQ w q qb v B ⟨0, 0, 0, 0⟩ p1 0 w1) := hide ((unhide HS).read f1 hr1)
  clear HBY hw0' hw0 hr1 f1 HS hd
  have HO0 : rdG 9 4 q4Z t = rdG 9 4 ⟨0, 0, 0, 0⟩ t := rfl
  have a1 : bits .and .u8 9 1 = 1 := rfl
  have a2 : bits .and .u8 9 2 = 0 := rfl
  have a4 : bits .and .u8 9 4 = 0 := rfl
  have a8 : bits .and .u8 9 8 = 8 := rfl
  have HC0 := hide (refField_any (k := 0) (by omega) q v B p1 w1 (unhide HR1).rd hB hN)
  rw [show moK 0 = 9223372036854775807 from rfl, hp1] at HC0
  obtain ⟨⟨s0, s1, s2, s3⟩, sf, sl, ⟨r0, r1, r2, r3⟩, rf, rl, ec, ql⟩ := (unhide HR1).cells
  have sf0 := sf 0
  have sf1 := sf 1
  have sf2 := sf 2
  have sf3 := sf 3
  have rf0 := rf 0
  have rf1 := rf 1
  have rf2 := rf 2
  have rf3 := rf 3
  clear sf rf
  go_wp2_with fail
  refine (unhide HC0).mono ?_
  rintro e w2 ⟨hf0, hm0⟩
  clear s0 s1 s2 s3 sl r0 r1 r2 r3 rl ec ql sf0 sf1 sf2 sf3 rf0 rf1 rf2 rf3
  clear HC0
  cases hrd0 : rdF 0 t with
  | error k0 =>
    rw [hrd0] at hm0
    obtain ⟨hk0, rfl, pe, ee, hre⟩ := hm0
    have dk : (k0 != 0) = true := by simpa using hk0
    have dk2 : (k0 == 0) = false := by simpa using hk0
    have HE : rdG 9 4 q4Z t = .error k0 := HO0.trans ((rdG_set (n := 3) (k := 0) rfl rfl _ _).1 k0 hrd0)
    have HRa := hide ((unhide HR1).read hf0 hre)
    have HRb : Hid (RQ w q qb v B ⟨0, 0, 0, 0⟩ pe ee (w2.setCell ⟨w.heap.size + 1, 0, none⟩ (.int .i64 0))) := hide ((unhide HRa).put0 0)
    obtain ⟨⟨s0, s1, s2, s3⟩, sf, sl, ⟨r0, r1, r2, r3⟩, rf, rl, ec, ql⟩ := (unhide HRa).cells
    have sf0 := sf 0
    have sf1 := sf 1
    have sf2 := sf 2
    have sf3 := sf 3
    have rf0 := rf 0
    have rf1 := rf 1
    have rf2 := rf 2
    have rf3 := rf 3
    clear sf rf
    obtain ⟨Wb, hWb⟩ : ∃ Wb, Hid (w2.setCell ⟨w.heap.size + 1, 0, none⟩ (.int .i64 0) = Wb) := ⟨_, hide rfl⟩
    rw [unhide hWb] at HRb
    have hWb' := unhide hWb
    obtain ⟨⟨u0, u1, u2, u3⟩, uf, ul, ⟨m0, m1, m2, m3⟩, mf, ml, me, mq⟩ := (unhide HRb).cells
    have mf0 := mf 0
    have mf1 := mf 1
    have mf2 := mf 2
    have mf3 := mf 3
    clear mf uf
    obtain ⟨Z, hZ, HZF, HZR, ⟨z0, z1, z2, z3⟩, _, zl⟩ := (unhide HRb).fin
    have HZF' := hide HZF
    have hZ' := unhide hZ
    clear HZF HZR hZ
    go_wp2_with fail
    refine bodyPost_ret (v := .tuple #[.agg #[.int .i64 0, .int .u16 0, .int .u16 0, .int .i64 0], .int .i64 k0]) ?_ rfl ?_
    · rw [results_cell_tmp rfl]
      go_simp
    · show RsP q qb v B w (rdG 9 4 q4Z t) _ _
      rw [HE]
      exact ⟨unhide HZF', hk0, _, _, _, _, rfl⟩
  | ok p =>
    obtain ⟨x0, t2⟩ := p
    rw [hrd0] at hm0
    obtain ⟨hx00, hx10, rfl, p2, hr0, hp2⟩ := hm0
    have HO1 : rdG 9 4 q4Z t = rdG 9 3 ⟨x0, 0, 0, 0⟩ t2 := HO0.trans ((rdG_set (n := 3) (k := 0) rfl rfl _ _).2 _ _ hrd0)
    have HRa := hide ((unhide HR1).read hf0 hr0)
    have HR2 : Hid (RQ w q qb v B ⟨x0, 0, 0, 0⟩ p2 0 (w2.setCell ⟨w.heap.size + 1, 0, none⟩ (.int .i64 x0))) := hide ((unhide HRa).put0 x0)
    obtain ⟨⟨s0, s1, s2, s3⟩, sf, sl, ⟨r0, r1, r2, r3⟩, rf, rl, ec, ql⟩ := (unhide HRa).cells
    have sf0 := sf 0
    have sf1 := sf 1
    have sf2 := sf 2
    have sf3 := sf 3
    have rf0 := rf 0
    have rf1 := rf 1
    have rf2 := rf 2
    have rf3 := rf 3
    clear sf rf
    obtain ⟨W2, hW2⟩ : ∃ W, Hid (w2.setCell ⟨w.heap.size + 1, 0, none⟩ (.int .i64 x0) = W) := ⟨_, hide rfl⟩
    rw [unhide hW2] at HR2
    have hW2' := unhide hW2
    have HO2 : rdG 9 4 q4Z t = rdG 9 2 ⟨x0, 0, 0, 0⟩ t2 := HO1.trans (rdG_unset (n := 2) (k := 1) rfl rfl _ _)
    have HO3 : rdG 9 4 q4Z t = rdG 9 1 ⟨x0, 0, 0, 0⟩ t2 := HO2.trans (rdG_unset (n := 1) (k := 2) rfl rfl _ _)
    have HCI := hide (refInt_any q v B p2 0 W2 (unhide HR2).rd hB hN)
    rw [hp2] at HCI
    obtain ⟨⟨s0, s1, s2, s3⟩, sf, sl, ⟨r0, r1, r2, r3⟩, rf, rl, ec, ql⟩ := (unhide HR2).cells
    have sf0 := sf 0
    have sf1 := sf 1
    have sf2 := sf 2
    have sf3 := sf 3
    have rf0 := rf 0
    have rf1 := rf 1
    have rf2 := rf 2
    have rf3 := rf 3
    clear sf rf
    cases hu : unum 0 0 t2 with
    | error k0 =>
      have hk0 := unum_err 0 0 _ k0 hu
      have HE : rdG 9 4 q4Z t = .error k0 := HO3.trans ((rdG_set (n := 0) (k := 3) rfl rfl _ _).1 k0 (by unfold rdF; rw [hu]))
      rw [hu] at HCI
      simp only [gNum, rres, ↓reduceIte] at HCI
      have dk : (k0 != 0) = true := by simpa using hk0
      go_wp2_with fail
      refine (unhide HCI).mono ?_
      rintro e w9 ⟨rfl, p9, hr9, hp9, f9⟩
      dsimp only at hr9 hp9 ⊢
      have HR9 := hide ((unhide HR2).read f9 hr9)
      clear s0 s1 s2 s3 sl r0 r1 r2 r3 rl ec ql sf0 sf1 sf2 sf3 rf0 rf1 rf2 rf3
      clear HCI
      obtain ⟨⟨s0, s1, s2, s3⟩, sf, sl, ⟨r0, r1, r2, r3⟩, rf, rl, ec, ql⟩ := (unhide HR9).cells
      have sf0 := sf 0
      have sf1 := sf 1
      have sf2 := sf 2
      have sf3 := sf 3
      have rf0 := rf 0
      have rf1 := rf 1
      have rf2 := rf 2
      have rf3 := rf 3
      clear sf rf
      have HRd := hide (unhide HR9).drew
      have HSD : Hid ((((w9.drew).cell? ⟨w.heap.size + 1, 0, none⟩ = some (.int .i64 x0) ∧ w9.drew.cell? ⟨w.heap.size + 1, 1, none⟩ = some (.int .u16 0) ∧ w9.drew.cell? ⟨w.heap.size + 1, 2, none⟩ = some (.int .u16 0) ∧ w9.drew.cell? ⟨w.heap.size + 1, 3, none⟩ = some (.int .i64 0)) ∧ w9.drew.cell? ⟨q, 2, none⟩ = some (.int .i64 k0))) := ⟨⟨s0, s1, s2, s3⟩, ec⟩
      obtain ⟨V, hV⟩ : ∃ V, Hid (w9.drew = V) := ⟨_, hide rfl⟩
      have HSV := HSD
      rw [unhide hV] at HSV HRd
      obtain ⟨_, _, _, ⟨m0, m1, m2, m3⟩, mf, ml, _, _⟩ := (unhide HRd).cells
      have mf0 := mf 0
      have mf1 := mf 1
      have mf2 := mf 2
      have mf3 := mf 3
      clear mf
      obtain ⟨Z, hZ, HZF, HZR, ⟨z0, z1, z2, z3⟩, zz, zl⟩ := (unhide HRd).fin
      have HSz : Hid ((Z.cell? ⟨w.heap.size + 1, 0, none⟩ = some (.int .i64 x0) ∧ Z.cell? ⟨w.heap.size + 1, 1, none⟩ = some (.int .u16 0) ∧ Z.cell? ⟨w.heap.size + 1, 2, none⟩ = some (.int .u16 0) ∧ Z.cell? ⟨w.heap.size + 1, 3, none⟩ = some (.int .i64 0)) ∧ Z.cell? ⟨q, 2, none⟩ = some (.int .i64 k0)) := ⟨zz, HZR.c2⟩
      have HZF' := hide HZF
      clear HZF HZR zz
      go_wp2_with fail
      refine wp_region_held_drew (S := (fun W => (W.cell? ⟨w.heap.size + 1, 0, none⟩ = some (.int .i64 x0) ∧ W.cell? ⟨w.heap.size + 1, 1, none⟩ = some (.int .u16 0) ∧ W.cell? ⟨w.heap.size + 1, 2, none⟩ = some (.int .u16 0) ∧ W.cell? ⟨w.heap.size + 1, 3, none⟩ = some (.int .i64 0)) ∧ W.cell? ⟨q, 2, none⟩ = some (.int .i64 k0))) (by kernel_rfl) (unhide HSD) (fun hHeld => ?_)
      clear hHeld
      rw [unhide hV]
      refine wpAnyH_take (i := 0) (oi := _) (v := .agg #[.int .i64 x0, .int .u16 0, .int .u16 0, .int .i64 0]) rfl (by kernel_rfl) (by kernel_rfl) (by kernel_rfl) (fun _ _ _ h => h) (Or.inl ⟨by rfl, (by intro w' hSw; obtain ⟨⟨y0, y1, y2, y3⟩, y4⟩ := hSw; go_simp)⟩) (unhide HSV) ?_
      go_simp
      refine wpAnyH_take (i := 1) (oi := _) (v := .pointer (some ⟨q, 0, none⟩)) rfl (by kernel_rfl) (by kernel_rfl) (by kernel_rfl) (fun _ _ _ h => h) (Or.inl ⟨by rfl, (by intro w' hSw; obtain ⟨⟨y0, y1, y2, y3⟩, y4⟩ := hSw; go_simp)⟩) (unhide HSV) ?_
      go_simp
      refine wpAnyH_take (i := 2) (oi := _) (v := .pointer (some ⟨q, 0, none⟩)) rfl (by kernel_rfl) (by kernel_rfl) (by kernel_rfl) (fun _ _ _ h => h) (Or.inl ⟨by rfl, (by intro w' hSw; obtain ⟨⟨y0, y1, y2, y3⟩, y4⟩ := hSw; go_simp)⟩) (unhide HSV) ?_
      go_simp
      refine wpAnyH_take (i := 3) (oi := _) (v := .pointer (some ⟨q, 2, none⟩)) rfl (by kernel_rfl) (by kernel_rfl) (by kernel_rfl) (fun _ _ _ h => h) (Or.inl ⟨by rfl, (by intro w' hSw; obtain ⟨⟨y0, y1, y2, y3⟩, y4⟩ := hSw; go_simp)⟩) (unhide HSV) ?_
      go_simp
      refine wpAnyH_take (i := 4) (oi := _) (v := .int .i64 k0) rfl (by kernel_rfl) (by kernel_rfl) (by kernel_rfl) (fun _ _ _ h => h) (Or.inl ⟨by rfl, (by intro w' hSw; obtain ⟨⟨y0, y1, y2, y3⟩, y4⟩ := hSw; go_simp)⟩) (unhide HSV) ?_
      go_simp
      refine wpAnyH_ready (rs := [5]) (by kernel_rfl) (by simp) ?_
      refine AllReadyH.cons (o := _) rfl (fun K hK => ?_) AllReadyH.nil
      go_simp
      rw [unhide hZ]
      refine hK.out _ _ (unhide HSz) (fun _ => ?_)
      clear hK K
      go_simp
      refine wpAnyH_take (i := 6) (oi := _) (v := .int .i64 k0) rfl (by kernel_rfl) (by kernel_rfl) (by kernel_rfl) (fun _ _ _ h => h) (Or.inl ⟨by rfl, (by intro w' hSw; obtain ⟨⟨y0, y1, y2, y3⟩, y4⟩ := hSw; go_simp)⟩) (unhide HSz) ?_
      go_simp
      refine wpAnyH_done (by kernel_rfl) ?_ _
      go_wp2_with fail
      refine bodyPost_ret (v := .tuple #[.agg #[.int .i64 x0, .int .u16 0, .int .u16 0, .int .i64 0], .int .i64 k0]) ?_ rfl ?_
      · rw [results_cell_tmp rfl]
        go_simp
      · show RsP q qb v B w (rdG 9 4 q4Z t) _ _
        rw [HE]
        exact ⟨unhide HZF', hk0, _, _, _, _, rfl⟩
    | ok p =>
      obtain ⟨nn, t9⟩ := p
      have HE0 := rdF3_num hu
      rw [hu] at HCI
      simp only [gNum, rres, ↓reduceIte] at HCI
      obtain ⟨X, hX⟩ : ∃ X, Hid (unfoldI nn = X) := ⟨_, hide rfl⟩
      rw [unhide hX] at HE0 HCI
      go_wp2_with fail
      refine (unhide HCI).mono ?_
      rintro e w9 ⟨rfl, p9, hr9, hp9, f9⟩
      dsimp only at hr9 hp9 ⊢
      have HR9 := hide ((unhide HR2).read f9 hr9)
      clear s0 s1 s2 s3 sl r0 r1 r2 r3 rl ec ql sf0 sf1 sf2 sf3 rf0 rf1 rf2 rf3
      clear HCI
      by_cases hz : X = 0
      · rw [if_pos hz] at HE0
        have HE : rdG 9 4 q4Z t = .error 4 := HO3.trans ((rdG_set (n := 0) (k := 3) rfl rfl _ _).1 4 HE0)
        have dz : (X == 0) = true := by simpa using hz
        subst hz
        obtain ⟨⟨s0, s1, s2, s3⟩, sf, sl, ⟨r0, r1, r2, r3⟩, rf, rl, ec, ql⟩ := (unhide HR9).cells
        have sf0 := sf 0
        have sf1 := sf 1
        have sf2 := sf 2
        have sf3 := sf 3
        have rf0 := rf 0
        have rf1 := rf 1
        have rf2 := rf 2
        have rf3 := rf 3
        clear sf rf
        obtain ⟨Z, hZ, HZF, HZR, ⟨z0, z1, z2, z3⟩, _, zl⟩ := (unhide HR9).fin
        have HZF' := hide HZF
        have HZR' := hide HZR
        have hZ' := unhide hZ
        clear HZF HZR hZ
        go_wp2_with fail
        refine bodyPost_ret (v := .tuple #[.agg #[.int .i64 x0, .int .u16 0, .int .u16 0, .int .i64 0], .int .i64 4]) ?_ rfl ?_
        · rw [results_cell_tmp rfl]
          go_simp
        · show RsP q qb v B w (rdG 9 4 q4Z t) _ _
          rw [HE]
          exact ⟨unhide HZF', by decide, _, _, _, _, rfl⟩
      · rw [if_neg hz] at HE0
        have dz : (X == 0) = false := by simpa using hz
        by_cases hf : -1 ≤ X ∧ X ≤ 128
        · rw [if_pos hf] at HE0
          have HE : rdG 9 4 q4Z t = .ok (⟨x0, 0, 0, X⟩, t9) := HO3.trans ((rdG_set (n := 0) (k := 3) rfl rfl _ _).2 _ _ HE0)
          have d1 : decide (X < -1) = false := decide_eq_false (by omega)
          have d2 : decide (X > 128) = false := decide_eq_false (by omega)
          have d3 : ¬ X < -1 := by omega
          have d4 : ¬ 128 < X := by omega
          have HRf : Hid (RQ w q qb v B ⟨x0, 0, 0, X⟩ p9 0 (w9.setCell ⟨w.heap.size + 1, 3, none⟩ (.int .i64 X))) := hide ((unhide HR9).put3 X)
          obtain ⟨⟨s0, s1, s2, s3⟩, sf, sl, ⟨r0, r1, r2, r3⟩, rf, rl, ec, ql⟩ := (unhide HR9).cells
          have sf0 := sf 0
          have sf1 := sf 1
          have sf2 := sf 2
          have sf3 := sf 3
          have rf0 := rf 0
          have rf1 := rf 1
          have rf2 := rf 2
          have rf3 := rf 3
          clear sf rf
          obtain ⟨Wf, hWf⟩ : ∃ W, Hid (w9.setCell ⟨w.heap.size + 1, 3, none⟩ (.int .i64 X) = W) := ⟨_, hide rfl⟩
          rw [unhide hWf] at HRf
          have hWf' := unhide hWf
          obtain ⟨⟨u0, u1, u2, u3⟩, uf, ul, ⟨m0, m1, m2, m3⟩, mf, ml, me, mq⟩ := (unhide HRf).cells
          have mf0 := mf 0
          have mf1 := mf 1
          have mf2 := mf 2
          have mf3 := mf 3
          clear mf uf
          obtain ⟨Z, hZ, HZF, HZR, ⟨z0, z1, z2, z3⟩, _, zl⟩ := (unhide HRf).fin
          have HZF' := hide HZF
          have HZR' := hide HZR
          have hZ' := unhide hZ
          clear HZF HZR hZ
          go_wp2_with fail
          refine bodyPost_ret (v := .tuple #[.agg #[.int .i64 x0, .int .u16 0, .int .u16 0, .int .i64 X], .int .i64 0]) ?_ rfl ?_
          · rw [results_cell_tmp rfl]
            go_simp
          · show RsP q qb v B w (rdG 9 4 q4Z t) _ _
            rw [HE]
            exact ⟨unhide HZF', rfl, p9, unhide HZR', hp9⟩
        · rw [if_neg hf] at HE0
          have HE : rdG 9 4 q4Z t = .error 1 := HO3.trans ((rdG_set (n := 0) (k := 3) rfl rfl _ _).1 1 HE0)
          by_cases hl : X < -1
          · have d1 : decide (X < -1) = true := decide_eq_true hl
            obtain ⟨⟨s0, s1, s2, s3⟩, sf, sl, ⟨r0, r1, r2, r3⟩, rf, rl, ec, ql⟩ := (unhide HR9).cells
            have sf0 := sf 0
            have sf1 := sf 1
            have sf2 := sf 2
            have sf3 := sf 3
            have rf0 := rf 0
            have rf1 := rf 1
            have rf2 := rf 2
            have rf3 := rf 3
            clear sf rf
            obtain ⟨Z, hZ, HZF, HZR, ⟨z0, z1, z2, z3⟩, _, zl⟩ := (unhide HR9).fin
            have HZF' := hide HZF
            have HZR' := hide HZR
            have hZ' := unhide hZ
            clear HZF HZR hZ
            go_wp2_with fail
            refine bodyPost_ret (v := .tuple #[.agg #[.int .i64 x0, .int .u16 0, .int .u16 0, .int .i64 0], .int .i64 1]) ?_ rfl ?_
            · rw [results_cell_tmp rfl]
              go_simp
            · show RsP q qb v B w (rdG 9 4 q4Z t) _ _
              rw [HE]
              exact ⟨unhide HZF', by decide, _, _, _, _, rfl⟩
          · have d1 : decide (X < -1) = false := decide_eq_false hl
            have d2 : decide (X > 128) = true := decide_eq_true (by omega)
            have d4 : 128 < X := by omega
            obtain ⟨⟨s0, s1, s2, s3⟩, sf, sl, ⟨r0, r1, r2, r3⟩, rf, rl, ec, ql⟩ := (unhide HR9).cells
            have sf0 := sf 0
            have sf1 := sf 1
            have sf2 := sf 2
            have sf3 := sf 3
            have rf0 := rf 0
            have rf1 := rf 1
            have rf2 := rf 2
            have rf3 := rf 3
            clear sf rf
            obtain ⟨Z, hZ, HZF, HZR, ⟨z0, z1, z2, z3⟩, _, zl⟩ := (unhide HR9).fin
            have HZF' := hide HZF
            have HZR' := hide HZR
            have hZ' := unhide hZ
            clear HZF HZR hZ
            go_wp2_with fail
            refine bodyPost_ret (v := .tuple #[.agg #[.int .i64 x0, .int .u16 0, .int .u16 0, .int .i64 0], .int .i64 1]) ?_ rfl ?_
            · rw [results_cell_tmp rfl]
              go_simp
            · show RsP q qb v B w (rdG 9 4 q4Z t) _ _
              rw [HE]
              exact ⟨unhide HZF', by decide, _, _, _, _, rfl⟩
set_option maxRecDepth 100000 in
set_option maxHeartbeats 6400000 in
theorem refSpot10 (q : Nat) {qb : Nat} (v : Value) (B : List Int) (pl : Nat) (w : World) (h : RefR w q qb v B pl 0) (hB : BOk B) (hN : B.length ≤ 140737488355328) (hqb : qb < w.heap.size) {t : List Int} (hd : B.drop pl = 10 :: t) :
    Calls Try.prog 46 #[.pointer (some ⟨q, 0, none⟩)] w (RsP q qb v B w (rdG 10 4 q4Z t)) := by
  have HS := hide (RQ.start h hqb)
  obtain ⟨w0, hw0⟩ : ∃ w0, Hid ((w.alloc (.cells #[.int .i64 0, .int .u16 0, .int .u16 0, .int .i64 0] 55)).alloc (.cells #[.int .i64 0, .int .u16 0, .int .u16 0, .int .i64 0] 55) = w0) := ⟨_, hide rfl⟩
  rw [unhide hw0] at HS
  have HBY := hide (refByte_any q v B pl 0 w0 (unhide HS).rd hN)
  rw [hd] at HBY
  simp only [gByte, rres, ↓reduceIte] at HBY
  have hw0' := unhide hw0
  clear h
  go_enter Try.func46, Try.ntmps46
  go_wp2_with fail
  refine (unhide HBY).mono ?_
  rintro e w1 ⟨rfl, p1, hr1, hp1, f1⟩
  dsimp only at hr1 hp1 ⊢
  have HR1 : Hid (RQ w q qb v B ⟨0, 0, 0, 0⟩ p1 0 w1) := hide ((unhide HS).read f1 hr1)
  clear HBY hw0' hw0 hr1 f1 HS hd
  have HO0 : rdG 10 4 q4Z t = rdG 10 4 ⟨0, 0, 0, 0⟩ t := rfl
  have a1 : bits .and .u8 10 1 = 0 := rfl
  have a2 : bits .and .u8 10 2 = 2 := rfl
  have a4 : bits .and .u8 10 4 = 0 := rfl
  have a8 : bits .and .u8 10 8 = 8 := rfl
  have HO1 : rdG 10 4 q4Z t = rdG 10 3 ⟨0, 0, 0, 0⟩ t := HO0.trans (rdG_unset (n := 3) (k := 0) rfl rfl _ _)
  have HC1 := hide (refField_any (k := 1) (by omega) q v B p1 w1 (unhide HR1).rd hB hN)
  rw [show moK 1 = 1023 from rfl, hp1] at HC1
  obtain ⟨⟨s0, s1, s2, s3⟩, sf, sl, ⟨r0, r1, r2, r3⟩, rf, rl, ec, ql⟩ := (unhide HR1).cells
  have sf0 := sf 0
  have sf1 := sf 1
  have sf2 := sf 2
  have sf3 := sf 3
  have rf0 := rf 0
  have rf1 := rf 1
  have rf2 := rf 2
  have rf3 := rf 3
  clear sf rf
  go_wp2_with fail
  refine (unhide HC1).mono ?_
  rintro e w3 ⟨hf1, hm1⟩
  clear s0 s1 s2 s3 sl r0 r1 r2 r3 rl ec ql sf0 sf1 sf2 sf3 rf0 rf1 rf2 rf3
  clear HC1
  cases hrd1 : rdF 1 t with
  | error k0 =>
    rw [hrd1] at hm1
    obtain ⟨hk0, rfl, pe, ee, hre⟩ := hm1
    have dk : (k0 != 0) = true := by simpa using hk0
    have dk2 : (k0 == 0) = false := by simpa using hk0
    have HE : rdG 10 4 q4Z t = .error k0 := HO1.trans ((rdG_set (n := 2) (k := 1) rfl rfl _ _).1 k0 hrd1)
    have HRa := hide ((unhide HR1).read hf1 hre)
    have HRb : Hid (RQ w q qb v B ⟨0, 0, 0, 0⟩ pe ee (w3.setCell ⟨w.heap.size + 1, 1, none⟩ (.int .u16 0))) := hide ((unhide HRa).put1 0)
    obtain ⟨⟨s0, s1, s2, s3⟩, sf, sl, ⟨r0, r1, r2, r3⟩, rf, rl, ec, ql⟩ := (unhide HRa).cells
    have sf0 := sf 0
    have sf1 := sf 1
    have sf2 := sf 2
    have sf3 := sf 3
    have rf0 := rf 0
    have rf1 := rf 1
    have rf2 := rf 2
    have rf3 := rf 3
    clear sf rf
    obtain ⟨Wb, hWb⟩ : ∃ Wb, Hid (w3.setCell ⟨w.heap.size + 1, 1, none⟩ (.int .u16 0) = Wb) := ⟨_, hide rfl⟩
    rw [unhide hWb] at HRb
    have hWb' := unhide hWb
    obtain ⟨⟨u0, u1, u2, u3⟩, uf, ul, ⟨m0, m1, m2, m3⟩, mf, ml, me, mq⟩ := (unhide HRb).cells
    have mf0 := mf 0
    have mf1 := mf 1
    have mf2 := mf 2
    have mf3 := mf 3
    clear mf uf
    obtain ⟨Z, hZ, HZF, HZR, ⟨z0, z1, z2, z3⟩, _, zl⟩ := (unhide HRb).fin
    have HZF' := hide HZF
    have hZ' := unhide hZ
    clear HZF HZR hZ
    go_wp2_with fail
    refine bodyPost_ret (v := .tuple #[.agg #[.int .i64 0, .int .u16 0, .int .u16 0, .int .i64 0], .int .i64 k0]) ?_ rfl ?_
    · rw [results_cell_tmp rfl]
      go_simp
    · show RsP q qb v B w (rdG 10 4 q4Z t) _ _
      rw [HE]
      exact ⟨unhide HZF', hk0, _, _, _, _, rfl⟩
  | ok p =>
    obtain ⟨x1, t3⟩ := p
    rw [hrd1] at hm1
    obtain ⟨hx01, hx11, rfl, p3, hr1, hp3⟩ := hm1
    have HO2 : rdG 10 4 q4Z t = rdG 10 2 ⟨0, x1, 0, 0⟩ t3 := HO1.trans ((rdG_set (n := 2) (k := 1) rfl rfl _ _).2 _ _ hrd1)
    have HRa := hide ((unhide HR1).read hf1 hr1)
    have HR3 : Hid (RQ w q qb v B ⟨0, (IntKind.u16.wrap x1), 0, 0⟩ p3 0 (w3.setCell ⟨w.heap.size + 1, 1, none⟩ (.int .u16 (IntKind.u16.wrap x1)))) := hide ((unhide HRa).put1 (IntKind.u16.wrap x1))
    obtain ⟨⟨s0, s1, s2, s3⟩, sf, sl, ⟨r0, r1, r2, r3⟩, rf, rl, ec, ql⟩ := (unhide HRa).cells
    have sf0 := sf 0
    have sf1 := sf 1
    have sf2 := sf 2
    have sf3 := sf 3
    have rf0 := rf 0
    have rf1 := rf 1
    have rf2 := rf 2
    have rf3 := rf 3
    clear sf rf
    obtain ⟨W3, hW3⟩ : ∃ W, Hid (w3.setCell ⟨w.heap.size + 1, 1, none⟩ (.int .u16 (IntKind.u16.wrap x1)) = W) := ⟨_, hide rfl⟩
    rw [unhide hW3] at HR3
    have hW3' := unhide hW3
    have HO3 : rdG 10 4 q4Z t = rdG 10 1 ⟨0, x1, 0, 0⟩ t3 := HO2.trans (rdG_unset (n := 1) (k := 2) rfl rfl _ _)
    have HCI := hide (refInt_any q v B p3 0 W3 (unhide HR3).rd hB hN)
    rw [hp3] at HCI
    obtain ⟨⟨s0, s1, s2, s3⟩, sf, sl, ⟨r0, r1, r2, r3⟩, rf, rl, ec, ql⟩ := (unhide HR3).cells
    have sf0 := sf 0
    have sf1 := sf 1
    have sf2 := sf 2
    have sf3 := sf 3
    have rf0 := rf 0
    have rf1 := rf 1
    have rf2 := rf 2
    have rf3 := rf 3
    clear sf rf
    cases hu : unum 0 0 t3 with
    | error k0 =>
      have hk0 := unum_err 0 0 _ k0 hu
      have HE : rdG 10 4 q4Z t = .error k0 := HO3.trans ((rdG_set (n := 0) (k := 3) rfl rfl _ _).1 k0 (by unfold rdF; rw [hu]))
      rw [hu] at HCI
      simp only [gNum, rres, ↓reduceIte] at HCI
      have dk : (k0 != 0) = true := by simpa using hk0
      go_wp2_with fail
      refine (unhide HCI).mono ?_
      rintro e w9 ⟨rfl, p9, hr9, hp9, f9⟩
      dsimp only at hr9 hp9 ⊢
      have HR9 := hide ((unhide HR3).read f9 hr9)
      clear s0 s1 s2 s3 sl r0 r1 r2 r3 rl ec ql sf0 sf1 sf2 sf3 rf0 rf1 rf2 rf3
      clear HCI
      obtain ⟨⟨s0, s1, s2, s3⟩, sf, sl, ⟨r0, r1, r2, r3⟩, rf, rl, ec, ql⟩ := (unhide HR9).cells
      have sf0 := sf 0
      have sf1 := sf 1
      have sf2 := sf 2
      have sf3 := sf 3
      have rf0 := rf 0
      have rf1 := rf 1
      have rf2 := rf 2
      have rf3 := rf 3
      clear sf rf
      have HRd := hide (unhide HR9).drew
      have HSD : Hid ((((w9.drew).cell? ⟨w.heap.size + 1, 0, none⟩ = some (.int .i64 0) ∧ w9.drew.cell? ⟨w.heap.size + 1, 1, none⟩ = some (.int .u16 (IntKind.u16.wrap x1)) ∧ w9.drew.cell? ⟨w.heap.size + 1, 2, none⟩ = some (.int .u16 0) ∧ w9.drew.cell? ⟨w.heap.size + 1, 3, none⟩ = some (.int .i64 0)) ∧ w9.drew.cell? ⟨q, 2, none⟩ = some (.int .i64 k0))) := ⟨⟨s0, s1, s2, s3⟩, ec⟩
      obtain ⟨V, hV⟩ : ∃ V, Hid (w9.drew = V) := ⟨_, hide rfl⟩
      have HSV := HSD
      rw [unhide hV] at HSV HRd
      obtain ⟨_, _, _, ⟨m0, m1, m2, m3⟩, mf, ml, _, _⟩ := (unhide HRd).cells
      have mf0 := mf 0
      have mf1 := mf 1
      have mf2 := mf 2
      have mf3 := mf 3
      clear mf
      obtain ⟨Z, hZ, HZF, HZR, ⟨z0, z1, z2, z3⟩, zz, zl⟩ := (unhide HRd).fin
      have HSz : Hid ((Z.cell? ⟨w.heap.size + 1, 0, none⟩ = some (.int .i64 0) ∧ Z.cell? ⟨w.heap.size + 1, 1, none⟩ = some (.int .u16 (IntKind.u16.wrap x1)) ∧ Z.cell? ⟨w.heap.size + 1, 2, none⟩ = some (.int .u16 0) ∧ Z.cell? ⟨w.heap.size + 1, 3, none⟩ = some (.int .i64 0)) ∧ Z.cell? ⟨q, 2, none⟩ = some (.int .i64 k0)) := ⟨zz, HZR.c2⟩
      have HZF' := hide HZF
      clear HZF HZR zz
      go_wp2_with fail
      refine wp_region_held_drew (S := (fun W => (W.cell? ⟨w.heap.size + 1, 0, none⟩ = some (.int .i64 0) ∧ W.cell? ⟨w.heap.size + 1, 1, none⟩ = some (.int .u16 (IntKind.u16.wrap x1)) ∧ W.cell? ⟨w.heap.size + 1, 2, none⟩ = some (.int .u16 0) ∧ W.cell? ⟨w.heap.size + 1, 3, none⟩ = some (.int .i64 0)) ∧ W.cell? ⟨q, 2, none⟩ = some (.int .i64 k0))) (by kernel_rfl) (unhide HSD) (fun hHeld => ?_)
      clear hHeld
      rw [unhide hV]
      refine wpAnyH_take (i := 0) (oi := _) (v := .agg #[.int .i64 0, .int .u16 (IntKind.u16.wrap x1), .int .u16 0, .int .i64 0]) rfl (by kernel_rfl) (by kernel_rfl) (by kernel_rfl) (fun _ _ _ h => h) (Or.inl ⟨by rfl, (by intro w' hSw; obtain ⟨⟨y0, y1, y2, y3⟩, y4⟩ := hSw; go_simp)⟩) (unhide HSV) ?_
      go_simp
      refine wpAnyH_take (i := 1) (oi := _) (v := .pointer (some ⟨q, 0, none⟩)) rfl (by kernel_rfl) (by kernel_rfl) (by kernel_rfl) (fun _ _ _ h => h) (Or.inl ⟨by rfl, (by intro w' hSw; obtain ⟨⟨y0, y1, y2, y3⟩, y4⟩ := hSw; go_simp)⟩) (unhide HSV) ?_
      go_simp
      refine wpAnyH_take (i := 2) (oi := _) (v := .pointer (some ⟨q, 0, none⟩)) rfl (by kernel_rfl) (by kernel_rfl) (by kernel_rfl) (fun _ _ _ h => h) (Or.inl ⟨by rfl, (by intro w' hSw; obtain ⟨⟨y0, y1, y2, y3⟩, y4⟩ := hSw; go_simp)⟩) (unhide HSV) ?_
      go_simp
      refine wpAnyH_take (i := 3) (oi := _) (v := .pointer (some ⟨q, 2, none⟩)) rfl (by kernel_rfl) (by kernel_rfl) (by kernel_rfl) (fun _ _ _ h => h) (Or.inl ⟨by rfl, (by intro w' hSw; obtain ⟨⟨y0, y1, y2, y3⟩, y4⟩ := hSw; go_simp)⟩) (unhide HSV) ?_
      go_simp
      refine wpAnyH_take (i := 4) (oi := _) (v := .int .i64 k0) rfl (by kernel_rfl) (by kernel_rfl) (by kernel_rfl) (fun _ _ _ h => h) (Or.inl ⟨by rfl, (by intro w' hSw; obtain ⟨⟨y0, y1, y2, y3⟩, y4⟩ := hSw; go_simp)⟩) (unhide HSV) ?_
      go_simp
      refine wpAnyH_ready (rs := [5]) (by kernel_rfl) (by simp) ?_
      refine AllReadyH.cons (o := _) rfl (fun K hK => ?_) AllReadyH.nil
      go_simp
      rw [unhide hZ]
      refine hK.out _ _ (unhide HSz) (fun _ => ?_)
      clear hK K
      go_simp
      refine wpAnyH_take (i := 6) (oi := _) (v := .int .i64 k0) rfl (by kernel_rfl) (by kernel_rfl) (by kernel_rfl) (fun _ _ _ h => h) (Or.inl ⟨by rfl, (by intro w' hSw; obtain ⟨⟨y0, y1, y2, y3⟩, y4⟩ := hSw; go_simp)⟩) (unhide HSz) ?_
      go_simp
      refine wpAnyH_done (by kernel_rfl) ?_ _
      go_wp2_with fail
      refine bodyPost_ret (v := .tuple #[.agg #[.int .i64 0, .int .u16 (IntKind.u16.wrap x1), .int .u16 0, .int .i64 0], .int .i64 k0]) ?_ rfl ?_
      · rw [results_cell_tmp rfl]
        go_simp
      · show RsP q qb v B w (rdG 10 4 q4Z t) _ _
        rw [HE]
        exact ⟨unhide HZF', hk0, _, _, _, _, rfl⟩
    | ok p =>
      obtain ⟨nn, t9⟩ := p
      have HE0 := rdF3_num hu
      rw [hu] at HCI
      simp only [gNum, rres, ↓reduceIte] at HCI
      obtain ⟨X, hX⟩ : ∃ X, Hid (unfoldI nn = X) := ⟨_, hide rfl⟩
      rw [unhide hX] at HE0 HCI
      go_wp2_with fail
      refine (unhide HCI).mono ?_
      rintro e w9 ⟨rfl, p9, hr9, hp9, f9⟩
      dsimp only at hr9 hp9 ⊢
      have HR9 := hide ((unhide HR3).read f9 hr9)
      clear s0 s1 s2 s3 sl r0 r1 r2 r3 rl ec ql sf0 sf1 sf2 sf3 rf0 rf1 rf2 rf3
      clear HCI
      by_cases hz : X = 0
      · rw [if_pos hz] at HE0
        have HE : rdG 10 4 q4Z t = .error 4 := HO3.trans ((rdG_set (n := 0) (k := 3) rfl rfl _ _).1 4 HE0)
        have dz : (X == 0) = true := by simpa using hz
        subst hz
        obtain ⟨⟨s0, s1, s2, s3⟩, sf, sl, ⟨r0, r1, r2, r3⟩, rf, rl, ec, ql⟩ := (unhide HR9).cells
        have sf0 := sf 0
        have sf1 := sf 1
        have sf2 := sf 2
        have sf3 := sf 3
        have rf0 := rf 0
        have rf1 := rf 1
        have rf2 := rf 2
        have rf3 := rf 3
        clear sf rf
        obtain ⟨Z, hZ, HZF, HZR, ⟨z0, z1, z2, z3⟩, _, zl⟩ := (unhide HR9).fin
        have HZF' := hide HZF
        have HZR' := hide HZR
        have hZ' := unhide hZ
        clear HZF HZR hZ
        go_wp2_with fail
        refine bodyPost_ret (v := .tuple #[.agg #[.int .i64 0, .int .u16 (IntKind.u16.wrap x1), .int .u16 0, .int .i64 0], .int .i64 4]) ?_ rfl ?_
        · rw [results_cell_tmp rfl]
          go_simp
        · show RsP q qb v B w (rdG 10 4 q4Z t) _ _
          rw [HE]
          exact ⟨unhide HZF', by decide, _, _, _, _, rfl⟩
      · rw [if_neg hz] at HE0
        have dz : (X == 0) = false := by simpa using hz
        by_cases hf : -1 ≤ X ∧ X ≤ 128
        · rw [if_pos hf] at HE0
          have HE : rdG 10 4 q4Z t = .ok (⟨0, x1, 0, X⟩, t9) := HO3.trans ((rdG_set (n := 0) (k := 3) rfl rfl _ _).2 _ _ HE0)
          have d1 : decide (X < -1) = false := decide_eq_false (by omega)
          have d2 : decide (X > 128) = false := decide_eq_false (by omega)
          have d3 : ¬ X < -1 := by omega
          have d4 : ¬ 128 < X := by omega
          have HRf : Hid (RQ w q qb v B ⟨0, (IntKind.u16.wrap x1), 0, X⟩ p9 0 (w9.setCell ⟨w.heap.size + 1, 3, none⟩ (.int .i64 X))) := hide ((unhide HR9).put3 X)
          obtain ⟨⟨s0, s1, s2, s3⟩, sf, sl, ⟨r0, r1, r2, r3⟩, rf, rl, ec, ql⟩ := (unhide HR9).cells
          have sf0 := sf 0
          have sf1 := sf 1
          have sf2 := sf 2
          have sf3 := sf 3
          have rf0 := rf 0
          have rf1 := rf 1
          have rf2 := rf 2
          have rf3 := rf 3
          clear sf rf
          obtain ⟨Wf, hWf⟩ : ∃ W, Hid (w9.setCell ⟨w.heap.size + 1, 3, none⟩ (.int .i64 X) = W) := ⟨_, hide rfl⟩
          rw [unhide hWf] at HRf
          have hWf' := unhide hWf
          obtain ⟨⟨u0, u1, u2, u3⟩, uf, ul, ⟨m0, m1, m2, m3⟩, mf, ml, me, mq⟩ := (unhide HRf).cells
          have mf0 := mf 0
          have mf1 := mf 1
          have mf2 := mf 2
          have mf3 := mf 3
          clear mf uf
          obtain ⟨Z, hZ, HZF, HZR, ⟨z0, z1, z2, z3⟩, _, zl⟩ := (unhide HRf).fin
          have HZF' := hide HZF
          have HZR' := hide HZR
          have hZ' := unhide hZ
          clear HZF HZR hZ
          go_wp2_with fail
          refine bodyPost_ret (v := .tuple #[.agg #[.int .i64 0, .int .u16 (IntKind.u16.wrap x1), .int .u16 0, .int .i64 X], .int .i64 0]) ?_ rfl ?_
          · rw [results_cell_tmp rfl]
            go_simp
          · show RsP q qb v B w (rdG 10 4 q4Z t) _ _
            rw [HE]
            exact ⟨unhide HZF', rfl, p9, unhide HZR', hp9⟩
        · rw [if_neg hf] at HE0
          have HE : rdG 10 4 q4Z t = .error 1 := HO3.trans ((rdG_set (n := 0) (k := 3) rfl rfl _ _).1 1 HE0)
          by_cases hl : X < -1
          · have d1 : decide (X < -1) = true := decide_eq_true hl
            obtain ⟨⟨s0, s1, s2, s3⟩, sf, sl, ⟨r0, r1, r2, r3⟩, rf, rl, ec, ql⟩ := (unhide HR9).cells
            have sf0 := sf 0
            have sf1 := sf 1
            have sf2 := sf 2
            have sf3 := sf 3
            have rf0 := rf 0
            have rf1 := rf 1
            have rf2 := rf 2
            have rf3 := rf 3
            clear sf rf
            obtain ⟨Z, hZ, HZF, HZR, ⟨z0, z1, z2, z3⟩, _, zl⟩ := (unhide HR9).fin
            have HZF' := hide HZF
            have HZR' := hide HZR
            have hZ' := unhide hZ
            clear HZF HZR hZ
            go_wp2_with fail
            refine bodyPost_ret (v := .tuple #[.agg #[.int .i64 0, .int .u16 (IntKind.u16.wrap x1), .int .u16 0, .int .i64 0], .int .i64 1]) ?_ rfl ?_
            · rw [results_cell_tmp rfl]
              go_simp
            · show RsP q qb v B w (rdG 10 4 q4Z t) _ _
              rw [HE]
              exact ⟨unhide HZF', by decide, _, _, _, _, rfl⟩
          · have d1 : decide (X < -1) = false := decide_eq_false hl
            have d2 : decide (X > 128) = true := decide_eq_true (by omega)
            have d4 : 128 < X := by omega
            obtain ⟨⟨s0, s1, s2, s3⟩, sf, sl, ⟨r0, r1, r2, r3⟩, rf, rl, ec, ql⟩ := (unhide HR9).cells
            have sf0 := sf 0
            have sf1 := sf 1
            have sf2 := sf 2
            have sf3 := sf 3
            have rf0 := rf 0
            have rf1 := rf 1
            have rf2 := rf 2
            have rf3 := rf 3
            clear sf rf
            obtain ⟨Z, hZ, HZF, HZR, ⟨z0, z1, z2, z3⟩, _, zl⟩ := (unhide HR9).fin
            have HZF' := hide HZF
            have HZR' := hide HZR
            have hZ' := unhide hZ
            clear HZF HZR hZ
            go_wp2_with fail
            refine bodyPost_ret (v := .tuple #[.agg #[.int .i64 0, .int .u16 (IntKind.u16.wrap x1), .int .u16 0, .int .i64 0], .int .i64 1]) ?_ rfl ?_
            · rw [results_cell_tmp rfl]
              go_simp
            · show RsP q qb v B w (rdG 10 4 q4Z t) _ _
              rw [HE]
              exact ⟨unhide HZF', by decide, _, _, _, _, rfl⟩
set_option maxRecDepth 100000 in
set_option maxHeartbeats 6400000 in
theorem refSpot11 (q : Nat) {qb : Nat} (v : Value) (B : List Int) (pl : Nat) (w : World) (h : RefR w q qb v B pl 0) (hB : BOk B) (hN : B.length ≤ 140737488355328) (hqb : qb < w.heap.size) {t : List Int} (hd : B.drop pl = 11 :: t) :
    Calls Try.prog 46 #[.pointer (some ⟨q, 0, none⟩)] w (RsP q qb v B w (rdG 11 4 q4Z t)) := by
  have HS := hide (RQ.start h hqb)
  obtain ⟨w0, hw0⟩ : ∃ w0, Hid ((w.alloc (.cells #[.int .i64 0, .int .u16 0, .int .u16 0, .int .i64 0] 55)).alloc (.cells #[.int .i64 0, .int .u16 0, .int .u16 0, .int .i64 0] 55) = w0) := ⟨_, hide rfl⟩
  rw [unhide hw0] at HS
  have HBY := hide (refByte_any q v B pl 0 w0 (unhide HS).rd hN)
  rw [hd] at HBY
  simp only [gByte, rres, ↓reduceIte] at HBY
  have hw0' := unhide hw0
  clear h
  go_enter Try.func46, Try.ntmps46
  go_wp2_with fail
  refine (unhide HBY).mono ?_
  rintro e w1 ⟨rfl, p1, hr1, hp1, f1⟩
  dsimp only at hr1 hp1 ⊢
  have HR1 : Hid (RQ w q qb v B ⟨0, 0, 0, 0⟩ p1 0 w1) := hide ((unhide HS).read f1 hr1)
  clear HBY hw0' hw0 hr1 f1 HS hd
  have HO0 : rdG 11 4 q4Z t = rdG 11 4 ⟨0, 0, 0, 0⟩ t := rfl
  have a1 : bits .and .u8 11 1 = 1 := rfl
  have a2 : bits .and .u8 11 2 = 2 := rfl
  have a4 : bits .and .u8 11 4 = 0 := rfl
  have a8 : bits .and .u8 11 8 = 8 := rfl
  have HC0 := hide (refField_any (k := 0) (by omega) q v B p1 w1 (unhide HR1).rd hB hN)
  rw [show moK 0 = 9223372036854775807 from rfl, hp1] at HC0
  obtain ⟨⟨s0, s1, s2, s3⟩, sf, sl, ⟨r0, r1, r2, r3⟩, rf, rl, ec, ql⟩ := (unhide HR1).cells
  have sf0 := sf 0
  have sf1 := sf 1
  have sf2 := sf 2
  have sf3 := sf 3
  have rf0 := rf 0
  have rf1 := rf 1
  have rf2 := rf 2
  have rf3 := rf 3
  clear sf rf
  go_wp2_with fail
  refine (unhide HC0).mono ?_
  rintro e w2 ⟨hf0, hm0⟩
  clear s0 s1 s2 s3 sl r0 r1 r2 r3 rl ec ql sf0 sf1 sf2 sf3 rf0 rf1 rf2 rf3
  clear HC0
  cases hrd0 : rdF 0 t with
  | error k0 =>
    rw [hrd0] at hm0
    obtain ⟨hk0, rfl, pe, ee, hre⟩ := hm0
    have dk : (k0 != 0) = true := by simpa using hk0
    have dk2 : (k0 == 0) = false := by simpa using hk0
    have HE : rdG 11 4 q4Z t = .error k0 := HO0.trans ((rdG_set (n := 3) (k := 0) rfl rfl _ _).1 k0 hrd0)
    have HRa := hide ((unhide HR1).read hf0 hre)
    have HRb : Hid (RQ w q qb v B ⟨0, 0, 0, 0⟩ pe ee (w2.setCell ⟨w.heap.size + 1, 0, none⟩ (.int .i64 0))) := hide ((unhide HRa).put0 0)
    obtain ⟨⟨s0, s1, s2, s3⟩, sf, sl, ⟨r0, r1, r2, r3⟩, rf, rl, ec, ql⟩ := (unhide HRa).cells
    have sf0 := sf 0
    have sf1 := sf 1
    have sf2 := sf 2
    have sf3 := sf 3
    have rf0 := rf 0
    have rf1 := rf 1
    have rf2 := rf 2
    have rf3 := rf 3
    clear sf rf
    obtain ⟨Wb, hWb⟩ : ∃ Wb, Hid (w2.setCell ⟨w.heap.size + 1, 0, none⟩ (.int .i64 0) = Wb) := ⟨_, hide rfl⟩
    rw [unhide hWb] at HRb
    have hWb' := unhide hWb
    obtain ⟨⟨u0, u1, u2, u3⟩, uf, ul, ⟨m0, m1, m2, m3⟩, mf, ml, me, mq⟩ := (unhide HRb).cells
    have mf0 := mf 0
    have mf1 := mf 1
    have mf2 := mf 2
    have mf3 := mf 3
    clear mf uf
    obtain ⟨Z, hZ, HZF, HZR, ⟨z0, z1, z2, z3⟩, _, zl⟩ := (unhide HRb).fin
    have HZF' := hide HZF
    have hZ' := unhide hZ
    clear HZF HZR hZ
    go_wp2_with fail
    refine bodyPost_ret (v := .tuple #[.agg #[.int .i64 0, .int .u16 0, .int .u16 0, .int .i64 0], .int .i64 k0]) ?_ rfl ?_
    · rw [results_cell_tmp rfl]
      go_simp
    · show RsP q qb v B w (rdG 11 4 q4Z t) _ _
      rw [HE]
      exact ⟨unhide HZF', hk0, _, _, _, _, rfl⟩
  | ok p =>
    obtain ⟨x0, t2⟩ := p
    rw [hrd0] at hm0
    obtain ⟨hx00, hx10, rfl, p2, hr0, hp2⟩ := hm0
    have HO1 : rdG 11 4 q4Z t = rdG 11 3 ⟨x0, 0, 0, 0⟩ t2 := HO0.trans ((rdG_set (n := 3) (k := 0) rfl rfl _ _).2 _ _ hrd0)
    have HRa := hide ((unhide HR1).read hf0 hr0)
    have HR2 : Hid (RQ w q qb v B ⟨x0, 0, 0, 0⟩ p2 0 (w2.setCell ⟨w.heap.size + 1, 0, none⟩ (.int .i64 x0))) := hide ((unhide HRa).put0 x0)
    obtain ⟨⟨s0, s1, s2, s3⟩, sf, sl, ⟨r0, r1, r2, r3⟩, rf, rl, ec, ql⟩ := (unhide HRa).cells
    have sf0 := sf 0
    have sf1 := sf 1
    have sf2 := sf 2
    have sf3 := sf 3
    have rf0 := rf 0
    have rf1 := rf 1
    have rf2 := rf 2
    have rf3 := rf 3
    clear sf rf
    obtain ⟨W2, hW2⟩ : ∃ W, Hid (w2.setCell ⟨w.heap.size + 1, 0, none⟩ (.int .i64 x0) = W) := ⟨_, hide rfl⟩
    rw [unhide hW2] at HR2
    have hW2' := unhide hW2
    have HC1 := hide (refField_any (k := 1) (by omega) q v B p2 W2 (unhide HR2).rd hB hN)
    rw [show moK 1 = 1023 from rfl, hp2] at HC1
    obtain ⟨⟨s0, s1, s2, s3⟩, sf, sl, ⟨r0, r1, r2, r3⟩, rf, rl, ec, ql⟩ := (unhide HR2).cells
    have sf0 := sf 0
    have sf1 := sf 1
    have sf2 := sf 2
    have sf3 := sf 3
    have rf0 := rf 0
    have rf1 := rf 1
    have rf2 := rf 2
    have rf3 := rf 3
    clear sf rf
    go_wp2_with fail
    refine (unhide HC1).mono ?_
    rintro e w3 ⟨hf1, hm1⟩
    clear s0 s1 s2 s3 sl r0 r1 r2 r3 rl ec ql sf0 sf1 sf2 sf3 rf0 rf1 rf2 rf3
    clear HC1
    cases hrd1 : rdF 1 t2 with
    | error k0 =>
      rw [hrd1] at hm1
      obtain ⟨hk0, rfl, pe, ee, hre⟩ := hm1
      have dk : (k0 != 0) = true := by simpa using hk0
      have dk2 : (k0 == 0) = false := by simpa using hk0
      have HE : rdG 11 4 q4Z t = .error k0 := HO1.trans ((rdG_set (n := 2) (k := 1) rfl rfl _ _).1 k0 hrd1)
      have HRa := hide ((unhide HR2).read hf1 hre)
      have HRb : Hid (RQ w q qb v B ⟨x0, 0, 0, 0⟩ pe ee (w3.setCell ⟨w.heap.size + 1, 1, none⟩ (.int .u16 0))) := hide ((unhide HRa).put1 0)
      obtain ⟨⟨s0, s1, s2, s3⟩, sf, sl, ⟨r0, r1, r2, r3⟩, rf, rl, ec, ql⟩ := (unhide HRa).cells
      have sf0 := sf 0
      have sf1 := sf 1
      have sf2 := sf 2
      have sf3 := sf 3
      have rf0 := rf 0
      have rf1 := rf 1
      have rf2 := rf 2
      have rf3 := rf 3
      clear sf rf
      obtain ⟨Wb, hWb⟩ : ∃ Wb, Hid (w3.setCell ⟨w.heap.size + 1, 1, none⟩ (.int .u16 0) = Wb) := ⟨_, hide rfl⟩
      rw [unhide hWb] at HRb
      have hWb' := unhide hWb
      obtain ⟨⟨u0, u1, u2, u3⟩, uf, ul, ⟨m0, m1, m2, m3⟩, mf, ml, me, mq⟩ := (unhide HRb).cells
      have mf0 := mf 0
      have mf1 := mf 1
      have mf2 := mf 2
      have mf3 := mf 3
      clear mf uf
      obtain ⟨Z, hZ, HZF, HZR, ⟨z0, z1, z2, z3⟩, _, zl⟩ := (unhide HRb).fin
      have HZF' := hide HZF
      have hZ' := unhide hZ
      clear HZF HZR hZ
      go_wp2_with fail
      refine bodyPost_ret (v := .tuple #[.agg #[.int .i64 x0, .int .u16 0, .int .u16 0, .int .i64 0], .int .i64 k0]) ?_ rfl ?_
      · rw [results_cell_tmp rfl]
        go_simp
      · show RsP q qb v B w (rdG 11 4 q4Z t) _ _
        rw [HE]
        exact ⟨unhide HZF', hk0, _, _, _, _, rfl⟩
    | ok p =>
      obtain ⟨x1, t3⟩ := p
      rw [hrd1] at hm1
      obtain ⟨hx01, hx11, rfl, p3, hr1, hp3⟩ := hm1
      have HO2 : rdG 11 4 q4Z t = rdG 11 2 ⟨x0, x1, 0, 0⟩ t3 := HO1.trans ((rdG_set (n := 2) (k := 1) rfl rfl _ _).2 _ _ hrd1)
      have HRa := hide ((unhide HR2).read hf1 hr1)
      have HR3 : Hid (RQ w q qb v B ⟨x0, (IntKind.u16.wrap x1), 0, 0⟩ p3 0 (w3.setCell ⟨w.heap.size + 1, 1, none⟩ (.int .u16 (IntKind.u16.wrap x1)))) := hide ((unhide HRa).put1 (IntKind.u16.wrap x1))
      obtain ⟨⟨s0, s1, s2, s3⟩, sf, sl, ⟨r0, r1, r2, r3⟩, rf, rl, ec, ql⟩ := (unhide HRa).cells
      have sf0 := sf 0
      have sf1 := sf 1
      have sf2 := sf 2
      have sf3 := sf 3
      have rf0 := rf 0
      have rf1 := rf 1
      have rf2 := rf 2
      have rf3 := rf 3
      clear sf rf
      obtain ⟨W3, hW3⟩ : ∃ W, Hid (w3.setCell ⟨w.heap.size + 1, 1, none⟩ (.int .u16 (IntKind.u16.wrap x1)) = W) := ⟨_, hide rfl⟩
      rw [unhide hW3] at HR3
      have hW3' := unhide hW3
      have HO3 : rdG 11 4 q4Z t = rdG 11 1 ⟨x0, x1, 0, 0⟩ t3 := HO2.trans (rdG_unset (n := 1) (k := 2) rfl rfl _ _)
      have HCI := hide (refInt_any q v B p3 0 W3 (unhide HR3).rd hB hN)
      rw [hp3] at HCI
      obtain ⟨⟨s0, s1, s2, s3⟩, sf, sl, ⟨r0, r1, r2, r3⟩, rf, rl, ec, ql⟩ := (unhide HR3).cells
      have sf0 := sf 0
      have sf1 := sf 1
      have sf2 := sf 2
      have sf3 := sf 3
      have rf0 := rf 0
      have rf1 := rf 1
      have rf2 := rf 2
      have rf3 := rf 3
      clear sf rf
      cases hu : unum 0 0 t3 with
      | error k0 =>
        have hk0 := unum_err 0 0 _ k0 hu
        have HE : rdG 11 4 q4Z t = .error k0 := HO3.trans ((rdG_set (n := 0) (k := 3) rfl rfl _ _).1 k0 (by unfold rdF; rw [hu]))
        rw [hu] at HCI
        simp only [gNum, rres, ↓reduceIte] at HCI
        have dk : (k0 != 0) = true := by simpa using hk0
        go_wp2_with fail
        refine (unhide HCI).mono ?_
        rintro e w9 ⟨rfl, p9, hr9, hp9, f9⟩
        dsimp only at hr9 hp9 ⊢
        have HR9 := hide ((unhide HR3).read f9 hr9)
        clear s0 s1 s2 s3 sl r0 r1 r2 r3 rl ec ql sf0 sf1 sf2 sf3 rf0 rf1 rf2 rf3
        clear HCI
        obtain ⟨⟨s0, s1, s2, s3⟩, sf, sl, ⟨r0, r1, r2, r3⟩, rf, rl, ec, ql⟩ := (unhide HR9).cells
        have sf0 := sf 0
        have sf1 := sf 1
        have sf2 := sf 2
        have sf3 := sf 3
        have rf0 := rf 0
        have rf1 := rf 1
        have rf2 := rf 2
        have rf3 := rf 3
        clear sf rf
        have HRd := hide (unhide HR9).drew
        have HSD : Hid ((((w9.drew).cell? ⟨w.heap.size + 1, 0, none⟩ = some (.int .i64 x0) ∧ w9.drew.cell? ⟨w.heap.size + 1, 1, none⟩ = some (.int .u16 (IntKind.u16.wrap x1)) ∧ w9.drew.cell? ⟨w.heap.size + 1, 2, none⟩ = some (.int .u16 0) ∧ w9.drew.cell? ⟨w.heap.size + 1, 3, none⟩ = some (.int .i64 0)) ∧ w9.drew.cell? ⟨q, 2, none⟩ = some (.int .i64 k0))) := ⟨⟨s0, s1, s2, s3⟩, ec⟩
        obtain ⟨V, hV⟩ : ∃ V, Hid (w9.drew = V) := ⟨_, hide rfl⟩
        have HSV := HSD
        rw [unhide hV] at HSV HRd
        obtain ⟨_, _, _, ⟨m0, m1, m2, m3⟩, mf, ml, _, _⟩ := (unhide HRd).cells
        have mf0 := mf 0
        have mf1 := mf 1
        have mf2 := mf 2
        have mf3 := mf 3
        clear mf
        obtain ⟨Z, hZ, HZF, HZR, ⟨z0, z1, z2, z3⟩, zz, zl⟩ := (unhide HRd).fin
        have HSz : Hid ((Z.cell? ⟨w.heap.size + 1, 0, none⟩ = some (.int .i64 x0) ∧ Z.cell? ⟨w.heap.size + 1, 1, none⟩ = some (.int .u16 (IntKind.u16.wrap x1)) ∧ Z.cell? ⟨w.heap.size + 1, 2, none⟩ = some (.int .u16 0) ∧ Z.cell? ⟨w.heap.size + 1, 3, none⟩ = some (.int .i64 0)) ∧ Z.cell? ⟨q, 2, none⟩ = some (.int .i64 k0)) := ⟨zz, HZR.c2⟩
        have HZF' := hide HZF
        clear HZF HZR zz
        go_wp2_with fail
        refine wp_region_held_drew (S := (fun W => (W.cell? ⟨w.heap.size + 1, 0, none⟩ = some (.int .i64 x0) ∧ W.cell? ⟨w.heap.size + 1, 1, none⟩ = some (.int .u16 (IntKind.u16.wrap x1)) ∧ W.cell? ⟨w.heap.size + 1, 2, none⟩ = some (.int .u16 0) ∧ W.cell? ⟨w.heap.size + 1, 3, none⟩ = some (.int .i64 0)) ∧ W.cell? ⟨q, 2, none⟩ = some (.int .i64 k0))) (by kernel_rfl) (unhide HSD) (fun hHeld => ?_)
        clear hHeld
        rw [unhide hV]
        refine wpAnyH_take (i := 0) (oi := _) (v := .agg #[.int .i64 x0, .int .u16 (IntKind.u16.wrap x1), .int .u16 0, .int .i64 0]) rfl (by kernel_rfl) (by kernel_rfl) (by kernel_rfl) (fun _ _ _ h => h) (Or.inl ⟨by rfl, (by intro w' hSw; obtain ⟨⟨y0, y1, y2, y3⟩, y4⟩ := hSw; go_simp)⟩) (unhide HSV) ?_
        go_simp
        refine wpAnyH_take (i := 1) (oi := _) (v := .pointer (some ⟨q, 0, none⟩)) rfl (by kernel_rfl) (by kernel_rfl) (by kernel_rfl) (fun _ _ _ h => h) (Or.inl ⟨by rfl, (by intro w' hSw; obtain ⟨⟨y0, y1, y2, y3⟩, y4⟩ := hSw; go_simp)⟩) (unhide HSV) ?_
        go_simp
        refine wpAnyH_take (i := 2) (oi := _) (v := .pointer (some ⟨q, 0, none⟩)) rfl (by kernel_rfl) (by kernel_rfl) (by kernel_rfl) (fun _ _ _ h => h) (Or.inl ⟨by rfl, (by intro w' hSw; obtain ⟨⟨y0, y1, y2, y3⟩, y4⟩ := hSw; go_simp)⟩) (unhide HSV) ?_
        go_simp
        refine wpAnyH_take (i := 3) (oi := _) (v := .pointer (some ⟨q, 2, none⟩)) rfl (by kernel_rfl) (by kernel_rfl) (by kernel_rfl) (fun _ _ _ h => h) (Or.inl ⟨by rfl, (by intro w' hSw; obtain ⟨⟨y0, y1, y2, y3⟩, y4⟩ := hSw; go_simp)⟩) (unhide HSV) ?_
        go_simp
        refine wpAnyH_take (i := 4) (oi := _) (v := .int .i64 k0) rfl (by kernel_rfl) (by kernel_rfl) (by kernel_rfl) (fun _ _ _ h => h) (Or.inl ⟨by rfl, (by intro w' hSw; obtain ⟨⟨y0, y1, y2, y3⟩, y4⟩ := hSw; go_simp)⟩) (unhide HSV) ?_
        go_simp
        refine wpAnyH_ready (rs := [5]) (by kernel_rfl) (by simp) ?_
        refine AllReadyH.cons (o := _) rfl (fun K hK => ?_) AllReadyH.nil
        go_simp
        rw [unhide hZ]
        refine hK.out _ _ (unhide HSz) (fun _ => ?_)
        clear hK K
        go_simp
        refine wpAnyH_take (i := 6) (oi := _) (v := .int .i64 k0) rfl (by kernel_rfl) (by kernel_rfl) (by kernel_rfl) (fun _ _ _ h => h) (Or.inl ⟨by rfl, (by intro w' hSw; obtain ⟨⟨y0, y1, y2, y3⟩, y4⟩ := hSw; go_simp)⟩) (unhide HSz) ?_
        go_simp
        refine wpAnyH_done (by kernel_rfl) ?_ _
        go_wp2_with fail
        refine bodyPost_ret (v := .tuple #[.agg #[.int .i64 x0, .int .u16 (IntKind.u16.wrap x1), .int .u16 0, .int .i64 0], .int .i64 k0]) ?_ rfl ?_
        · rw [results_cell_tmp rfl]
          go_simp
        · show RsP q qb v B w (rdG 11 4 q4Z t) _ _
          rw [HE]
          exact ⟨unhide HZF', hk0, _, _, _, _, rfl⟩
      | ok p =>
        obtain ⟨nn, t9⟩ := p
        have HE0 := rdF3_num hu
        rw [hu] at HCI
        simp only [gNum, rres, ↓reduceIte] at HCI
        obtain ⟨X, hX⟩ : ∃ X, Hid (unfoldI nn = X) := ⟨_, hide rfl⟩
        rw [unhide hX] at HE0 HCI
        go_wp2_with fail
        refine (unhide HCI).mono ?_
        rintro e w9 ⟨rfl, p9, hr9, hp9, f9⟩
        dsimp only at hr9 hp9 ⊢
        have HR9 := hide ((unhide HR3).read f9 hr9)
        clear s0 s1 s2 s3 sl r0 r1 r2 r3 rl ec ql sf0 sf1 sf2 sf3 rf0 rf1 rf2 rf3
        clear HCI
        by_cases hz : X = 0
        · rw [if_pos hz] at HE0
          have HE : rdG 11 4 q4Z t = .error 4 := HO3.trans ((rdG_set (n := 0) (k := 3) rfl rfl _ _).1 4 HE0)
          have dz : (X == 0) = true := by simpa using hz
          subst hz
          obtain ⟨⟨s0, s1, s2, s3⟩, sf, sl, ⟨r0, r1, r2, r3⟩, rf, rl, ec, ql⟩ := (unhide HR9).cells
          have sf0 := sf 0
          have sf1 := sf 1
          have sf2 := sf 2
          have sf3 := sf 3
          have rf0 := rf 0
          have rf1 := rf 1
          have rf2 := rf 2
          have rf3 := rf 3
          clear sf rf
          obtain ⟨Z, hZ, HZF, HZR, ⟨z0, z1, z2, z3⟩, _, zl⟩ := (unhide HR9).fin
          have HZF' := hide HZF
          have HZR' := hide HZR
          have hZ' := unhide hZ
          clear HZF HZR hZ
          go_wp2_with fail
          refine bodyPost_ret (v := .tuple #[.agg #[.int .i64 x0, .int .u16 (IntKind.u16.wrap x1), .int .u16 0, .int .i64 0], .int .i64 4]) ?_ rfl ?_
          · rw [results_cell_tmp rfl]
            go_simp
          · show RsP q qb v B w (rdG 11 4 q4Z t) _ _
            rw [HE]
            exact ⟨unhide HZF', by decide, _, _, _, _, rfl⟩
        · rw [if_neg hz] at HE0
          have dz : (X == 0) = false := by simpa using hz
          by_cases hf : -1 ≤ X ∧ X ≤ 128
          · rw [if_pos hf] at HE0
            have HE : rdG 11 4 q4Z t = .ok (⟨x0, x1, 0, X⟩, t9) := HO3.trans ((rdG_set (n := 0) (k := 3) rfl rfl _ _).2 _ _ HE0)
            have d1 : decide (X < -1) = false := decide_eq_false (by omega)
            have d2 : decide (X > 128) = false := decide_eq_false (by omega)
            have d3 : ¬ X < -1 := by omega
            have d4 : ¬ 128 < X := by omega
            have HRf : Hid (RQ w q qb v B ⟨x0, (IntKind.u16.wrap x1), 0, X⟩ p9 0 (w9.setCell ⟨w.heap.size + 1, 3, none⟩ (.int .i64 X))) := hide ((unhide HR9).put3 X)
            obtain ⟨⟨s0, s1, s2, s3⟩, sf, sl, ⟨r0, r1, r2, r3⟩, rf, rl, ec, ql⟩ := (unhide HR9).cells
            have sf0 := sf 0
            have sf1 := sf 1
            have sf2 := sf 2
            have sf3 := sf 3
            have rf0 := rf 0
            have rf1 := rf 1
            have rf2 := rf 2
            have rf3 := rf 3
            clear sf rf
            obtain ⟨Wf, hWf⟩ : ∃ W, Hid (w9.setCell ⟨w.heap.size + 1, 3, none⟩ (.int .i64 X) = W) := ⟨_, hide rfl⟩
            rw [unhide hWf] at HRf
            have hWf' := unhide hWf
            obtain ⟨⟨u0, u1, u2, u3⟩, uf, ul, ⟨m0, m1, m2, m3⟩, mf, ml, me, mq⟩ := (unhide HRf).cells
            have mf0 := mf 0
            have mf1 := mf 1
            have mf2 := mf 2
            have mf3 := mf 3
            clear mf uf
            obtain ⟨Z, hZ, HZF, HZR, ⟨z0, z1, z2, z3⟩, _, zl⟩ := (unhide HRf).fin
            have HZF' := hide HZF
            have HZR' := hide HZR
            have hZ' := unhide hZ
            clear HZF HZR hZ
            go_wp2_with fail
            refine bodyPost_ret (v := .tuple #[.agg #[.int .i64 x0, .int .u16 (IntKind.u16.wrap x1), .int .u16 0, .int .i64 X], .int .i64 0]) ?_ rfl ?_
            · rw [results_cell_tmp rfl]
              go_simp
            · show RsP q qb v B w (rdG 11 4 q4Z t) _ _
              rw [HE]
              exact ⟨unhide HZF', rfl, p9, unhide HZR', hp9⟩
          · rw [if_neg hf] at HE0
            have HE : rdG 11 4 q4Z t = .error 1 := HO3.trans ((rdG_set (n := 0) (k := 3) rfl rfl _ _).1 1 HE0)
            by_cases hl : X < -1
            · have d1 : decide (X < -1) = true := decide_eq_true hl
              obtain ⟨⟨s0, s1, s2, s3⟩, sf, sl, ⟨r0, r1, r2, r3⟩, rf, rl, ec, ql⟩ := (unhide HR9).cells
              have sf0 := sf 0
              have sf1 := sf 1
              have sf2 := sf 2
              have sf3 := sf 3
              have rf0 := rf 0
              have rf1 := rf 1
              have rf2 := rf 2
              have rf3 := rf 3
              clear sf rf
              obtain ⟨Z, hZ, HZF, HZR, ⟨z0, z1, z2, z3⟩, _, zl⟩ := (unhide HR9).fin
              have HZF' := hide HZF
              have HZR' := hide HZR
              have hZ' := unhide hZ
              clear HZF HZR hZ
              go_wp2_with fail
              refine bodyPost_ret (v := .tuple #[.agg #[.int .i64 x0, .int .u16 (IntKind.u16.wrap x1), .int .u16 0, .int .i64 0], .int .i64 1]) ?_ rfl ?_
              · rw [results_cell_tmp rfl]
                go_simp
              · show RsP q qb v B w (rdG 11 4 q4Z t) _ _
                rw [HE]
                exact ⟨unhide HZF', by decide, _, _, _, _, rfl⟩
            · have d1 : decide (X < -1) = false := decide_eq_false hl
              have d2 : decide (X > 128) = true := decide_eq_true (by omega)
              have d4 : 128 < X := by omega
              obtain ⟨⟨s0, s1, s2, s3⟩, sf, sl, ⟨r0, r1, r2, r3⟩, rf, rl, ec, ql⟩ := (unhide HR9).cells
              have sf0 := sf 0
              have sf1 := sf 1
              have sf2 := sf 2
              have sf3 := sf 3
              have rf0 := rf 0
              have rf1 := rf 1
              have rf2 := rf 2
              have rf3 := rf 3
              clear sf rf
              obtain ⟨Z, hZ, HZF, HZR, ⟨z0, z1, z2, z3⟩, _, zl⟩ := (unhide HR9).fin
              have HZF' := hide HZF
              have HZR' := hide HZR
              have hZ' := unhide hZ
              clear HZF HZR hZ
              go_wp2_with fail
              refine bodyPost_ret (v := .tuple #[.agg #[.int .i64 x0, .int .u16 (IntKind.u16.wrap x1), .int .u16 0, .int .i64 0], .int .i64 1]) ?_ rfl ?_
              · rw [results_cell_tmp rfl]
                go_simp
              · show RsP q qb v B w (rdG 11 4 q4Z t) _ _
                rw [HE]
                exact ⟨unhide HZF', by decide, _, _, _, _, rfl⟩
end Go.Proofs.Ytaldacjeeccbhaa
