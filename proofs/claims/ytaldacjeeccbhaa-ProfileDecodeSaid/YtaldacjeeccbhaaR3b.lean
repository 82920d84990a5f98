/-
  The document reads a spot.
-/
import Derived.Test.YtaldacjeeccbhaaR2
namespace Go.Proofs.Ytaldacjeeccbhaa
open Go.RowKit
set_option linter.unusedVariables false
set_option linter.unusedSimpArgs false
set_option maxRecDepth 100000 in
set_option maxHeartbeats 6400000 in
theorem refSpot4 (q : Nat) {qb : Nat} (v : Value) (B : List Int) (pl : Nat) (w : World) (h : RefR w q qb v B pl 0) (hB : BOk B) (hN : B.length ≤ 140737488355328) (hqb : qb < w.heap.size) {t : List Int} (hd : B.drop pl = 4 :: t) :
    Calls Try.prog 46 #[.pointer (some ⟨q, 0, none⟩)] w (RsP q qb v B w (rdG 4 4 q4Z t)) := by
  have HS := hide (RQ.start h hqb)
  obtain ⟨w0, hw0⟩ : ∃ w0, Hid ((w.alloc (.cells #[.int .i64 0, .int .u16 0, .int .u16 0, .int .i64 0] 55)).alloc (.cells #[.int .i64 0, .int .u16 0, .int .u16 0, .int .i64 0] 55) = w0) := ⟨_, hide rfl⟩
  rw [unhide hw0] at HS
  have HBY := hide (refByte_any q v B pl 0 w0 (unhide HS).rd hN)
  rw [hd] at HBY
  simp only [gByte, rres, ↓reduceIte] at HBY
  have hw0' := unhide hw0
  clear h
  go_enter Try.func46, Try.ntmps46
  go_wp2_with fail
  refine (unhide HBY).mono ?_
  rintro e w1 ⟨rfl, p1, hr1, hp1, f1⟩
  dsimp only at hr1 hp1 ⊢
  have HR1 : Hid (RQ w q qb v B ⟨0, 0, 0, 0⟩ p1 0 w1) := hide ((unhide HS).read f1 hr1)
  clear HBY hw0' hw0 hr1 f1 HS hd
  have HO0 : rdG 4 4 q4Z t = rdG 4 4 ⟨0, 0, 0, 0⟩ t := rfl
  have a1 : bits .and .u8 4 1 = 0 := rfl
  have a2 : bits .and .u8 4 2 = 0 := rfl
  have a4 : bits .and .u8 4 4 = 4 := rfl
  have a8 : bits .and .u8 4 8 = 0 := rfl
  have HO1 : rdG 4 4 q4Z t = rdG 4 3 ⟨0, 0, 0, 0⟩ t := HO0.trans (rdG_unset (n := 3) (k := 0) rfl rfl _ _)
  have HO2 : rdG 4 4 q4Z t = rdG 4 2 ⟨0, 0, 0, 0⟩ t := HO1.trans (rdG_unset (n := 2) (k := 1) rfl rfl _ _)
  have HC2 := hide (refField_any (k := 2) (by omega) q v B p1 w1 (unhide HR1).rd hB hN)
  rw [show moK 2 = 1023 from rfl, hp1] at HC2
  obtain ⟨⟨s0, s1, s2, s3⟩, sf, sl, ⟨r0, r1, r2, r3⟩, rf, rl, ec, ql⟩ := (unhide HR1).cells
  have sf0 := sf 0
  have sf1 := sf 1
  have sf2 := sf 2
  have sf3 := sf 3
  have rf0 := rf 0
  have rf1 := rf 1
  have rf2 := rf 2
  have rf3 := rf 3
  clear sf rf
  go_wp2_with fail
  refine (unhide HC2).mono ?_
  rintro e w4 ⟨hf2, hm2⟩
  clear s0 s1 s2 s3 sl r0 r1 r2 r3 rl ec ql sf0 sf1 sf2 sf3 rf0 rf1 rf2 rf3
  clear HC2
  cases hrd2 : rdF 2 t with
  | error k0 =>
    rw [hrd2] at hm2
    obtain ⟨hk0, rfl, pe, ee, hre⟩ := hm2
    have dk : (k0 != 0) = true := by simpa using hk0
    have dk2 : (k0 == 0) = false := by simpa using hk0
    have HE : rdG 4 4 q4Z t = .error k0 := HO2.trans ((rdG_set (n := 1) (k := 2) rfl rfl _ _).1 k0 hrd2)
    have HRa := hide ((unhide HR1).read hf2 hre)
    have HRb : Hid (RQ w q qb v B ⟨0, 0, 0, 0⟩ pe ee (w4.setCell ⟨w.heap.size + 1, 2, none⟩ (.int .u16 0))) := hide ((unhide HRa).put2 0)
    obtain ⟨⟨s0, s1, s2, s3⟩, sf, sl, ⟨r0, r1, r2, r3⟩, rf, rl, ec, ql⟩ := (unhide HRa).cells
    have sf0 := sf 0
    have sf1 := sf 1
    have sf2 := sf 2
    have sf3 := sf 3
    have rf0 := rf 0
    have rf1 := rf 1
    have rf2 := rf 2
    have rf3 := rf 3
    clear sf rf
    obtain ⟨Wb, hWb⟩ : ∃ Wb, Hid (w4.setCell ⟨w.heap.size + 1, 2, none⟩ (.int .u16 0) = Wb) := ⟨_, hide rfl⟩
    rw [unhide hWb] at HRb
    have hWb' := unhide hWb
    obtain ⟨⟨u0, u1, u2, u3⟩, uf, ul, ⟨m0, m1, m2, m3⟩, mf, ml, me, mq⟩ := (unhide HRb).cells
    have mf0 := mf 0
    have mf1 := mf 1
    have mf2 := mf 2
    have mf3 := mf 3
    clear mf uf
    obtain ⟨Z, hZ, HZF, HZR, ⟨z0, z1, z2, z3⟩, _, zl⟩ := (unhide HRb).fin
    have HZF' := hide HZF
    have hZ' := unhide hZ
    clear HZF HZR hZ
    go_wp2_with fail
    refine bodyPost_ret (v := .tuple #[.agg #[.int .i64 0, .int .u16 0, .int .u16 0, .int .i64 0], .int .i64 k0]) ?_ rfl ?_
    · rw [results_cell_tmp rfl]
      go_simp
    · show RsP q qb v B w (rdG 4 4 q4Z t) _ _
      rw [HE]
      exact ⟨unhide HZF', hk0, _, _, _, _, rfl⟩
  | ok p =>
    obtain ⟨x2, t4⟩ := p
    rw [hrd2] at hm2
    obtain ⟨hx02, hx12, rfl, p4, hr2, hp4⟩ := hm2
    have HO3 : rdG 4 4 q4Z t = rdG 4 1 ⟨0, 0, x2, 0⟩ t4 := HO2.trans ((rdG_set (n := 1) (k := 2) rfl rfl _ _).2 _ _ hrd2)
    have HRa := hide ((unhide HR1).read hf2 hr2)
    have HR4 : Hid (RQ w q qb v B ⟨0, 0, (IntKind.u16.wrap x2), 0⟩ p4 0 (w4.setCell ⟨w.heap.size + 1, 2, none⟩ (.int .u16 (IntKind.u16.wrap x2)))) := hide ((unhide HRa).put2 (IntKind.u16.wrap x2))
    obtain ⟨⟨s0, s1, s2, s3⟩, sf, sl, ⟨r0, r1, r2, r3⟩, rf, rl, ec, ql⟩ := (unhide HRa).cells
    have sf0 := sf 0
    have sf1 := sf 1
    have sf2 := sf 2
    have sf3 := sf 3
    have rf0 := rf 0
    have rf1 := rf 1
    have rf2 := rf 2
    have rf3 := rf 3
    clear sf rf
    obtain ⟨W4, hW4⟩ : ∃ W, Hid (w4.setCell ⟨w.heap.size + 1, 2, none⟩ (.int .u16 (IntKind.u16.wrap x2)) = W) := ⟨_, hide rfl⟩
    rw [unhide hW4] at HR4
    have hW4' := unhide hW4
    have HO4 : rdG 4 4 q4Z t = rdG 4 0 ⟨0, 0, x2, 0⟩ t4 := HO3.trans (rdG_unset (n := 0) (k := 3) rfl rfl _ _)
    obtain ⟨⟨s0, s1, s2, s3⟩, sf, sl, ⟨r0, r1, r2, r3⟩, rf, rl, ec, ql⟩ := (unhide HR4).cells
    have sf0 := sf 0
    have sf1 := sf 1
    have sf2 := sf 2
    have sf3 := sf 3
    have rf0 := rf 0
    have rf1 := rf 1
    have rf2 := rf 2
    have rf3 := rf 3
    clear sf rf
    obtain ⟨Z, hZ, HZF, HZR, ⟨z0, z1, z2, z3⟩, _, zl⟩ := (unhide HR4).fin
    have HZF' := hide HZF
    have HZR' := hide HZR
    have hZ' := unhide hZ
    clear HZF HZR hZ
    go_wp2_with fail
    refine bodyPost_ret (v := .tuple #[.agg #[.int .i64 0, .int .u16 0, .int .u16 (IntKind.u16.wrap x2), .int .i64 0], .int .i64 0]) ?_ rfl ?_
    · rw [results_cell_tmp rfl]
      go_simp
    · show RsP q qb v B w (rdG 4 4 q4Z t) _ _
      rw [HO4]
      exact ⟨unhide HZF', rfl, p4, unhide HZR', hp4⟩
set_option maxRecDepth 100000 in
set_option maxHeartbeats 6400000 in
theorem refSpot5 (q : Nat) {qb : Nat} (v : Value) (B : List Int) (pl : Nat) (w : World) (h : RefR w q qb v B pl 0) (hB : BOk B) (hN : B.length ≤ 140737488355328) (hqb : qb < w.heap.size) {t : List Int} (hd : B.drop pl = 5 :: t) :
    Calls Try.prog 46 #[.pointer (some ⟨q, 0, none⟩)] w (RsP q qb v B w (rdG 5 4 q4Z t)) := by
  have HS := hide (RQ.start h hqb)
  obtain ⟨w0, hw0⟩ : ∃ w0, Hid ((w.alloc (.cells #[.int .i64 0, .int .u16 0, .int .u16 0, .int .i64 0] 55)).alloc (.cells #[.int .i64 0, .int .u16 0, .int .u16 0, .int .i64 0] 55) = w0) := ⟨_, hide rfl⟩
  rw [unhide hw0] at HS
  have HBY := hide (refByte_any q v B pl 0 w0 (unhide HS).rd hN)
  rw [hd] at HBY
  simp only [gByte, rres, ↓reduceIte] at HBY
  have hw0' := unhide hw0
  clear h
  go_enter Try.func46, Try.ntmps46
  go_wp2_with fail
  refine (unhide HBY).mono ?_
  rintro e w1 ⟨rfl, p1, hr1, hp1, f1⟩
  dsimp only at hr1 hp1 ⊢
  have HR1 : Hid (RQ w q qb v B ⟨0, 0, 0, 0⟩ p1 0 w1) := hide ((unhide HS).read f1 hr1)
  clear HBY hw0' hw0 hr1 f1 HS hd
  have HO0 : rdG 5 4 q4Z t = rdG 5 4 ⟨0, 0, 0, 0⟩ t := rfl
  have a1 : bits .and .u8 5 1 = 1 := rfl
  have a2 : bits .and .u8 5 2 = 0 := rfl
  have a4 : bits .and .u8 5 4 = 4 := rfl
  have a8 : bits .and .u8 5 8 = 0 := rfl
  have HC0 := hide (refField_any (k := 0) (by omega) q v B p1 w1 (unhide HR1).rd hB hN)
  rw [show moK 0 = 9223372036854775807 from rfl, hp1] at HC0
  obtain ⟨⟨s0, s1, s2, s3⟩, sf, sl, ⟨r0, r1, r2, r3⟩, rf, rl, ec, ql⟩ := (unhide HR1).cells
  have sf0 := sf 0
  have sf1 := sf 1
  have sf2 := sf 2
  have sf3 := sf 3
  have rf0 := rf 0
  have rf1 := rf 1
  have rf2 := rf 2
  have rf3 := rf 3
  clear sf rf
  go_wp2_with fail
  refine (unhide HC0).mono ?_
  rintro e w2 ⟨hf0, hm0⟩
  clear s0 s1 s2 s3 sl r0 r1 r2 r3 rl ec ql sf0 sf1 sf2 sf3 rf0 rf1 rf2 rf3
  clear HC0
  cases hrd0 : rdF 0 t with
  | error k0 =>
    rw [hrd0] at hm0
    obtain ⟨hk0, rfl, pe, ee, hre⟩ := hm0
    have dk : (k0 != 0) = true := by simpa using hk0
    have dk2 : (k0 == 0) = false := by simpa using hk0
    have HE : rdG 5 4 q4Z t = .error k0 := HO0.trans ((rdG_set (n := 3) (k := 0) rfl rfl _ _).1 k0 hrd0)
    have HRa := hide ((unhide HR1).read hf0 hre)
    have HRb : Hid (RQ w q qb v B ⟨0, 0, 0, 0⟩ pe ee (w2.setCell ⟨w.heap.size + 1, 0, none⟩ (.int .i64 0))) := hide ((unhide HRa).put0 0)
    obtain ⟨⟨s0, s1, s2, s3⟩, sf, sl, ⟨r0, r1, r2, r3⟩, rf, rl, ec, ql⟩ := (unhide HRa).cells
    have sf0 := sf 0
    have sf1 := sf 1
    have sf2 := sf 2
    have sf3 := sf 3
    have rf0 := rf 0
    have rf1 := rf 1
    have rf2 := rf 2
    have rf3 := rf 3
    clear sf rf
    obtain ⟨Wb, hWb⟩ : ∃ Wb, Hid (w2.setCell ⟨w.heap.size + 1, 0, none⟩ (.int .i64 0) = Wb) := ⟨_, hide rfl⟩
    rw [unhide hWb] at HRb
    have hWb' := unhide hWb
    obtain ⟨⟨u0, u1, u2, u3⟩, uf, ul, ⟨m0, m1, m2, m3⟩, mf, ml, me, mq⟩ := (unhide HRb).cells
    have mf0 := mf 0
    have mf1 := mf 1
    have mf2 := mf 2
    have mf3 := mf 3
    clear mf uf
    obtain ⟨Z, hZ, HZF, HZR, ⟨z0, z1, z2, z3⟩, _, zl⟩ := (unhide HRb).fin
    have HZF' := hide HZF
    have hZ' := unhide hZ
    clear HZF HZR hZ
    go_wp2_with fail
    refine bodyPost_ret (v := .tuple #[.agg #[.int .i64 0, .int .u16 0, .int .u16 0, .int .i64 0], .int .i64 k0]) ?_ rfl ?_
    · rw [results_cell_tmp rfl]
      go_simp
    · show RsP q qb v B w (rdG 5 4 q4Z t) _ _
      rw [HE]
      exact ⟨unhide HZF', hk0, _, _, _, _, rfl⟩
  | ok p =>
    obtain ⟨x0, t2⟩ := p
    rw [hrd0] at hm0
    obtain ⟨hx00, hx10, rfl, p2, hr0, hp2⟩ := hm0
    have HO1 : rdG 5 4 q4Z t = rdG 5 3 ⟨x0, 0, 0, 0⟩ t2 := HO0.trans ((rdG_set (n := 3) (k := 0) rfl rfl _ _).2 _ _ hrd0)
    have HRa := hide ((unhide HR1).read hf0 hr0)
    have HR2 : Hid (RQ w q qb v B ⟨x0, 0, 0, 0⟩ p2 0 (w2.setCell ⟨w.heap.size + 1, 0, none⟩ (.int .i64 x0))) := hide ((unhide HRa).put0 x0)
    obtain ⟨⟨s0, s1, s2, s3⟩, sf, sl, ⟨r0, r1, r2, r3⟩, rf, rl, ec, ql⟩ := (unhide HRa).cells
    have sf0 := sf 0
    have sf1 := sf 1
    have sf2 := sf 2
    have sf3 := sf 3
    have rf0 := rf 0
    have rf1 := rf 1
    have rf2 := rf 2
    have rf3 := rf 3
    clear sf rf
    obtain ⟨W2, hW2⟩ : ∃ W, Hid (w2.setCell ⟨w.heap.size + 1, 0, none⟩ (.int .i64 x0) = W) := ⟨_, hide rfl⟩
    rw [unhide hW2] at HR2
    have hW2' := unhide hW2
    have HO2 : rdG 5 4 q4Z t = rdG 5 2 ⟨x0, 0, 0, 0⟩ t2 := HO1.trans (rdG_unset (n := 2) (k := 1) rfl rfl _ _)
    have HC2 := hide (refField_any (k := 2) (by omega) q v B p2 W2 (unhide HR2).rd hB hN)
    rw [show moK 2 = 1023 from rfl, hp2] at HC2
    obtain ⟨⟨s0, s1, s2, s3⟩, sf, sl, ⟨r0, r1, r2, r3⟩, rf, rl, ec, ql⟩ := (unhide HR2).cells
    have sf0 := sf 0
    have sf1 := sf 1
    have sf2 := sf 2
    have sf3 := sf 3
    have rf0 := rf 0
    have rf1 := rf 1
    have rf2 := rf 2
    have rf3 := rf 3
    clear sf rf
    go_wp2_with fail
    refine (unhide HC2).mono ?_
    rintro e w4 ⟨hf2, hm2⟩
    clear s0 s1 s2 s3 sl r0 r1 r2 r3 rl ec ql sf0 sf1 sf2 sf3 rf0 rf1 rf2 rf3
    clear HC2
    cases hrd2 : rdF 2 t2 with
    | error k0 =>
      rw [hrd2] at hm2
      obtain ⟨hk0, rfl, pe, ee, hre⟩ := hm2
      have dk : (k0 != 0) = true := by simpa using hk0
      have dk2 : (k0 == 0) = false := by simpa using hk0
      have HE : rdG 5 4 q4Z t = .error k0 := HO2.trans ((rdG_set (n := 1) (k := 2) rfl rfl _ _).1 k0 hrd2)
      have HRa := hide ((unhide HR2).read hf2 hre)
      have HRb : Hid (RQ w q qb v B ⟨x0, 0, 0, 0⟩ pe ee (w4.setCell ⟨w.heap.size + 1, 2, none⟩ (.int .u16 0))) := hide ((unhide HRa).put2 0)
      obtain ⟨⟨s0, s1, s2, s3⟩, sf, sl, ⟨r0, r1, r2, r3⟩, rf, rl, ec, ql⟩ := (unhide HRa).cells
      have sf0 := sf 0
      have sf1 := sf 1
      have sf2 := sf 2
      have sf3 := sf 3
      have rf0 := rf 0
      have rf1 := rf 1
      have rf2 := rf 2
      have rf3 := rf 3
      clear sf rf
      obtain ⟨Wb, hWb⟩ : ∃ Wb, Hid (w4.setCell ⟨w.heap.size + 1, 2, none⟩ (.int .u16 0) = Wb) := ⟨_, hide rfl⟩
      rw [unhide hWb] at HRb
      have hWb' := unhide hWb
      obtain ⟨⟨u0, u1, u2, u3⟩, uf, ul, ⟨m0, m1, m2, m3⟩, mf, ml, me, mq⟩ := (unhide HRb).cells
      have mf0 := mf 0
      have mf1 := mf 1
      have mf2 := mf 2
      have mf3 := mf 3
      clear mf uf
      obtain ⟨Z, hZ, HZF, HZR, ⟨z0, z1, z2, z3⟩, _, zl⟩ := (unhide HRb).fin
      have HZF' := hide HZF
      have hZ' := unhide hZ
      clear HZF HZR hZ
      go_wp2_with fail
      refine bodyPost_ret (v := .tuple #[.agg #[.int .i64 x0, .int .u16 0, .int .u16 0, .int .i64 0], .int .i64 k0]) ?_ rfl ?_
      · rw [results_cell_tmp rfl]
        go_simp
      · show RsP q qb v B w (rdG 5 4 q4Z t) _ _
        rw [HE]
        exact ⟨unhide HZF', hk0, _, _, _, _, rfl⟩
    | ok p =>
      obtain ⟨x2, t4⟩ := p
      rw [hrd2] at hm2
      obtain ⟨hx02, hx12, rfl, p4, hr2, hp4⟩ := hm2
      have HO3 : rdG 5 4 q4Z t = rdG 5 1 ⟨x0, 0, x2, 0⟩ t4 := HO2.trans ((rdG_set (n := 1) (k := 2) rfl rfl _ _).2 _ _ hrd2)
      have HRa := hide ((unhide HR2).read hf2 hr2)
      have HR4 : Hid (RQ w q qb v B ⟨x0, 0, (IntKind.u16.wrap x2), 0⟩ p4 0 (w4.setCell ⟨w.heap.size + 1, 2, none⟩ (.int .u16 (IntKind.u16.wrap x2)))) := hide ((unhide HRa).put2 (IntKind.u16.wrap x2))
      obtain ⟨⟨s0, s1, s2, s3⟩, sf, sl, ⟨r0, r1, r2, r3⟩, rf, rl, ec, ql⟩ := (unhide HRa).cells
      have sf0 := sf 0
      have sf1 := sf 1
      have sf2 := sf 2
      have sf3 := sf 3
      have rf0 := rf 0
      have rf1 := rf 1
      have rf2 := rf 2
      have rf3 := rf 3
      clear sf rf
      obtain ⟨W4, hW4⟩ : ∃ W, Hid (w4.setCell ⟨w.heap.size + 1, 2, none⟩ (.int .u16 (IntKind.u16.wrap x2)) = W) := ⟨_, hide rfl⟩
      rw [unhide hW4] at HR4
      have hW4' := unhide hW4
      have HO4 : rdG 5 4 q4Z t = rdG 5 0 ⟨x0, 0, x2, 0⟩ t4 := HO3.trans (rdG_unset (n := 0) (k := 3) rfl rfl _ _)
      obtain ⟨⟨s0, s1, s2, s3⟩, sf, sl, ⟨r0, r1, r2, r3⟩, rf, rl, ec, ql⟩ := (unhide HR4).cells
      have sf0 := sf 0
      have sf1 := sf 1
      have sf2 := sf 2
      have sf3 := sf 3
      have rf0 := rf 0
      have rf1 := rf 1
      have rf2 := rf 2
      have rf3 := rf 3
      clear sf rf
      obtain ⟨Z, hZ, HZF, HZR, ⟨z0, z1, z2, z3⟩, _, zl⟩ := (unhide HR4).fin
      have HZF' := hide HZF
      have HZR' := hide HZR
      have hZ' := unhide hZ
      clear HZF HZR hZ
      go_wp2_with fail
      refine bodyPost_ret (v := .tuple #[.agg #[.int .i64 x0, .int .u16 0, .int .u16 (IntKind.u16.wrap x2), .int .i64 0], .int .i64 0]) ?_ rfl ?_
      · rw [results_cell_tmp rfl]
        go_simp
      · show RsP q qb v B w (rdG 5 4 q4Z t) _ _
        rw [HO4]
        exact ⟨unhide HZF', rfl, p4, unhide HZR', hp4⟩
set_option maxRecDepth 100000 in
set_option maxHeartbeats 6400000 in
theorem refSpot6 (q : Nat) {qb : Nat} (v : Value) (B : List Int) (pl : Nat) (w : World) (h : RefR w q qb v B pl 0) (hB : BOk B) (hN : B.length ≤ 140737488355328) (hqb : qb < w.heap.size) {t : List Int} (hd : B.drop pl = 6 :: t) :
    Calls Try.prog 46 #[.pointer (some ⟨q, 0, none⟩)] w (RsP q qb v B w (rdG 6 4 q4Z t)) := by
  have HS := hide (RQ.start h hqb)
  obtain ⟨w0, hw0⟩ : ∃ w0, Hid ((w.alloc (.cells #[.int .i64 0, .int .u16 0, .int .u16 0, .int .i64 0] 55)).alloc (.cells #[.int .i64 0, .int .u16 0, .int .u16 0, .int .i64 0] 55) = w0) := ⟨_, hide rfl⟩
  rw [unhide hw0] at HS
  have HBY := hide (refByte_any q v B pl 0 w0 (unhide HS).rd hN)
  rw [hd] at HBY
  simp only [gByte, rres, ↓reduceIte] at HBY
  have hw0' := unhide hw0
  clear h
  go_enter Try.func46, Try.ntmps46
  go_wp2_with fail
  refine (unhide HBY).mono ?_
  rintro e w1 ⟨rfl, p1, hr1, hp1, f1⟩
  dsimp only at hr1 hp1 ⊢
  have HR1 : Hid (RQ w q qb v B ⟨0, 0, 0, 0⟩ p1 0 w1) := hide ((unhide HS).read f1 hr1)
  clear HBY hw0' hw0 hr1 f1 HS hd
  have HO0 : rdG 6 4 q4Z t = rdG 6 4 ⟨0, 0, 0, 0⟩ t := rfl
  have a1 : bits .and .u8 6 1 = 0 := rfl
  have a2 : bits .and .u8 6 2 = 2 := rfl
  have a4 : bits .and .u8 6 4 = 4 := rfl
  have a8 : bits .and .u8 6 8 = 0 := rfl
  have HO1 : rdG 6 4 q4Z t = rdG 6 3 ⟨0, 0, 0, 0⟩ t := HO0.trans (rdG_unset (n := 3) (k := 0) rfl rfl _ _)
  have HC1 := hide (refField_any (k := 1) (by omega) q v B p1 w1 (unhide HR1).rd hB hN)
  rw [show moK 1 = 1023 from rfl, hp1] at HC1
  obtain ⟨⟨s0, s1, s2, s3⟩, sf, sl, ⟨r0, r1, r2, r3⟩, rf, rl, ec, ql⟩ := (unhide HR1).cells
  have sf0 := sf 0
  have sf1 := sf 1
  have sf2 := sf 2
  have sf3 := sf 3
  have rf0 := rf 0
  have rf1 := rf 1
  have rf2 := rf 2
  have rf3 := rf 3
  clear sf rf
  go_wp2_with fail
  refine (unhide HC1).mono ?_
  rintro e w3 ⟨hf1, hm1⟩
  clear s0 s1 s2 s3 sl r0 r1 r2 r3 rl ec ql sf0 sf1 sf2 sf3 rf0 rf1 rf2 rf3
  clear HC1
  cases hrd1 : rdF 1 t with
  | error k0 =>
    rw [hrd1] at hm1
    obtain ⟨hk0, rfl, pe, ee, hre⟩ := hm1
    have dk : (k0 != 0) = true := by simpa using hk0
    have dk2 : (k0 == 0) = false := by simpa using hk0
    have HE : rdG 6 4 q4Z t = .error k0 := HO1.trans ((rdG_set (n := 2) (k := 1) rfl rfl _ _).1 k0 hrd1)
    have HRa := hide ((unhide HR1).read hf1 hre)
    have HRb : Hid (RQ w q qb v B ⟨0, 0, 0, 0⟩ pe ee (w3.setCell ⟨w.heap.size + 1, 1, none⟩ (.int .u16 0))) := hide ((unhide HRa).put1 0)
    obtain ⟨⟨s0, s1, s2, s3⟩, sf, sl, ⟨r0, r1, r2, r3⟩, rf, rl, ec, ql⟩ := (unhide HRa).cells
    have sf0 := sf 0
    have sf1 := sf 1
    have sf2 := sf 2
    have sf3 := sf 3
    have rf0 := rf 0
    have rf1 := rf 1
    have rf2 := rf 2
    have rf3 := rf 3
    clear sf rf
    obtain ⟨Wb, hWb⟩ : ∃ Wb, Hid (w3.setCell ⟨w.heap.size + 1, 1, none⟩ (.int .u16 0) = Wb) := ⟨_, hide rfl⟩
    rw [unhide hWb] at HRb
    have hWb' := unhide hWb
    obtain ⟨⟨u0, u1, u2, u3⟩, uf, ul, ⟨m0, m1, m2, m3⟩, mf, ml, me, mq⟩ := (unhide HRb).cells
    have mf0 := mf 0
    have mf1 := mf 1
    have mf2 := mf 2
    have mf3 := mf 3
    clear mf uf
    obtain ⟨Z, hZ, HZF, HZR, ⟨z0, z1, z2, z3⟩, _, zl⟩ := (unhide HRb).fin
    have HZF' := hide HZF
    have hZ' := unhide hZ
    clear HZF HZR hZ
    go_wp2_with fail
    refine bodyPost_ret (v := .tuple #[.agg #[.int .i64 0, .int .u16 0, .int .u16 0, .int .i64 0], .int .i64 k0]) ?_ rfl ?_
    · rw [results_cell_tmp rfl]
      go_simp
    · show RsP q qb v B w (rdG 6 4 q4Z t) _ _
      rw [HE]
      exact ⟨unhide HZF', hk0, _, _, _, _, rfl⟩
  | ok p =>
    obtain ⟨x1, t3⟩ := p
    rw [hrd1] at hm1
    obtain ⟨hx01, hx11, rfl, p3, hr1, hp3⟩ := hm1
    have HO2 : rdG 6 4 q4Z t = rdG 6 2 ⟨0, x1, 0, 0⟩ t3 := HO1.trans ((rdG_set (n := 2) (k := 1) rfl rfl _ _).2 _ _ hrd1)
    have HRa := hide ((unhide HR1).read hf1 hr1)
    have HR3 : Hid (RQ w q qb v B ⟨0, (IntKind.u16.wrap x1), 0, 0⟩ p3 0 (w3.setCell ⟨w.heap.size + 1, 1, none⟩ (.int .u16 (IntKind.u16.wrap x1)))) := hide ((unhide HRa).put1 (IntKind.u16.wrap x1))
    obtain ⟨⟨s0, s1, s2, s3⟩, sf, sl, ⟨r0, r1, r2, r3⟩, rf, rl, ec, ql⟩ := (unhide HRa).cells
    have sf0 := sf 0
    have sf1 := sf 1
    have sf2 := sf 2
    have sf3 := sf 3
    have rf0 := rf 0
    have rf1 := rf 1
    have rf2 := rf 2
    have rf3 := rf 3
    clear sf rf
    obtain ⟨W3, hW3⟩ : ∃ W, Hid (w3.setCell ⟨w.heap.size + 1, 1, none⟩ (.int .u16 (IntKind.u16.wrap x1)) = W) := ⟨_, hide rfl⟩
    rw [unhide hW3] at HR3
    have hW3' := unhide hW3
    have HC2 := hide (refField_any (k := 2) (by omega) q v B p3 W3 (unhide HR3).rd hB hN)
    rw [show moK 2 = 1023 from rfl, hp3] at HC2
    obtain ⟨⟨s0, s1, s2, s3⟩, sf, sl, ⟨r0, r1, r2, r3⟩, rf, rl, ec, ql⟩ := (unhide HR3).cells
    have sf0 := sf 0
    have sf1 := sf 1
    have sf2 := sf 2
    have sf3 := sf 3
    have rf0 := rf 0
    have rf1 := rf 1
    have rf2 := rf 2
    have rf3 := rf 3
    clear sf rf
    go_wp2_with fail
    refine (unhide HC2).mono ?_
    rintro e w4 ⟨hf2, hm2⟩
    clear s0 s1 s2 s3 sl r0 r1 r2 r3 rl ec ql sf0 sf1 sf2 sf3 rf0 rf1 rf2 rf3
    clear HC2
    cases hrd2 : rdF 2 t3 with
    | error k0 =>
      rw [hrd2] at hm2
      obtain ⟨hk0, rfl, pe, ee, hre⟩ := hm2
      have dk : (k0 != 0) = true := by simpa using hk0
      have dk2 : (k0 == 0) = false := by simpa using hk0
      have HE : rdG 6 4 q4Z t = .error k0 := HO2.trans ((rdG_set (n := 1) (k := 2) rfl rfl _ _).1 k0 hrd2)
      have HRa := hide ((unhide HR3).read hf2 hre)
      have HRb : Hid (RQ w q qb v B ⟨0, (IntKind.u16.wrap x1), 0, 0⟩ pe ee (w4.setCell ⟨w.heap.size + 1, 2, none⟩ (.int .u16 0))) := hide ((unhide HRa).put2 0)
      obtain ⟨⟨s0, s1, s2, s3⟩, sf, sl, ⟨r0, r1, r2, r3⟩, rf, rl, ec, ql⟩ := (unhide HRa).cells
      have sf0 := sf 0
      have sf1 := sf 1
      have sf2 := sf 2
      have sf3 := sf 3
      have rf0 := rf 0
      have rf1 := rf 1
      have rf2 := rf 2
      have rf3 := rf 3
      clear sf rf
      obtain ⟨Wb, hWb⟩ : ∃ Wb, Hid (w4.setCell ⟨w.heap.size + 1, 2, none⟩ (.int .u16 0) = Wb) := ⟨_, hide rfl⟩
      rw [unhide hWb] at HRb
      have hWb' := unhide hWb
      obtain ⟨⟨u0, u1, u2, u3⟩, uf, ul, ⟨m0, m1, m2, m3⟩, mf, ml, me, mq⟩ := (unhide HRb).cells
      have mf0 := mf 0
      have mf1 := mf 1
      have mf2 := mf 2
      have mf3 := mf 3
      clear mf uf
      obtain ⟨Z, hZ, HZF, HZR, ⟨z0, z1, z2, z3⟩, _, zl⟩ := (unhide HRb).fin
      have HZF' := hide HZF
      have hZ' := unhide hZ
      clear HZF HZR hZ
      go_wp2_with fail
      refine bodyPost_ret (v := .tuple #[.agg #[.int .i64 0, .int .u16 (IntKind.u16.wrap x1), .int .u16 0, .int .i64 0], .int .i64 k0]) ?_ rfl ?_
      · rw [results_cell_tmp rfl]
        go_simp
      · show RsP q qb v B w (rdG 6 4 q4Z t) _ _
        rw [HE]
        exact ⟨unhide HZF', hk0, _, _, _, _, rfl⟩
    | ok p =>
      obtain ⟨x2, t4⟩ := p
      rw [hrd2] at hm2
      obtain ⟨hx02, hx12, rfl, p4, hr2, hp4⟩ := hm2
      have HO3 : rdG 6 4 q4Z t = rdG 6 1 ⟨0, x1, x2, 0⟩ t4 := HO2.trans ((rdG_set (n := 1) (k := 2) rfl rfl _ _).2 _ _ hrd2)
      have HRa := hide ((unhide HR3).read hf2 hr2)
      have HR4 : Hid (RQ w q qb v B ⟨0, (IntKind.u16.wrap x1), (IntKind.u16.wrap x2), 0⟩ p4 0 (w4.setCell ⟨w.heap.size + 1, 2, none⟩ (.int .u16 (IntKind.u16.wrap x2)))) := hide ((unhide HRa).put2 (IntKind.u16.wrap x2))
      obtain ⟨⟨s0, s1, s2, s3⟩, sf, sl, ⟨r0, r1, r2, r3⟩, rf, rl, ec, ql⟩ := (unhide HRa).cells
      have sf0 := sf 0
      have sf1 := sf 1
      have sf2 := sf 2
      have sf3 := sf 3
      have rf0 := rf 0
      have rf1 := rf 1
      have rf2 := rf 2
      have rf3 := rf 3
      clear sf rf
      obtain ⟨W4, hW4⟩ : ∃ W, Hid (w4.setCell ⟨w.heap.size + 1, 2, none⟩ (.int .u16 (IntKind.u16.wrap x2)) = W) := ⟨_, hide rfl⟩
      rw [unhide hW4] at HR4
      have hW4' := unhide hW4
      have HO4 : rdG 6 4 q4Z t = rdG 6 0 ⟨0, x1, x2, 0⟩ t4 := HO3.trans (rdG_unset (n := 0) (k := 3) rfl rfl _ _)
      obtain ⟨⟨s0, s1, s2, s3⟩, sf, sl, ⟨r0, r1, r2, r3⟩, rf, rl, ec, ql⟩ := (unhide HR4).cells
      have sf0 := sf 0
      have sf1 := sf 1
      have sf2 := sf 2
      have sf3 := sf 3
      have rf0 := rf 0
      have rf1 := rf 1
      have rf2 := rf 2
      have rf3 := rf 3
      clear sf rf
      obtain ⟨Z, hZ, HZF, HZR, ⟨z0, z1, z2, z3⟩, _, zl⟩ := (unhide HR4).fin
      have HZF' := hide HZF
      have HZR' := hide HZR
      have hZ' := unhide hZ
      clear HZF HZR hZ
      go_wp2_with fail
      refine bodyPost_ret (v := .tuple #[.agg #[.int .i64 0, .int .u16 (IntKind.u16.wrap x1), .int .u16 (IntKind.u16.wrap x2), .int .i64 0], .int .i64 0]) ?_ rfl ?_
      · rw [results_cell_tmp rfl]
        go_simp
      · show RsP q qb v B w (rdG 6 4 q4Z t) _ _
        rw [HO4]
        exact ⟨unhide HZF', rfl, p4, unhide HZR', hp4⟩
set_option maxRecDepth 100000 in
set_option maxHeartbeats 6400000 in
theorem refSpot7 (q : Nat) {qb : Nat} (v : Value) (B : List Int) (pl : Nat) (w : World) (h : RefR w q qb v B pl 0) (hB : BOk B) (hN : B.length ≤ 140737488355328) (hqb : qb < w.heap.size) {t : List Int} (hd : B.drop pl = 7 :: t) :
    Calls Try.prog 46 #[.pointer (some ⟨q, 0, none⟩)] w (RsP q qb v B w (rdG 7 4 q4Z t)) := by
  have HS := hide (RQ.start h hqb)
  obtain ⟨w0, hw0⟩ : ∃ w0, Hid ((w.alloc (.cells #[.int .i64 0, .int .u16 0, .int .u16 0, .int .i64 0] 55)).alloc (.cells #[.int .i64 0, .int .u16 0, .int .u16 0, .int .i64 0] 55) = w0) := ⟨_, hide rfl⟩
  rw [unhide hw0] at HS
  have HBY := hide (refByte_any q v B pl 0 w0 (unhide HS).rd hN)
  rw [hd] at HBY
  simp only [gByte, rres, ↓reduceIte] at HBY
  have hw0' := unhide hw0
  clear h
  go_enter Try.func46, Try.ntmps46
  go_wp2_with fail
  refine (unhide HBY).mono ?_
  rintro e w1 ⟨rfl, p1, hr1, hp1, f1⟩
  dsimp only at hr1 hp1 ⊢
  have HR1 : Hid (RQ w q qb v B ⟨0, 0, 0, 0⟩ p1 0 w1) := hide ((unhide HS).read f1 hr1)
  clear HBY hw0' hw0 hr1 f1 HS hd
  have HO0 : rdG 7 4 q4Z t = rdG 7 4 ⟨0, 0, 0, 0⟩ t := rfl
  have a1 : bits .and .u8 7 1 = 1 := rfl
  have a2 : bits .and .u8 7 2 = 2 := rfl
  have a4 : bits .and .u8 7 4 = 4 := rfl
  have a8 : bits .and .u8 7 8 = 0 := rfl
  have HC0 := hide (refField_any (k := 0) (by omega) q v B p1 w1 (unhide HR1).rd hB hN)
  rw [show moK 0 = 9223372036854775807 from rfl, hp1] at HC0
  obtain ⟨⟨s0, s1, s2, s3⟩, sf, sl, ⟨r0, r1, r2, r3⟩, rf, rl, ec, ql⟩ := (unhide HR1).cells
  have sf0 := sf 0
  have sf1 := sf 1
  have sf2 := sf 2
  have sf3 := sf 3
  have rf0 := rf 0
  have rf1 := rf 1
  have rf2 := rf 2
  have rf3 := rf 3
  clear sf rf
  go_wp2_with fail
  refine (unhide HC0).mono ?_
  rintro e w2 ⟨hf0, hm0⟩
  clear s0 s1 s2 s3 sl r0 r1 r2 r3 rl ec ql sf0 sf1 sf2 sf3 rf0 rf1 rf2 rf3
  clear HC0
  cases hrd0 : rdF 0 t with
  | error k0 =>
    rw [hrd0] at hm0
    obtain ⟨hk0, rfl, pe, ee, hre⟩ := hm0
    have dk : (k0 != 0) = true := by simpa using hk0
    have dk2 : (k0 == 0) = false := by simpa using hk0
    have HE : rdG 7 4 q4Z t = .error k0 := HO0.trans ((rdG_set (n := 3) (k := 0) rfl rfl _ _).1 k0 hrd0)
    have HRa := hide ((unhide HR1).read hf0 hre)
    have HRb : Hid (RQ w q qb v B ⟨0, 0, 0, 0⟩ pe ee (w2.setCell ⟨w.heap.size + 1, 0, none⟩ (.int .i64 0))) := hide ((unhide HRa).put0 0)
    obtain ⟨⟨s0, s1, s2, s3⟩, sf, sl, ⟨r0, r1, r2, r3⟩, rf, rl, ec, ql⟩ := (unhide HRa).cells
    have sf0 := sf 0
    have sf1 := sf 1
    have sf2 := sf 2
    have sf3 := sf 3
    have rf0 := rf 0
    have rf1 := rf 1
    have rf2 := rf 2
    have rf3 := rf 3
    clear sf rf
    obtain ⟨Wb, hWb⟩ : ∃ Wb, Hid (w2.setCell ⟨w.heap.size + 1, 0, none⟩ (.int .i64 0) = Wb) := ⟨_, hide rfl⟩
    rw [unhide hWb] at HRb
    have hWb' := unhide hWb
    obtain ⟨⟨u0, u1, u2, u3⟩, uf, ul, ⟨m0, m1, m2, m3⟩, mf, ml, me, mq⟩ := (unhide HRb).cells
    have mf0 := mf 0
    have mf1 := mf 1
    have mf2 := mf 2
    have mf3 := mf 3
    clear mf uf
    obtain ⟨Z, hZ, HZF, HZR, ⟨z0, z1, z2, z3⟩, _, zl⟩ := (unhide HRb).fin
    have HZF' := hide HZF
    have hZ' := unhide hZ
    clear HZF HZR hZ
    go_wp2_with fail
    refine bodyPost_ret (v := .tuple #[.agg #[.int .i64 0, .int .u16 0, .int .u16 0, .int .i64 0], .int .i64 k0]) ?_ rfl ?_
    · rw [results_cell_tmp rfl]
      go_simp
    · show RsP q qb v B w (rdG 7 4 q4Z t) _ _
      rw [HE]
      exact ⟨unhide HZF', hk0, _, _, _, _, rfl⟩
  | ok p =>
    obtain ⟨x0, t2⟩ := p
    rw [hrd0] at hm0
    obtain ⟨hx00, hx10, rfl, p2, hr0, hp2⟩ := hm0
    have HO1 : rdG 7 4 q4Z t = rdG 7 3 ⟨x0, 0, 0, 0⟩ t2 := HO0.trans ((rdG_set (n := 3) (k := 0) rfl rfl _ _).2 _ _ hrd0)
    have HRa := hide ((unhide HR1).read hf0 hr0)
    have HR2 : Hid (RQ w q qb v B ⟨x0, 0, 0, 0⟩ p2 0 (w2.setCell ⟨w.heap.size + 1, 0, none⟩ (.int .i64 x0))) := hide ((unhide HRa).put0 x0)
    obtain ⟨⟨s0, s1, s2, s3⟩, sf, sl, ⟨r0, r1, r2, r3⟩, rf, rl, ec, ql⟩ := (unhide HRa).cells
    have sf0 := sf 0
    have sf1 := sf 1
    have sf2 := sf 2
    have sf3 := sf 3
    have rf0 := rf 0
    have rf1 := rf 1
    have rf2 := rf 2
    have rf3 := rf 3
    clear sf rf
    obtain ⟨W2, hW2⟩ : ∃ W, Hid (w2.setCell ⟨w.heap.size + 1, 0, none⟩ (.int .i64 x0) = W) := ⟨_, hide rfl⟩
    rw [unhide hW2] at HR2
    have hW2' := unhide hW2
    have HC1 := hide (refField_any (k := 1) (by omega) q v B p2 W2 (unhide HR2).rd hB hN)
    rw [show moK 1 = 1023 from rfl, hp2] at HC1
    obtain ⟨⟨s0, s1, s2, s3⟩, sf, sl, ⟨r0, r1, r2, r3⟩, rf, rl, ec, ql⟩ := (unhide HR2).cells
    have sf0 := sf 0
    have sf1 := sf 1
    have sf2 := sf 2
    have sf3 := sf 3
    have rf0 := rf 0
    have rf1 := rf 1
    have rf2 := rf 2
    have rf3 := rf 3
    clear sf rf
    go_wp2_with fail
    refine (unhide HC1).mono ?_
    rintro e w3 ⟨hf1, hm1⟩
    clear s0 s1 s2 s3 sl r0 r1 r2 r3 rl ec ql sf0 sf1 sf2 sf3 rf0 rf1 rf2 rf3
    clear HC1
    cases hrd1 : rdF 1 t2 with
    | error k0 =>
      rw [hrd1] at hm1
      obtain ⟨hk0, rfl, pe, ee, hre⟩ := hm1
      have dk : (k0 != 0) = true := by simpa using hk0
      have dk2 : (k0 == 0) = false := by simpa using hk0
      have HE : rdG 7 4 q4Z t = .error k0 := HO1.trans ((rdG_set (n := 2) (k := 1) rfl rfl _ _).1 k0 hrd1)
      have HRa := hide ((unhide HR2).read hf1 hre)
      have HRb : Hid (RQ w q qb v B ⟨x0, 0, 0, 0⟩ pe ee (w3.setCell ⟨w.heap.size + 1, 1, none⟩ (.int .u16 0))) := hide ((unhide HRa).put1 0)
      obtain ⟨⟨s0, s1, s2, s3⟩, sf, sl, ⟨r0, r1, r2, r3⟩, rf, rl, ec, ql⟩ := (unhide HRa).cells
      have sf0 := sf 0
      have sf1 := sf 1
      have sf2 := sf 2
      have sf3 := sf 3
      have rf0 := rf 0
      have rf1 := rf 1
      have rf2 := rf 2
      have rf3 := rf 3
      clear sf rf
      obtain ⟨Wb, hWb⟩ : ∃ Wb, Hid (w3.setCell ⟨w.heap.size + 1, 1, none⟩ (.int .u16 0) = Wb) := ⟨_, hide rfl⟩
      rw [unhide hWb] at HRb
      have hWb' := unhide hWb
      obtain ⟨⟨u0, u1, u2, u3⟩, uf, ul, ⟨m0, m1, m2, m3⟩, mf, ml, me, mq⟩ := (unhide HRb).cells
      have mf0 := mf 0
      have mf1 := mf 1
      have mf2 := mf 2
      have mf3 := mf 3
      clear mf uf
      obtain ⟨Z, hZ, HZF, HZR, ⟨z0, z1, z2, z3⟩, _, zl⟩ := (unhide HRb).fin
      have HZF' := hide HZF
      have hZ' := unhide hZ
      clear HZF HZR hZ
      go_wp2_with fail
      refine bodyPost_ret (v := .tuple #[.agg #[.int .i64 x0, .int .u16 0, .int .u16 0, .int .i64 0], .int .i64 k0]) ?_ rfl ?_
      · rw [results_cell_tmp rfl]
        go_simp
      · show RsP q qb v B w (rdG 7 4 q4Z t) _ _
        rw [HE]
        exact ⟨unhide HZF', hk0, _, _, _, _, rfl⟩
    | ok p =>
      obtain ⟨x1, t3⟩ := p
      rw [hrd1] at hm1
      obtain ⟨hx01, hx11, rfl, p3, hr1, hp3⟩ := hm1
      have HO2 : rdG 7 4 q4Z t = rdG 7 2 ⟨x0, x1, 0, 0⟩ t3 := HO1.trans ((rdG_set (n := 2) (k := 1) rfl rfl _ _).2 _ _ hrd1)
      have HRa := hide ((unhide HR2).read hf1 hr1)
      have HR3 : Hid (RQ w q qb v B ⟨x0, (IntKind.u16.wrap x1), 0, 0⟩ p3 0 (w3.setCell ⟨w.heap.size + 1, 1, none⟩ (.int .u16 (IntKind.u16.wrap x1)))) := hide ((unhide HRa).put1 (IntKind.u16.wrap x1))
      obtain ⟨⟨s0, s1, s2, s3⟩, sf, sl, ⟨r0, r1, r2, r3⟩, rf, rl, ec, ql⟩ := (unhide HRa).cells
      have sf0 := sf 0
      have sf1 := sf 1
      have sf2 := sf 2
      have sf3 := sf 3
      have rf0 := rf 0
      have rf1 := rf 1
      have rf2 := rf 2
      have rf3 := rf 3
      clear sf rf
      obtain ⟨W3, hW3⟩ : ∃ W, Hid (w3.setCell ⟨w.heap.size + 1, 1, none⟩ (.int .u16 (IntKind.u16.wrap x1)) = W) := ⟨_, hide rfl⟩
      rw [unhide hW3] at HR3
      have hW3' := unhide hW3
      have HC2 := hide (refField_any (k := 2) (by omega) q v B p3 W3 (unhide HR3).rd hB hN)
      rw [show moK 2 = 1023 from rfl, hp3] at HC2
      obtain ⟨⟨s0, s1, s2, s3⟩, sf, sl, ⟨r0, r1, r2, r3⟩, rf, rl, ec, ql⟩ := (unhide HR3).cells
      have sf0 := sf 0
      have sf1 := sf 1
      have sf2 := sf 2
      have sf3 := sf 3
      have rf0 := rf 0
      have rf1 := rf 1
      have rf2 := rf 2
      have rf3 := rf 3
      clear sf rf
      go_wp2_with fail
      refine (unhide HC2).mono ?_
      rintro e w4 ⟨hf2, hm2⟩
      clear s0 s1 s2 s3 sl r0 r1 r2 r3 rl ec ql sf0 sf1 sf2 sf3 rf0 rf1 rf2 rf3
      clear HC2
      cases hrd2 : rdF 2 t3 with
      | error k0 =>
        rw [hrd2] at hm2
        obtain ⟨hk0, rfl, pe, ee, hre⟩ := hm2
        have dk : (k0 != 0) = true := by simpa using hk0
        have dk2 : (k0 == 0) = false := by simpa using hk0
        have HE : rdG 7 4 q4Z t = .error k0 := HO2.trans ((rdG_set (n := 1) (k := 2) rfl rfl _ _).1 k0 hrd2)
        have HRa := hide ((unhide HR3).read hf2 hre)
        have HRb : Hid (RQ w q qb v B ⟨x0, (IntKind.u16.wrap x1), 0, 0⟩ pe ee (w4.setCell ⟨w.heap.size + 1, 2, none⟩ (.int .u16 0))) := hide ((unhide HRa).put2 0)
        obtain ⟨⟨s0, s1, s2, s3⟩, sf, sl, ⟨r0, r1, r2, r3⟩, rf, rl, ec, ql⟩ := (unhide HRa).cells
        have sf0 := sf 0
        have sf1 := sf 1
        have sf2 := sf 2
        have sf3 := sf 3
        have rf0 := rf 0
        have rf1 := rf 1
        have rf2 := rf 2
        have rf3 := rf 3
        clear sf rf
        obtain ⟨Wb, hWb⟩ : ∃ Wb, Hid (w4.setCell ⟨w.heap.size + 1, 2, none⟩ (.int .u16 0) = Wb) := ⟨_, hide rfl⟩
        rw [unhide hWb] at HRb
        have hWb' := unhide hWb
        obtain ⟨⟨u0, u1, u2, u3⟩, uf, ul, ⟨m0, m1, m2, m3⟩, mf, ml, me, mq⟩ := (unhide HRb).cells
        have mf0 := mf 0
        have mf1 := mf 1
        have mf2 := mf 2
        have mf3 := mf 3
        clear mf uf
        obtain ⟨Z, hZ, HZF, HZR, ⟨z0, z1, z2, z3⟩, _, zl⟩ := (unhide HRb).fin
        have HZF' := hide HZF
        have hZ' := unhide hZ
        clear HZF HZR hZ
        go_wp2_with fail
        refine bodyPost_ret (v := .tuple #[.agg #[.int .i64 x0, .int .u16 (IntKind.u16.wrap x1), .int .u16 0, .int .i64 0], .int .i64 k0]) ?_ rfl ?_
        · rw [results_cell_tmp rfl]
          go_simp
        · show RsP q qb v B w (rdG 7 4 q4Z t) _ _
          rw [HE]
          exact ⟨unhide HZF', hk0, _, _, _, _, rfl⟩
      | ok p =>
        obtain ⟨x2, t4⟩ := p
        rw [hrd2] at hm2
        obtain ⟨hx02, hx12, rfl, p4, hr2, hp4⟩ := hm2
        have HO3 : rdG 7 4 q4Z t = rdG 7 1 ⟨x0, x1, x2, 0⟩ t4 := HO2.trans ((rdG_set (n := 1) (k := 2) rfl rfl _ _).2 _ _ hrd2)
        have HRa := hide ((unhide HR3).read hf2 hr2)
        have HR4 : Hid (RQ w q qb v B ⟨x0, (IntKind.u16.wrap x1), (IntKind.u16.wrap x2), 0⟩ p4 0 (w4.setCell ⟨w.heap.size + 1, 2, none⟩ (.int .u16 (IntKind.u16.wrap x2)))) := hide ((unhide HRa).put2 (IntKind.u16.wrap x2))
        obtain ⟨⟨s0, s1, s2, s3⟩, sf, sl, ⟨r0, r1, r2, r3⟩, rf, rl, ec, ql⟩ := (unhide HRa).cells
        have sf0 := sf 0
        have sf1 := sf 1
        have sf2 := sf 2
        have sf3 := sf 3
        have rf0 := rf 0
        have rf1 := rf 1
        have rf2 := rf 2
        have rf3 := rf 3
        clear sf rf
        obtain ⟨W4, hW4⟩ : ∃ W, Hid (w4.setCell ⟨w.heap.size + 1, 2, none⟩ (.int .u16 (IntKind.u16.wrap x2)) = W) := ⟨_, hide rfl⟩
        rw [unhide hW4] at HR4
        have hW4' := unhide hW4
        have HO4 : rdG 7 4 q4Z t = rdG 7 0 ⟨x0, x1, x2, 0⟩ t4 := HO3.trans (rdG_unset (n := 0) (k := 3) rfl rfl _ _)
        obtain ⟨⟨s0, s1, s2, s3⟩, sf, sl, ⟨r0, r1, r2, r3⟩, rf, rl, ec, ql⟩ := (unhide HR4).cells
        have sf0 := sf 0
        have sf1 := sf 1
        have sf2 := sf 2
        have sf3 := sf 3
        have rf0 := rf 0
        have rf1 := rf 1
        have rf2 := rf 2
        have rf3 := rf 3
        clear sf rf
        obtain ⟨Z, hZ, HZF, HZR, ⟨z0, z1, z2, z3⟩, _, zl⟩ := (unhide HR4).fin
        have HZF' := hide HZF
        have HZR' := hide HZR
        have hZ' := unhide hZ
        clear HZF HZR hZ
        go_wp2_with fail
        refine bodyPost_ret (v := .tuple #[.agg #[.int .i64 x0, .int .u16 (IntKind.u16.wrap x1), .int .u16 (IntKind.u16.wrap x2), .int .i64 0], .int .i64 0]) ?_ rfl ?_
        · rw [results_cell_tmp rfl]
          go_simp
        · show RsP q qb v B w (rdG 7 4 q4Z t) _ _
          rw [HO4]
          exact ⟨unhide HZF', rfl, p4, unhide HZR', hp4⟩
end Go.Proofs.Ytaldacjeeccbhaa
