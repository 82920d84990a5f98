/-
  The document reads a spot, whatever lies there.
-/
import Derived.Test.YtaldacjeeccbhaaR3a
import Derived.Test.YtaldacjeeccbhaaR3b
import Derived.Test.YtaldacjeeccbhaaR3c
import Derived.Test.YtaldacjeeccbhaaR3d
import Derived.Test.YtaldacjeeccbhaaR3e
namespace Go.Proofs.Ytaldacjeeccbhaa
open Go.RowKit
set_option linter.unusedVariables false
set_option linter.unusedSimpArgs false
set_option maxRecDepth 100000 in
set_option maxHeartbeats 6400000 in
theorem refSpotE (q : Nat) {qb : Nat} (v : Value) (B : List Int) (pl : Nat) (w : World) (h : RefR w q qb v B pl 0) (hN : B.length ≤ 140737488355328) (hqb : qb < w.heap.size) (hd : B.drop pl = []) :
    Calls Try.prog 46 #[.pointer (some ⟨q, 0, none⟩)] w (RsP q qb v B w (.error 2)) := by
  have HS := hide (RQ.start h hqb)
  obtain ⟨w0, hw0⟩ : ∃ w0, Hid ((w.alloc (.cells #[.int .i64 0, .int .u16 0, .int .u16 0, .int .i64 0] 55)).alloc (.cells #[.int .i64 0, .int .u16 0, .int .u16 0, .int .i64 0] 55) = w0) := ⟨_, hide rfl⟩
  rw [unhide hw0] at HS
  have HBY := hide (refByte_any q v B pl 0 w0 (unhide HS).rd hN)
  rw [hd] at HBY
  simp only [gByte, rres, ↓reduceIte] at HBY
  have hw0' := unhide hw0
  clear h
  go_enter Try.func46, Try.ntmps46
  go_wp2_with fail
  refine (unhide HBY).mono ?_
  rintro e w1 ⟨rfl, p1, hr1, hp1, f1⟩
  dsimp only at hr1 hp1 ⊢
  have HR1 : Hid (RQ w q qb v B ⟨0, 0, 0, 0⟩ p1 2 w1) := hide ((unhide HS).read f1 hr1)
  clear HBY hw0' hw0 hr1 f1 HS hd
  obtain ⟨⟨s0, s1, s2, s3⟩, sf, sl, ⟨r0, r1, r2, r3⟩, rf, rl, ec, ql⟩ := (unhide HR1).cells
  have sf0 := sf 0
  have sf1 := sf 1
  have sf2 := sf 2
  have sf3 := sf 3
  have rf0 := rf 0
  have rf1 := rf 1
  have rf2 := rf 2
  have rf3 := rf 3
  clear sf rf
  have HRd := hide (unhide HR1).drew
  have HSD : Hid ((((w1.drew).cell? ⟨w.heap.size + 1, 0, none⟩ = some (.int .i64 0) ∧ w1.drew.cell? ⟨w.heap.size + 1, 1, none⟩ = some (.int .u16 0) ∧ w1.drew.cell? ⟨w.heap.size + 1, 2, none⟩ = some (.int .u16 0) ∧ w1.drew.cell? ⟨w.heap.size + 1, 3, none⟩ = some (.int .i64 0)) ∧ w1.drew.cell? ⟨q, 2, none⟩ = some (.int .i64 2))) := ⟨⟨s0, s1, s2, s3⟩, ec⟩
  obtain ⟨V, hV⟩ : ∃ V, Hid (w1.drew = V) := ⟨_, hide rfl⟩
  have HSV := HSD
  rw [unhide hV] at HSV HRd
  obtain ⟨_, _, _, ⟨m0, m1, m2, m3⟩, mf, ml, _, _⟩ := (unhide HRd).cells
  have mf0 := mf 0
  have mf1 := mf 1
  have mf2 := mf 2
  have mf3 := mf 3
  clear mf
  obtain ⟨Z, hZ, HZF, HZR, ⟨z0, z1, z2, z3⟩, zz, zl⟩ := (unhide HRd).fin
  have HSz : Hid ((Z.cell? ⟨w.heap.size + 1, 0, none⟩ = some (.int .i64 0) ∧ Z.cell? ⟨w.heap.size + 1, 1, none⟩ = some (.int .u16 0) ∧ Z.cell? ⟨w.heap.size + 1, 2, none⟩ = some (.int .u16 0) ∧ Z.cell? ⟨w.heap.size + 1, 3, none⟩ = some (.int .i64 0)) ∧ Z.cell? ⟨q, 2, none⟩ = some (.int .i64 2)) := ⟨zz, HZR.c2⟩
  have HZF' := hide HZF
  clear HZF HZR zz
  go_wp2_with fail
  refine wp_region_held_drew (S := (fun W => (W.cell? ⟨w.heap.size + 1, 0, none⟩ = some (.int .i64 0) ∧ W.cell? ⟨w.heap.size + 1, 1, none⟩ = some (.int .u16 0) ∧ W.cell? ⟨w.heap.size + 1, 2, none⟩ = some (.int .u16 0) ∧ W.cell? ⟨w.heap.size + 1, 3, none⟩ = some (.int .i64 0)) ∧ W.cell? ⟨q, 2, none⟩ = some (.int .i64 2))) (by kernel_rfl) (unhide HSD) (fun hHeld => ?_)
  clear hHeld
  rw [unhide hV]
  refine wpAnyH_take (i := 0) (oi := _) (v := .agg #[.int .i64 0, .int .u16 0, .int .u16 0, .int .i64 0]) rfl (by kernel_rfl) (by kernel_rfl) (by kernel_rfl) (fun _ _ _ h => h) (Or.inl ⟨by rfl, (by intro w' hSw; obtain ⟨⟨y0, y1, y2, y3⟩, y4⟩ := hSw; go_simp)⟩) (unhide HSV) ?_
  go_simp
  refine wpAnyH_take (i := 1) (oi := _) (v := .pointer (some ⟨q, 0, none⟩)) rfl (by kernel_rfl) (by kernel_rfl) (by kernel_rfl) (fun _ _ _ h => h) (Or.inl ⟨by rfl, (by intro w' hSw; obtain ⟨⟨y0, y1, y2, y3⟩, y4⟩ := hSw; go_simp)⟩) (unhide HSV) ?_
  go_simp
  refine wpAnyH_take (i := 2) (oi := _) (v := .pointer (some ⟨q, 0, none⟩)) rfl (by kernel_rfl) (by kernel_rfl) (by kernel_rfl) (fun _ _ _ h => h) (Or.inl ⟨by rfl, (by intro w' hSw; obtain ⟨⟨y0, y1, y2, y3⟩, y4⟩ := hSw; go_simp)⟩) (unhide HSV) ?_
  go_simp
  refine wpAnyH_take (i := 3) (oi := _) (v := .pointer (some ⟨q, 2, none⟩)) rfl (by kernel_rfl) (by kernel_rfl) (by kernel_rfl) (fun _ _ _ h => h) (Or.inl ⟨by rfl, (by intro w' hSw; obtain ⟨⟨y0, y1, y2, y3⟩, y4⟩ := hSw; go_simp)⟩) (unhide HSV) ?_
  go_simp
  refine wpAnyH_take (i := 4) (oi := _) (v := .int .i64 2) rfl (by kernel_rfl) (by kernel_rfl) (by kernel_rfl) (fun _ _ _ h => h) (Or.inl ⟨by rfl, (by intro w' hSw; obtain ⟨⟨y0, y1, y2, y3⟩, y4⟩ := hSw; go_simp)⟩) (unhide HSV) ?_
  go_simp
  refine wpAnyH_ready (rs := [5]) (by kernel_rfl) (by simp) ?_
  refine AllReadyH.cons (o := _) rfl (fun K hK => ?_) AllReadyH.nil
  go_simp
  rw [unhide hZ]
  refine hK.out _ _ (unhide HSz) (fun _ => ?_)
  clear hK K
  go_simp
  refine wpAnyH_take (i := 6) (oi := _) (v := .int .i64 2) rfl (by kernel_rfl) (by kernel_rfl) (by kernel_rfl) (fun _ _ _ h => h) (Or.inl ⟨by rfl, (by intro w' hSw; obtain ⟨⟨y0, y1, y2, y3⟩, y4⟩ := hSw; go_simp)⟩) (unhide HSz) ?_
  go_simp
  refine wpAnyH_done (by kernel_rfl) ?_ _
  go_wp2_with fail
  refine bodyPost_ret (v := .tuple #[.agg #[.int .i64 0, .int .u16 0, .int .u16 0, .int .i64 0], .int .i64 2]) ?_ rfl ?_
  · rw [results_cell_tmp rfl]
    go_simp
  · show RsP q qb v B w (.error 2) _ _
    exact ⟨unhide HZF', by decide, _, _, _, _, rfl⟩
set_option maxRecDepth 100000 in
set_option maxHeartbeats 6400000 in
theorem refSpotB (q : Nat) {qb : Nat} (v : Value) (B : List Int) (pl : Nat) (w : World) (h : RefR w q qb v B pl 0) (hN : B.length ≤ 140737488355328) (hqb : qb < w.heap.size) {b : Int} {t : List Int} (hd : B.drop pl = b :: t) (hb : 16 ≤ b) :
    Calls Try.prog 46 #[.pointer (some ⟨q, 0, none⟩)] w (RsP q qb v B w (.error 4)) := by
  have HS := hide (RQ.start h hqb)
  obtain ⟨w0, hw0⟩ : ∃ w0, Hid ((w.alloc (.cells #[.int .i64 0, .int .u16 0, .int .u16 0, .int .i64 0] 55)).alloc (.cells #[.int .i64 0, .int .u16 0, .int .u16 0, .int .i64 0] 55) = w0) := ⟨_, hide rfl⟩
  rw [unhide hw0] at HS
  have HBY := hide (refByte_any q v B pl 0 w0 (unhide HS).rd hN)
  rw [hd] at HBY
  simp only [gByte, rres, ↓reduceIte] at HBY
  have hw0' := unhide hw0
  clear h
  go_enter Try.func46, Try.ntmps46
  go_wp2_with fail
  refine (unhide HBY).mono ?_
  rintro e w1 ⟨rfl, p1, hr1, hp1, f1⟩
  dsimp only at hr1 hp1 ⊢
  have HR1 : Hid (RQ w q qb v B ⟨0, 0, 0, 0⟩ p1 0 w1) := hide ((unhide HS).read f1 hr1)
  have d15 : decide (b > 15) = true := decide_eq_true (by omega)
  have d16 : 15 < b := by omega
  clear HBY hw0' hw0 hr1 f1 HS hd
  obtain ⟨⟨s0, s1, s2, s3⟩, sf, sl, ⟨r0, r1, r2, r3⟩, rf, rl, ec, ql⟩ := (unhide HR1).cells
  have sf0 := sf 0
  have sf1 := sf 1
  have sf2 := sf 2
  have sf3 := sf 3
  have rf0 := rf 0
  have rf1 := rf 1
  have rf2 := rf 2
  have rf3 := rf 3
  clear sf rf
  obtain ⟨Z, hZ, HZF, HZR, ⟨z0, z1, z2, z3⟩, _, zl⟩ := (unhide HR1).fin
  have HZF' := hide HZF
  have HZR' := hide HZR
  have hZ' := unhide hZ
  clear HZF HZR hZ
  go_wp2_with fail
  refine bodyPost_ret (v := .tuple #[.agg #[.int .i64 0, .int .u16 0, .int .u16 0, .int .i64 0], .int .i64 4]) ?_ rfl ?_
  · rw [results_cell_tmp rfl]
    go_simp
  · show RsP q qb v B w (.error 4) _ _
    exact ⟨unhide HZF', by decide, _, _, _, _, rfl⟩
theorem refSpot_any (q : Nat) {qb : Nat} (v : Value) (B : List Int) (pl : Nat) (w : World) (h : RefR w q qb v B pl 0) (hB : BOk B) (hN : B.length ≤ 140737488355328) (hqb : qb < w.heap.size) :
    Calls Try.prog 46 #[.pointer (some ⟨q, 0, none⟩)] w (RsP q qb v B w (rdS (B.drop pl))) := by
  cases hd : B.drop pl with
  | nil => exact refSpotE q v B pl w h hN hqb hd
  | cons b t =>
    have hb := hB b (List.mem_of_mem_drop (by rw [hd]; simp))
    have e : rdS (b :: t) = if 16 ≤ b then .error 4 else rdG b 4 q4Z t := rfl
    rw [e]
    by_cases h16 : 16 ≤ b
    · rw [if_pos h16]
      exact refSpotB q v B pl w h hN hqb hd h16
    · rw [if_neg h16]
      obtain rfl | rfl | rfl | rfl | rfl | rfl | rfl | rfl | rfl | rfl | rfl | rfl | rfl | rfl | rfl | rfl : b = 0 ∨ b = 1 ∨ b = 2 ∨ b = 3 ∨ b = 4 ∨ b = 5 ∨ b = 6 ∨ b = 7 ∨ b = 8 ∨ b = 9 ∨ b = 10 ∨ b = 11 ∨ b = 12 ∨ b = 13 ∨ b = 14 ∨ b = 15 := by omega
      · exact refSpot0 q v B pl w h hB hN hqb hd
      · exact refSpot1 q v B pl w h hB hN hqb hd
      · exact refSpot2 q v B pl w h hB hN hqb hd
      · exact refSpot3 q v B pl w h hB hN hqb hd
      · exact refSpot4 q v B pl w h hB hN hqb hd
      · exact refSpot5 q v B pl w h hB hN hqb hd
      · exact refSpot6 q v B pl w h hB hN hqb hd
      · exact refSpot7 q v B pl w h hB hN hqb hd
      · exact refSpot8 q v B pl w h hB hN hqb hd
      · exact refSpot9 q v B pl w h hB hN hqb hd
      · exact refSpot10 q v B pl w h hB hN hqb hd
      · exact refSpot11 q v B pl w h hB hN hqb hd
      · exact refSpot12 q v B pl w h hB hN hqb hd
      · exact refSpot13 q v B pl w h hB hN hqb hd
      · exact refSpot14 q v B pl w h hB hN hqb hd
      · exact refSpot15 q v B pl w h hB hN hqb hd
end Go.Proofs.Ytaldacjeeccbhaa
