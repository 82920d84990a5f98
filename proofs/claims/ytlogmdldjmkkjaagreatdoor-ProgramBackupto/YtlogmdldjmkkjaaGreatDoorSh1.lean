/-
  shown: the examples.
-/
import Derived.Test.YtlogmdldjmkkjaaGreatDoorSh0
namespace Go.Proofs.YtlogmdldjmkkjaaGreatDoor
open Go.RowKit
set_option linter.unusedVariables false
set_option linter.unusedSimpArgs false
set_option maxRecDepth 100000
theorem Rd.bl {w w' : World} {v : Value} {B : List Int} (h : Rd w v B) (f : Below w.heap.size w w') : Rd w' v B := by
  rcases h with ⟨e1, e2⟩ | ⟨b, off, cap, e, c1, c2, c3, c4⟩
  · exact .inl ⟨e1, e2⟩
  · exact .inr ⟨b, off, cap, e, c1, c2, Nat.lt_of_lt_of_le c3 f.size, fun i hi => (f.cell (p := ⟨b, off + i, none⟩) c3).trans (c4 i hi)⟩
theorem Rd.of_ro {w : World} {v : Value} {B : List Int} (h : Ro w 1 v B.length (B.map By)) : Rd w v B := by
  rcases h.2 with ⟨e1, e2⟩ | ⟨g, off, cap, cur, t, e, hh, h1, h2, _, h3⟩
  · exact .inl ⟨e1, List.eq_nil_of_length_eq_zero e2⟩
  · refine .inr ⟨g, off, cap, e, h1, h2, (Array.getElem?_eq_some_iff.1 hh).1, fun i hi => ?_⟩
    have := h3 i (by omega)
    simp only [World.cell?, hh]
    simp [List.getElem?_map, List.getElem?_eq_getElem hi] at this
    simp [this, By, List.getD, List.getElem?_eq_getElem hi]
/-- The beginning of a row of bytes. -/
theorem Rd.upto {w : World} {a : Option Addr} {n cap : Nat} {B : List Int} (h : Rd w (.slice a n cap) B) {k : Nat} (hk : k ≤ B.length) : Rd w (.slice a k cap) (B.take k) := by
  rcases h with ⟨e1, e2⟩ | ⟨b, off, cap', e, c1, c2, c3, c4⟩
  · subst e2
    simp only [List.length_nil, Nat.le_zero] at hk
    subst hk
    cases e1
    exact .inl ⟨rfl, rfl⟩
  · cases e
    have hl : (B.take k).length = k := by rw [List.length_take]; omega
    refine .inr ⟨b, off, cap, by rw [hl], by omega, c2, c3, fun i hi => ?_⟩
    rw [hl] at hi
    rw [c4 i (by omega)]
    simp [List.getD, List.getElem?_take, hi]
theorem sm_bok : BOk smB := by
  intro b hb
  have : ∀ b ∈ smB, 0 ≤ b ∧ b < 256 := by decide
  exact this b hb
set_option maxHeartbeats 6400000 in
theorem shown_any {w : World} (hl : Laid w) : Calls Tryz.prog 17 #[] w fun e w' => e = .returned (.bool true) ∧ Below w.heap.size w w' := by
  have gl : 0 < w.heap.size := World.block_lt_of_cell? _ _ hl
  obtain ⟨W1, eW1⟩ : ∃ W1, Hid (W1 = w.alloc (.cells #[.int .u8 80, .int .u8 84, .int .u8 80, .int .u8 1, .int .u8 0, .int .u8 1, .int .u8 4, .int .u8 109, .int .u8 97, .int .u8 105, .int .u8 110, .int .u8 0, .int .u8 0, .int .u8 2, .int .u8 1, .int .u8 44, .int .u8 0] 5)) := ⟨_, rfl⟩
  have R1 : Hid (Rd W1 (.slice (some ⟨w.heap.size, 0, none⟩) 17 17) smB) := by
    rw [unhide eW1]
    exact Rd.of_ro (Ro.new (sz := 1) (n := 17) rfl (by decide) rfl)
  have F1 : Hid (Below w.heap.size w W1) := by rw [unhide eW1]; exact (Below.refl _ w).alloc (Nat.le_refl _) _
  have HL := hide hl
  have HG := hide gl
  have L1 : Hid (Laid W1) := (unhide HL).blw (unhide F1) (unhide HG)
  clear hl gl
  go_enter Tryz.func17, Tryz.ntmps17
  go_wp2_with fail
  rw [← unhide eW1]
  refine (small_any W1).mono ?_
  rintro e W2 ⟨ca, cn, cc, fa, fn, fc, rfl, hp2, hb2⟩
  have P2 := hide hp2
  have F2 : Hid (Below w.heap.size w W2) := (unhide F1).trans (hb2.mono (unhide F1).size)
  have R2 : Hid (Rd W2 (.slice (some ⟨w.heap.size, 0, none⟩) 17 17) smB) := (unhide R1).bl hb2
  clear hp2 hb2 eW1 L1 R1 F1
  go_wp2_with fail
  refine (enP_any (unhide P2) sm_ok ((unhide HL).blw (unhide F2) (unhide HG)) sm_nn).mono ?_
  rintro e W3 ⟨gv, rfl, hb3, hg3, -⟩
  rw [sm_en] at hg3
  rw [sm_en]
  have hg3 := hg3 rfl
  have G3 : Hid (Rd W3 gv smB) := Rd.of_ro (Ro.of_own hg3)
  have F3 : Hid (Below w.heap.size w W3) := (unhide F2).trans (hb3.mono (unhide F2).size)
  have R3 : Hid (Rd W3 (.slice (some ⟨w.heap.size, 0, none⟩) 17 17) smB) := (unhide R2).bl hb3
  clear P2 F2 R2 hb3 hg3
  go_wp2_with fail
  refine (small_any W3).mono ?_
  rintro e W4 ⟨ca', cn', cc', fa', fn', fc', rfl, hp4, hb4⟩
  have P4 := hide hp4
  have F4 : Hid (Below w.heap.size w W4) := (unhide F3).trans (hb4.mono (unhide F3).size)
  have R4 : Hid (Rd W4 (.slice (some ⟨w.heap.size, 0, none⟩) 17 17) smB) := (unhide R3).bl hb4
  have G4 : Hid (Rd W4 gv smB) := (unhide G3).bl hb4
  clear hp4 hb4 F3 R3 G3
  go_wp2_with fail
  refine (pCheck_any (unhide P4) sm_ok ((unhide HL).blw (unhide F4) (unhide HG))).mono ?_
  rintro e W5 ⟨rfl, hb5⟩
  rw [sm_ck]
  have F5 : Hid (Below w.heap.size w W5) := (unhide F4).trans (hb5.mono (unhide F4).size)
  have R5 : Hid (Rd W5 (.slice (some ⟨w.heap.size, 0, none⟩) 17 17) smB) := (unhide R4).bl hb5
  have G5 : Hid (Rd W5 gv smB) := (unhide G4).bl hb5
  clear hb5 F4 R4 G4 P4
  obtain ⟨W6, eW6⟩ : ∃ W6, Hid (W6 = W5.alloc (.cells #[.int .i64 0, .int .i64 0] 46)) := ⟨_, rfl⟩
  have hb6 : Below W5.heap.size W5 W6 := by rw [unhide eW6]; exact (Below.refl _ _).alloc (Nat.le_refl _) _
  have F6 : Hid (Below w.heap.size w W6) := (unhide F5).trans (hb6.mono (unhide F5).size)
  have R6 : Hid (Rd W6 (.slice (some ⟨w.heap.size, 0, none⟩) 17 17) smB) := (unhide R5).bl hb6
  have G6 : Hid (Rd W6 gv smB) := (unhide G5).bl hb6
  clear hb6 F5 R5 G5
  show Hid _
  simp only [rsV]
  unfold Hid
  go_wp2_with fail
  rw [← unhide eW6]
  have hgs : ∃ ga gc, gv = .slice ga 17 gc := (unhide G6).shapeR
  refine (same_any _ _ smB W6 (unhide G6) (unhide R6)).mono ?_
  rintro e W7 ⟨rfl, k7, e7⟩
  have hb7 : Below W6.heap.size W6 W7 := by rw [e7]; exact (Fr.drewN (S := fun _ => False) k7).below (Nat.le_refl _) (fun _ _ e => e)
  have F7 : Hid (Below w.heap.size w W7) := (unhide F6).trans (hb7.mono (unhide F6).size)
  have R7 : Hid (Rd W7 (.slice (some ⟨w.heap.size, 0, none⟩) 17 17) smB) := (unhide R6).bl hb7
  clear hb7 F6 R6 G6 e7 eW6 hgs
  go_wp2_with fail
  refine (decP_any (unhide R7) sm_bok (by decide) ((unhide HL).blw (unhide F7) (unhide HG))).mono ?_
  rintro e W8 ⟨pa, pn, pc, qa, qn, qc, rfl, hb8, hp8, -⟩
  rw [sm_dec] at hp8
  rw [sm_dec]
  have P8 := hide (hp8 rfl).pgv
  have F8 : Hid (Below w.heap.size w W8) := (unhide F7).trans (hb8.mono (unhide F7).size)
  have R8 : Hid (Rd W8 (.slice (some ⟨w.heap.size, 0, none⟩) 17 17) smB) := (unhide R7).bl hb8
  clear hb8 hp8 F7 R7
  obtain ⟨W9, eW9⟩ : ∃ W9, Hid (W9 = W8.alloc (.cells #[.slice pa pn pc, .slice qa qn qc] 25)) := ⟨_, rfl⟩
  have hb9 : Below W8.heap.size W8 W9 := by rw [unhide eW9]; exact (Below.refl _ _).alloc (Nat.le_refl _) _
  have F9 : Hid (Below w.heap.size w W9) := (unhide F8).trans (hb9.mono (unhide F8).size)
  have R9 : Hid (Rd W9 (.slice (some ⟨w.heap.size, 0, none⟩) 17 17) smB) := (unhide R8).bl hb9
  have P9 : Hid (PgV W9 (.agg #[.slice pa pn pc, .slice qa qn qc]) smP) := (unhide P8).below hb9 (Nat.le_refl _)
  obtain ⟨bb, ebb⟩ : ∃ bb, W8.heap.size = bb := ⟨_, rfl⟩
  have B9 : Hid (Bx W9 2 bb [.slice pa pn pc, .slice qa qn qc]) := by rw [unhide eW9]; exact Bx.new rfl ebb
  clear hb9 P8 F8 R8
  go_wp2_with fail
  rw [← unhide eW9]
  clear eW9 ebb
  refine (decP_any ((unhide R9).upto (k := 16) (by decide)) (fun b hb => sm_bok b (List.mem_of_mem_take hb)) (by decide) ((unhide HL).blw (unhide F9) (unhide HG))).mono ?_
  rintro e W10 ⟨ca10, cn10, cc10, fa10, fn10, fc10, rfl, hb10, -, -⟩
  rw [sm_1]
  have F10 : Hid (Below w.heap.size w W10) := (unhide F9).trans (hb10.mono (unhide F9).size)
  have R10 : Hid (Rd W10 (.slice (some ⟨w.heap.size, 0, none⟩) 17 17) smB) := (unhide R9).bl hb10
  have P10 : Hid (PgV W10 (.agg #[.slice pa pn pc, .slice qa qn qc]) smP) := (unhide P9).below hb10 (Nat.le_refl _)
  have B10 : Hid (Bx W10 2 bb [.slice pa pn pc, .slice qa qn qc]) := (unhide B9).fr (S := fun _ => False) (Fr.of_below hb10) (fun e => e)
  clear hb10 F9 R9 P9 B9
  obtain ⟨W11, eW11⟩ : ∃ W11, Hid (W11 = W10.alloc (.cells #[.slice ca10 cn10 cc10, .slice fa10 fn10 fc10] 25)) := ⟨_, rfl⟩
  have hb11 : Below W10.heap.size W10 W11 := by rw [unhide eW11]; exact (Below.refl _ _).alloc (Nat.le_refl _) _
  have F11 : Hid (Below w.heap.size w W11) := (unhide F10).trans (hb11.mono (unhide F10).size)
  have R11 : Hid (Rd W11 (.slice (some ⟨w.heap.size, 0, none⟩) 17 17) smB) := (unhide R10).bl hb11
  have P11 : Hid (PgV W11 (.agg #[.slice pa pn pc, .slice qa qn qc]) smP) := (unhide P10).below hb11 (Nat.le_refl _)
  have B11 : Hid (Bx W11 2 bb [.slice pa pn pc, .slice qa qn qc]) := (unhide B10).fr (S := fun _ => False) (Fr.of_below hb11) (fun e => e)
  clear hb11 F10 R10 P10 B10
  go_wp2_with fail
  rw [← unhide eW11]
  clear eW11
  refine (copyBytes_any _ smB W11 (unhide R11) (by decide)).mono ?_
  rintro e W12 ⟨v12, rfl, ho12, hb12⟩
  have O12 : Hid (W12.ownsRow W11.heap.size 5 1 v12 17 (smB.map By)) := ho12
  have hsz12 := hb12.size
  have HB12 := hide hb12
  clear hb12 ho12
  obtain ⟨i0, hi0, hy0, hy1, hy2⟩ := info_parts Tryz.info5
  go_wp2_with (first | (at_builtin; refine wpList_append_own_at _ rfl _ _ 27 rfl W11.heap.size 5 i0 (.int .u8 0) 1 1 Tryz.underlying27 hi0 hy0 hy1 hy2 rfl (by decide) _ _ _ rfl ((unhide O12).alloc _) ⟨W12.heap.size, 0, none⟩ 1 1 [.int .u8 0] rfl rfl (cell_one_new _ _ _) (by simp [Value.oneCell']) (by unfold maxLen; omega) (by omega) (by simp; omega) ?_))
  intro v13 W13 hown hgrow hnil hat
  have hb13 : Below W11.heap.size W11 W13 := by
    have F : Fr (fun _ => False) W11 W13 := ((Fr.of_below (unhide HB12)).alloc _).grown hgrow (fun k hk => .inl ((unhide O12).lt k hk).1)
    exact F.below (Nat.le_refl _) (fun _ _ e => e)
  have hown2 : W13.ownsRow W11.heap.size 5 1 v13 (smB ++ [0]).length ((smB ++ [0]).map By) := hown
  have N13 : Hid (Rd W13 v13 (smB ++ [0])) := Rd.of_ro (Ro.of_own hown2)
  have F13 : Hid (Below w.heap.size w W13) := (unhide F11).trans (hb13.mono (unhide F11).size)
  have R13 : Hid (Rd W13 (.slice (some ⟨w.heap.size, 0, none⟩) 17 17) smB) := (unhide R11).bl hb13
  have P13 : Hid (PgV W13 (.agg #[.slice pa pn pc, .slice qa qn qc]) smP) := (unhide P11).below hb13 (Nat.le_refl _)
  have B13 : Hid (Bx W13 2 bb [.slice pa pn pc, .slice qa qn qc]) := (unhide B11).fr (S := fun _ => False) (Fr.of_below hb13) (fun e => e)
  clear hb13 F11 R11 P11 B11
  clear hown hown2 hgrow hnil hat hsz12 HB12 O12
  go_wp2_with fail
  refine (decP_any (unhide N13) (fun b hb => by rcases List.mem_append.1 hb with q | q; exact sm_bok b q; (rw [List.mem_singleton] at q; subst q; exact ⟨by decide, by decide⟩)) (by decide) ((unhide HL).blw (unhide F13) (unhide HG))).mono ?_
  rintro e W14 ⟨ca14, cn14, cc14, fa14, fn14, fc14, rfl, hb14, -, -⟩
  rw [sm_2]
  have F14 : Hid (Below w.heap.size w W14) := (unhide F13).trans (hb14.mono (unhide F13).size)
  have R14 : Hid (Rd W14 (.slice (some ⟨w.heap.size, 0, none⟩) 17 17) smB) := (unhide R13).bl hb14
  have P14 : Hid (PgV W14 (.agg #[.slice pa pn pc, .slice qa qn qc]) smP) := (unhide P13).below hb14 (Nat.le_refl _)
  have B14 : Hid (Bx W14 2 bb [.slice pa pn pc, .slice qa qn qc]) := (unhide B13).fr (S := fun _ => False) (Fr.of_below hb14) (fun e => e)
  clear hb14 F13 R13 P13 B13
  obtain ⟨W15, eW15⟩ : ∃ W15, Hid (W15 = W14.alloc (.cells #[.slice ca14 cn14 cc14, .slice fa14 fn14 fc14] 25)) := ⟨_, rfl⟩
  have hb15 : Below W14.heap.size W14 W15 := by rw [unhide eW15]; exact (Below.refl _ _).alloc (Nat.le_refl _) _
  have F15 : Hid (Below w.heap.size w W15) := (unhide F14).trans (hb15.mono (unhide F14).size)
  have R15 : Hid (Rd W15 (.slice (some ⟨w.heap.size, 0, none⟩) 17 17) smB) := (unhide R14).bl hb15
  have P15 : Hid (PgV W15 (.agg #[.slice pa pn pc, .slice qa qn qc]) smP) := (unhide P14).below hb15 (Nat.le_refl _)
  have B15 : Hid (Bx W15 2 bb [.slice pa pn pc, .slice qa qn qc]) := (unhide B14).fr (S := fun _ => False) (Fr.of_below hb15) (fun e => e)
  clear hb15 F14 R14 P14 B14
  go_wp2_with fail
  rw [← unhide eW15]
  clear eW15
  clear N13
  refine (copyBytes_any _ smB W15 (unhide R15) (by decide)).mono ?_
  rintro e W16 ⟨v16, rfl, ho16, hb16⟩
  have O16 : Hid (W16.ownsRow W15.heap.size 5 1 v16 17 (smB.map By)) := ho16
  have hsz16 := hb16.size
  have HB16 := hide hb16
  clear hb16 ho16
  obtain ⟨g, off, cap, rfl, hcap, hmx, hlt, hcs⟩ := Ro.full (Ro.of_own (unhide O16)) (by decide)
  have c3 : W16.cell? ⟨g, off + 3, none⟩ = some (.int .u8 1) := hcs 3 (by decide)
  have z3 : W16.frozen? ⟨g, off + 3, none⟩ = false := Ro.free (Ro.of_own (unhide O16)) rfl (off + 3)
  have hgl : Hid (W15.heap.size ≤ g) := ((unhide O16).lt g rfl).1
  obtain ⟨W17, eW17⟩ : ∃ W17, Hid (W17 = W16.setCell ⟨g, off + 3, none⟩ (.int .u8 5)) := ⟨_, rfl⟩
  have N17 : Hid (Rd W17 (.slice (some ⟨g, off, none⟩) 17 cap) (smB.set 3 5)) := by
    rw [unhide eW17]
    have h := (Ro.of_own (unhide O16)).sets rfl (o := off + 3) (m := 17) (vs := [.int .u8 5]) (ys := (smB.set 3 5).map By) (by omega) (by simp; omega) hcap rfl (fun j hj => by
      by_cases q : j = 3
      · subst q; rw [if_pos (by simp)]; simp [By, smB]
      · rw [if_neg (by simp; omega), List.map_set, List.getElem?_set_ne (by omega)]) (fun j hj q => by omega)
    exact Rd.of_ro h.1
  have hb17 : Below W15.heap.size W15 W17 := by
    rw [unhide eW17]
    exact (((Fr.of_below (S := fun _ => False) (unhide HB16))).setCell ⟨g, off + 3, none⟩ (.inl (unhide hgl)) _).below (Nat.le_refl _) (fun _ _ e => e)
  have F17 : Hid (Below w.heap.size w W17) := (unhide F15).trans (hb17.mono (unhide F15).size)
  have R17 : Hid (Rd W17 (.slice (some ⟨w.heap.size, 0, none⟩) 17 17) smB) := (unhide R15).bl hb17
  have P17 : Hid (PgV W17 (.agg #[.slice pa pn pc, .slice qa qn qc]) smP) := (unhide P15).below hb17 (Nat.le_refl _)
  have B17 : Hid (Bx W17 2 bb [.slice pa pn pc, .slice qa qn qc]) := (unhide B15).fr (S := fun _ => False) (Fr.of_below hb17) (fun e => e)
  clear hb17 F15 R15 P15 B15
  clear hcs hsz16 HB16 O16 hcap hmx hgl
  go_wp2_with fail
  rw [← unhide eW17]
  clear eW17 c3 z3 hlt
  refine (decP_any (unhide N17) (by have : ∀ b ∈ smB.set 3 5, 0 ≤ b ∧ b < 256 := by decide
                                    exact this) (by decide) ((unhide HL).blw (unhide F17) (unhide HG))).mono ?_
  rintro e W18 ⟨ca18, cn18, cc18, fa18, fn18, fc18, rfl, hb18, -, -⟩
  rw [sm_3]
  have F18 : Hid (Below w.heap.size w W18) := (unhide F17).trans (hb18.mono (unhide F17).size)
  have R18 : Hid (Rd W18 (.slice (some ⟨w.heap.size, 0, none⟩) 17 17) smB) := (unhide R17).bl hb18
  have P18 : Hid (PgV W18 (.agg #[.slice pa pn pc, .slice qa qn qc]) smP) := (unhide P17).below hb18 (Nat.le_refl _)
  have B18 : Hid (Bx W18 2 bb [.slice pa pn pc, .slice qa qn qc]) := (unhide B17).fr (S := fun _ => False) (Fr.of_below hb18) (fun e => e)
  clear hb18 F17 R17 P17 B17
  obtain ⟨W19, eW19⟩ : ∃ W19, Hid (W19 = W18.alloc (.cells #[.slice ca18 cn18 cc18, .slice fa18 fn18 fc18] 25)) := ⟨_, rfl⟩
  have hb19 : Below W18.heap.size W18 W19 := by rw [unhide eW19]; exact (Below.refl _ _).alloc (Nat.le_refl _) _
  have F19 : Hid (Below w.heap.size w W19) := (unhide F18).trans (hb19.mono (unhide F18).size)
  have R19 : Hid (Rd W19 (.slice (some ⟨w.heap.size, 0, none⟩) 17 17) smB) := (unhide R18).bl hb19
  have P19 : Hid (PgV W19 (.agg #[.slice pa pn pc, .slice qa qn qc]) smP) := (unhide P18).below hb19 (Nat.le_refl _)
  have B19 : Hid (Bx W19 2 bb [.slice pa pn pc, .slice qa qn qc]) := (unhide B18).fr (S := fun _ => False) (Fr.of_below hb19) (fun e => e)
  clear hb19 F18 R18 P18 B18
  go_wp2_with fail
  rw [← unhide eW19]
  clear eW19
  clear N17
  refine (decP_any (Or.inl ⟨rfl, rfl⟩) (fun b hb => by simp at hb) (by decide) ((unhide HL).blw (unhide F19) (unhide HG))).mono ?_
  rintro e W20 ⟨ca20, cn20, cc20, fa20, fn20, fc20, rfl, hb20, -, -⟩
  rw [sm_4]
  have F20 : Hid (Below w.heap.size w W20) := (unhide F19).trans (hb20.mono (unhide F19).size)
  have R20 : Hid (Rd W20 (.slice (some ⟨w.heap.size, 0, none⟩) 17 17) smB) := (unhide R19).bl hb20
  have P20 : Hid (PgV W20 (.agg #[.slice pa pn pc, .slice qa qn qc]) smP) := (unhide P19).below hb20 (Nat.le_refl _)
  have B20 : Hid (Bx W20 2 bb [.slice pa pn pc, .slice qa qn qc]) := (unhide B19).fr (S := fun _ => False) (Fr.of_below hb20) (fun e => e)
  clear hb20 F19 R19 P19 B19
  obtain ⟨W21, eW21⟩ : ∃ W21, Hid (W21 = W20.alloc (.cells #[.slice ca20 cn20 cc20, .slice fa20 fn20 fc20] 25)) := ⟨_, rfl⟩
  have hb21 : Below W20.heap.size W20 W21 := by rw [unhide eW21]; exact (Below.refl _ _).alloc (Nat.le_refl _) _
  have F21 : Hid (Below w.heap.size w W21) := (unhide F20).trans (hb21.mono (unhide F20).size)
  have R21 : Hid (Rd W21 (.slice (some ⟨w.heap.size, 0, none⟩) 17 17) smB) := (unhide R20).bl hb21
  have P21 : Hid (PgV W21 (.agg #[.slice pa pn pc, .slice qa qn qc]) smP) := (unhide P20).below hb21 (Nat.le_refl _)
  have B21 : Hid (Bx W21 2 bb [.slice pa pn pc, .slice qa qn qc]) := (unhide B20).fr (S := fun _ => False) (Fr.of_below hb21) (fun e => e)
  clear hb21 F20 R20 P20 B20
  go_wp2_with fail
  rw [← unhide eW21]
  clear eW21
  have SS : Bx W21 2 bb [.slice pa pn pc, .slice qa qn qc] := unhide B21
  refine wp_region_held_drew (S := fun wx => Bx wx 2 bb [.slice pa pn pc, .slice qa qn qc]) (by kernel_rfl) SS (fun hHeld => ?_)
  refine wpAnyH_take (i := 0) (oi := _) (v := .int .i64 0) rfl (by kernel_rfl) (by kernel_rfl) (by kernel_rfl) (fun _ _ _ h => h) (Or.inl ⟨by rfl, (by intro wx hSw; go_simp)⟩) (by assumption) ?_
  refine wpAnyH_take (i := 1) (oi := _) (v := .bool false) rfl (by kernel_rfl) (by kernel_rfl) (by kernel_rfl) (fun _ _ _ h => h) (Or.inl ⟨by rfl, (by intro wx hSw; go_simp)⟩) (by assumption) ?_
  refine wpAnyH_take (i := 2) (oi := _) (v := .bool false) rfl (by kernel_rfl) (by kernel_rfl) (by kernel_rfl) (fun _ _ _ h => h) (Or.inl ⟨by rfl, (by intro wx hSw; go_simp)⟩) (by assumption) ?_
  refine wpAnyH_take (i := 3) (oi := _) (v := .agg #[.slice pa pn pc, .slice qa qn qc]) rfl (by kernel_rfl) (by kernel_rfl) (by kernel_rfl) (fun _ _ _ h => h) (Or.inl ⟨by rfl, (by intro wx hSw; have c0 := Bx.cell (j := 0) hSw rfl; have c1 := Bx.cell (j := 1) hSw rfl; clear hSw; go_simp)⟩) (by assumption) ?_
  go_simp
  refine wpAnyH_ready (rs := [4]) (by kernel_rfl) (by simp) ?_
  refine AllReadyH.cons (o := _) rfl (fun K hK => ?_) AllReadyH.nil
  go_simp
  refine (small_any W21.drew).mono ?_
  rintro e W22 ⟨ca', cn', cc', fa', fn', fc', rfl, hp22, hb22⟩
  have hb22 : Below W21.heap.size W21 W22 := ((Fr.refl (fun _ => False) W21).drew.below (Nat.le_refl _) (fun _ _ e => e)).trans hb22
  have Q22 := hide hp22
  have F22 : Hid (Below w.heap.size w W22) := (unhide F21).trans (hb22.mono (unhide F21).size)
  have P22 : Hid (PgV W22 (.agg #[.slice pa pn pc, .slice qa qn qc]) smP) := (unhide P21).below hb22 (Nat.le_refl _)
  have B22 : Hid (Bx W22 2 bb [.slice pa pn pc, .slice qa qn qc]) := (unhide B21).fr (S := fun _ => False) (Fr.of_below hb22) (fun e => e)
  clear hb22 F21 P21 B21
  clear hp22
  go_simp
  refine hK.out _ _ (unhide B22) (fun hHeld1 => ?_)
  clear hK K
  refine wpAnyH_ready (rs := [5]) (by kernel_rfl) (by simp) ?_
  refine AllReadyH.cons (o := _) rfl (fun K hK => ?_) AllReadyH.nil
  go_simp
  refine (sameP_any (w := W22) (unhide P22) (unhide Q22) (by decide) (by decide) (by decide)).mono ?_
  rintro e W23 ⟨rfl, hb23⟩
  have F23 : Hid (Below w.heap.size w W23) := (unhide F22).trans (hb23.mono (unhide F22).size)
  have B23 : Hid (Bx W23 2 bb [.slice pa pn pc, .slice qa qn qc]) := (unhide B22).fr (S := fun _ => False) (Fr.of_below hb23) (fun e => e)
  clear hb23 F22 B22
  go_simp
  refine hK.out _ _ (unhide B23) (fun hHeld2 => ?_)
  clear hK K
  refine wpAnyH_take (i := 6) (oi := _) (v := .bool false) rfl (by kernel_rfl) (by kernel_rfl) (by kernel_rfl) (fun _ _ _ h => h) (Or.inl ⟨by rfl, (by intro wx hSw; go_simp)⟩) (by assumption) ?_
  go_simp
  refine wpAnyH_take (i := 7) (oi := _) (v := .bool false) rfl (by kernel_rfl) (by kernel_rfl) (by kernel_rfl) (fun _ _ _ h => h) (Or.inl ⟨by rfl, (by intro wx hSw; go_simp)⟩) (by assumption) ?_
  go_simp
  refine wpAnyH_done (by kernel_rfl) ?_ _
  go_wp2_with fail
  go_ret
  exact ⟨rfl, unhide F23⟩
end Go.Proofs.YtlogmdldjmkkjaaGreatDoor
