/-
  The chapter's examples, and the greatest numbers.
-/
import Derived.Test.YtnfinplkeefdgaaBegins
import Derived.Lib.SlBytesConst
namespace Go.Proofs.Ytnfinplkeefdgaa
open Go.RowKit

/-- A string's bytes in a new slice. -/
theorem rd_of_string (w : World) (s : ByteArray) (hs : s.size ≤ 140737488355328) (fr : Nat × Nat) :
    Rd ((w.alloc (.cells (bytesRow s (grownCap w s.size 0 5)) 5 fr)).drew) (.slice (some ⟨w.heap.size, 0, none⟩) s.size (grownCap w s.size 0 5)) (strI s) := by
  have hge := grownCap_ge w s.size 0 5
  have hle := grownCap_le_maxLen w s.size 0 5 (by unfold maxLen; omega)
  refine .inr ⟨w.heap.size, 0, _, by rw [strI_length], by rw [strI_length]; exact hge, hle, by simp, fun i hi => ?_⟩
  rw [strI_length] at hi
  have h := World.cell?_alloc_mark w (bytesRow s (grownCap w s.size 0 5)) 5 fr i
  rw [Nat.zero_add]
  refine h.trans ?_
  unfold bytesRow
  rw [Array.getElem?_append_left (by simpa using hi)]
  have hi' : i < s.data.size := hi
  simp [strI, List.getD, Array.getElem?_eq_getElem hi']

theorem newReader_str (w : World) (s : ByteArray) (n : Nat) (bs : List Int) (fr : Nat × Nat) (hn : s.size = n) (hbs : strI s = bs) (hs : n ≤ 140737488355328) :
    Calls Try.prog 10 #[.slice (some ⟨w.heap.size, 0, none⟩) n (grownCap w n 0 5)] ((w.alloc (.cells (bytesRow s (grownCap w n 0 5)) 5 fr)).drew) fun e w' => ∃ r v2, e = .returned (.pointer (some ⟨r, 0, none⟩)) ∧ w.heap.size ≤ r ∧ Rdr w' r v2 bs 0 ∧ Below w.heap.size w w' := by
  subst hn hbs
  refine (newReader_any _ (strI s) _ (rd_of_string w s hs fr) (by rw [strI_length]; exact hs)).mono ?_
  rintro e w' ⟨r, v2, rfl, hr, hR, hB⟩
  have hz : ((w.alloc (.cells (bytesRow s (grownCap w s.size 0 5)) 5 fr)).drew).heap.size = w.heap.size + 1 := by simp
  rw [hz] at hr hB
  exact ⟨r, v2, rfl, by omega, hR, ((Below.refl _ _).alloc (Nat.le_refl _) _).drew.trans (hB.mono (by omega))⟩

theorem newReader_lit (w : World) (C : Array Value) (n : Nat) (bs : List Int) (fr : Nat × Nat) (hC : C = (bs.map By).toArray) (hn : bs.length = n) (hs : n ≤ 140737488355328) :
    Calls Try.prog 10 #[.slice (some ⟨w.heap.size, 0, none⟩) n n] (w.alloc (.cells C 5 fr)) fun e w' => ∃ r v2, e = .returned (.pointer (some ⟨r, 0, none⟩)) ∧ w.heap.size ≤ r ∧ Rdr w' r v2 bs 0 ∧ Below w.heap.size w w' := by
  subst hn hC
  refine (newReader_any _ bs _ (.inr ⟨w.heap.size, 0, _, rfl, Nat.le_refl _, by unfold maxLen; omega, by simp, fun i hi => ?_⟩) hs).mono ?_
  · rw [Nat.zero_add, World.cell?_alloc_mark]
    simp [By, List.getD, hi]
  · rintro e w' ⟨r, v2, rfl, hr, hR, hB⟩
    have hz : (w.alloc (.cells (bs.map By).toArray 5 fr)).heap.size = w.heap.size + 1 := by simp
    rw [hz] at hr hB
    exact ⟨r, v2, rfl, by omega, hR, ((Below.refl _ _).alloc (Nat.le_refl _) _).trans (hB.mono (by omega))⟩

theorem chainR {w w1 w2 : World} {r : Nat} (h : Below w.heap.size w w1) (hr : w.heap.size ≤ r) (f : RFr r w1 w2) : Below w.heap.size w w2 :=
  h.trans (f.below h.size (by intro k hk e; omega))
theorem chainB {w w1 w2 : World} (h : Below w.heap.size w w1) (f : Below w1.heap.size w1 w2) : Below w.heap.size w w2 := h.trans (f.mono h.size)

set_option maxHeartbeats 3200000 in
set_option maxRecDepth 100000 in
theorem greatest_any (w : World) : Calls Try.prog 17 #[] w fun e w' => e = .returned (.bool true) ∧ Below w.heap.size w w' := by
  have hcs := fun (s : ByteArray) (w : World) => run_bytes_of_string (P := Try.prog) w 9 22 5 s Try.underlying9 Try.underlying22 Try.underlying5
  have kc := fun (w : World) (C : Array Value) (n c : Nat) => Lib.run_convert_bytes_const (P := Try.prog) w 22 5 C n c Try.underlying22 Try.underlying5
  go_enter Try.func17, Try.ntmps17
  go_wp2_with fail
  refine (newReader_str w _ 10 [255, 255, 255, 255, 255, 255, 255, 255, 255, 1] _ rfl (by decide +kernel) (by omega)).mono ?_
  rintro e w1 ⟨r1, v1, rfl, hr1, hR1, hB1⟩
  have HB1 := hide hB1
  have hq1 : w.heap.size ≤ r1 := by omega
  have HR1 := hide hR1
  clear hR1 hB1 hr1
  go_wp2_with fail
  refine (rCount_any r1 v1 [255, 255, 255, 255, 255, 255, 255, 255, 255, 1] 0 9223372036854775807 w1 (unhide HR1) (by unfold BOk; decide) (by omega)).mono ?_
  rw [show rres (.int .i64 0) (gNum (fun x => .int .i64 x) (unumMost 9223372036854775807 [255, 255, 255, 255, 255, 255, 255, 255, 255, 1])) [255, 255, 255, 255, 255, 255, 255, 255, 255, 1] 0 = ((.int .i64 0), [255, 255, 255, 255, 255, 255, 255, 255, 255, 1], 5) from by kernel_rfl]
  rintro e w2 ⟨rfl, v2, hR2, hF2⟩
  have HB2 := hide (chainR (unhide HB1) hq1 hF2)
  have HR2 := hide hR2
  clear hR2 hF2
  dsimp only
  go_wp2_with fail
  refine (rErr_any r1 v2 [255, 255, 255, 255, 255, 255, 255, 255, 255, 1] (5) w2 (unhide HR2)).mono ?_
  rintro e wq ⟨rfl, hwq⟩
  rw [hwq]
  clear hwq wq
  go_wp2_with fail
  refine (rLeft_any r1 v2 [255, 255, 255, 255, 255, 255, 255, 255, 255, 1] (5) w2 (unhide HR2)).mono ?_
  rintro e wq ⟨rfl, hwq⟩
  rw [hwq]
  clear hwq wq
  go_wp2_with fail
  refine (newReader_lit w2 _ 10 [128, 128, 128, 128, 128, 128, 128, 128, 128, 1] _ rfl rfl (by omega)).mono ?_
  rintro e w5 ⟨r5, v5, rfl, hr5, hR5, hB5⟩
  have HB5 := hide (chainB (unhide HB2) hB5)
  have hq5 : w.heap.size ≤ r5 := Nat.le_trans (unhide HB2).size hr5
  have HR5 := hide hR5
  clear hR5 hB5 hr5
  go_wp2_with fail
  refine (rText_any r5 v5 [128, 128, 128, 128, 128, 128, 128, 128, 128, 1] 0 9223372036854775807 w5 (unhide HR5) (by unfold BOk; decide) (by omega)).mono ?_
  rw [show rres (.string ByteArray.empty) (gText 9223372036854775807 [128, 128, 128, 128, 128, 128, 128, 128, 128, 1]) [128, 128, 128, 128, 128, 128, 128, 128, 128, 1] 0 = ((.string ByteArray.empty), [128, 128, 128, 128, 128, 128, 128, 128, 128, 1], 5) from by kernel_rfl]
  rintro e w6 ⟨rfl, v6, hR6, hF6⟩
  have HB6 := hide (chainR (unhide HB5) hq5 hF6)
  have HR6 := hide hR6
  clear hR6 hF6
  dsimp only
  go_wp2_with fail
  refine (rErr_any r5 v6 [128, 128, 128, 128, 128, 128, 128, 128, 128, 1] (5) w6 (unhide HR6)).mono ?_
  rintro e wq ⟨rfl, hwq⟩
  rw [hwq]
  clear hwq wq
  go_wp2_with fail
  refine (newReader_str w6 _ 11 [255, 255, 255, 255, 255, 255, 255, 255, 255, 129, 1] _ rfl (by decide +kernel) (by omega)).mono ?_
  rintro e w8 ⟨r8, v8, rfl, hr8, hR8, hB8⟩
  have HB8 := hide (chainB (unhide HB6) hB8)
  have hq8 : w.heap.size ≤ r8 := Nat.le_trans (unhide HB6).size hr8
  have HR8 := hide hR8
  clear hR8 hB8 hr8
  go_wp2_with fail
  refine (rUint_any r8 v8 [255, 255, 255, 255, 255, 255, 255, 255, 255, 129, 1] 0 w8 (unhide HR8) (by unfold BOk; decide)).mono ?_
  rw [show rres (.int .u64 0) (gNum (fun x => .int .u64 x) (unum 0 0 [255, 255, 255, 255, 255, 255, 255, 255, 255, 129, 1])) [255, 255, 255, 255, 255, 255, 255, 255, 255, 129, 1] 0 = ((.int .u64 0), [255, 255, 255, 255, 255, 255, 255, 255, 255, 129, 1], 4) from by kernel_rfl]
  rintro e w9 ⟨rfl, v9, hR9, hF9⟩
  have HB9 := hide (chainR (unhide HB8) hq8 hF9)
  have HR9 := hide hR9
  clear hR9 hF9
  dsimp only
  go_wp2_with fail
  refine (rErr_any r8 v9 [255, 255, 255, 255, 255, 255, 255, 255, 255, 129, 1] (4) w9 (unhide HR9)).mono ?_
  rintro e wq ⟨rfl, hwq⟩
  rw [hwq]
  clear hwq wq
  go_wp2_with fail
  refine (rLeft_any r8 v9 [255, 255, 255, 255, 255, 255, 255, 255, 255, 129, 1] (4) w9 (unhide HR9)).mono ?_
  rintro e wq ⟨rfl, hwq⟩
  rw [hwq]
  clear hwq wq
  go_wp2_with fail
  refine (newReader_str w9 _ 10 [255, 255, 255, 255, 255, 255, 255, 255, 255, 2] _ rfl (by decide +kernel) (by omega)).mono ?_
  rintro e w12 ⟨r12, v12, rfl, hr12, hR12, hB12⟩
  have HB12 := hide (chainB (unhide HB9) hB12)
  have hq12 : w.heap.size ≤ r12 := Nat.le_trans (unhide HB9).size hr12
  have HR12 := hide hR12
  clear hR12 hB12 hr12
  go_wp2_with fail
  refine (rInt_any r12 v12 [255, 255, 255, 255, 255, 255, 255, 255, 255, 2] 0 w12 (unhide HR12) (by unfold BOk; decide)).mono ?_
  rw [show rres (.int .i64 0) (gNum (fun x => .int .i64 (unfoldI x)) (unum 0 0 [255, 255, 255, 255, 255, 255, 255, 255, 255, 2])) [255, 255, 255, 255, 255, 255, 255, 255, 255, 2] 0 = ((.int .i64 0), [255, 255, 255, 255, 255, 255, 255, 255, 255, 2], 4) from by kernel_rfl]
  rintro e w13 ⟨rfl, v13, hR13, hF13⟩
  have HB13 := hide (chainR (unhide HB12) hq12 hF13)
  have HR13 := hide hR13
  clear hR13 hF13
  dsimp only
  go_wp2_with fail
  refine (rErr_any r12 v13 [255, 255, 255, 255, 255, 255, 255, 255, 255, 2] (4) w13 (unhide HR13)).mono ?_
  rintro e wq ⟨rfl, hwq⟩
  rw [hwq]
  clear hwq wq
  go_wp2_with fail
  refine (newReader_str w13 _ 9 [255, 255, 255, 255, 255, 255, 255, 255, 255] _ rfl (by decide +kernel) (by omega)).mono ?_
  rintro e w15 ⟨r15, v15, rfl, hr15, hR15, hB15⟩
  have HB15 := hide (chainB (unhide HB13) hB15)
  have hq15 : w.heap.size ≤ r15 := Nat.le_trans (unhide HB13).size hr15
  have HR15 := hide hR15
  clear hR15 hB15 hr15
  go_wp2_with fail
  refine (rUint_any r15 v15 [255, 255, 255, 255, 255, 255, 255, 255, 255] 0 w15 (unhide HR15) (by unfold BOk; decide)).mono ?_
  rw [show rres (.int .u64 0) (gNum (fun x => .int .u64 x) (unum 0 0 [255, 255, 255, 255, 255, 255, 255, 255, 255])) [255, 255, 255, 255, 255, 255, 255, 255, 255] 0 = ((.int .u64 0), [255, 255, 255, 255, 255, 255, 255, 255, 255], 2) from by kernel_rfl]
  rintro e w16 ⟨rfl, v16, hR16, hF16⟩
  have HB16 := hide (chainR (unhide HB15) hq15 hF16)
  have HR16 := hide hR16
  clear hR16 hF16
  dsimp only
  go_wp2_with fail
  refine (rErr_any r15 v16 [255, 255, 255, 255, 255, 255, 255, 255, 255] (2) w16 (unhide HR16)).mono ?_
  rintro e wq ⟨rfl, hwq⟩
  rw [hwq]
  clear hwq wq
  go_wp2_with fail
  refine (rLeft_any r15 v16 [255, 255, 255, 255, 255, 255, 255, 255, 255] (2) w16 (unhide HR16)).mono ?_
  rintro e wq ⟨rfl, hwq⟩
  rw [hwq]
  clear hwq wq
  go_wp2
  go_ret
  exact ⟨rfl, unhide HB16⟩

/-- What a new writer writes, closed. -/
theorem written_lit (kind x : Int) (m : Nat) (s : ByteArray) (bs : List Int) (n : Nat) (w : World) (hm : x = (m : Int)) (hbs : pform kind m s = bs) (hn : bs.length = n) (hpos : 0 < n) (hk : (kind == 5) = false) (hb : 10 + s.size ≤ 140737488355328) (hx : m < 2 ^ 64) :
    Calls Try.prog 9 #[.agg #[.int .i64 0, .int .i64 kind, .int .u64 x, .string s]] w fun e w' => ∃ g cap, e = .returned (.tuple #[.slice (some ⟨g, 0, none⟩) n cap, .bool true]) ∧ Rd w' (.slice (some ⟨g, 0, none⟩) n cap) bs ∧ Below w.heap.size w w' := by
  subst hm
  refine (written_row 0 kind m s n w (by rw [hbs]; exact hn) hpos hk hb hx).mono ?_
  rintro e w' ⟨g, cap, rfl, _, _, _, hR, hB⟩
  have h := hR n (Nat.le_refl _)
  rw [hbs, List.take_of_length_le (by omega)] at h
  exact ⟨g, cap, rfl, h, hB⟩
theorem str_lit (w : World) (v : Value) (bs : List Int) (s : ByteArray) (h : Rd w v bs) (hB : BOk bs) (hs : toStr bs = s) : (convert 22 9 v).run Try.prog w = .ok (.string s) w := by
  rw [str_conv w v bs h hB, hs]

set_option maxHeartbeats 6400000 in
set_option maxRecDepth 100000 in
theorem known_any (w : World) : Calls Try.prog 3 #[] w fun e w' => e = .returned (.bool true) ∧ Below w.heap.size w w' := by
  have kc := fun (w : World) (C : Array Value) (n c : Nat) => Lib.run_convert_bytes_const (P := Try.prog) w 22 5 C n c Try.underlying22 Try.underlying5
  go_enter Try.func3, Try.ntmps3
  go_wp2_with fail
  refine (written_lit 1 18446744073709551615 18446744073709551615 ByteArray.empty [255, 255, 255, 255, 255, 255, 255, 255, 255, 1] 10 _ rfl (by kernel_rfl) rfl (by omega) (by decide) (by decide) (by decide)).mono ?_
  rintro e wa ⟨ga, ca, rfl, hRa, hBa⟩
  have HBa := hide hBa
  have HRaa := hide hRa
  clear hRa hBa
  have sA := str_lit wa _ _ ⟨#[255, 255, 255, 255, 255, 255, 255, 255, 255, 1]⟩ (unhide HRaa) (by unfold BOk; decide) (by kernel_rfl)
  go_wp2_with fail
  refine (written_lit 2 9223372036854775808 9223372036854775808 ByteArray.empty [255, 255, 255, 255, 255, 255, 255, 255, 255, 1] 10 _ rfl (by kernel_rfl) rfl (by omega) (by decide) (by decide) (by decide)).mono ?_
  rintro e wb ⟨gb, cb, rfl, hRb, hBb⟩
  have HBb := hide (chainB (unhide HBa) hBb)
  have HRab := hide ((unhide HRaa).below hBb)
  have HRbb := hide hRb
  clear hRb hBb
  go_wp2_with fail
  refine (written_lit 2 64 64 ByteArray.empty [128, 1] 2 _ rfl (by kernel_rfl) rfl (by omega) (by decide) (by decide) (by decide)).mono ?_
  rintro e wc ⟨gc, cc, rfl, hRc, hBc⟩
  have HBc := hide (chainB (unhide HBb) hBc)
  have HRac := hide ((unhide HRab).below hBc)
  have HRbc := hide ((unhide HRbb).below hBc)
  have HRcc := hide hRc
  clear hRc hBc
  go_wp2_with fail
  refine (written_lit 3 258 258 ByteArray.empty [0, 0, 0, 0, 0, 0, 1, 2] 8 _ rfl (by kernel_rfl) rfl (by omega) (by decide) (by decide) (by decide)).mono ?_
  rintro e wd ⟨gd, cd, rfl, hRd, hBd⟩
  have HBd := hide (chainB (unhide HBc) hBd)
  have HRad := hide ((unhide HRac).below hBd)
  have HRbd := hide ((unhide HRbc).below hBd)
  have HRcd := hide ((unhide HRcc).below hBd)
  have HRdd := hide hRd
  clear hRd hBd
  go_wp2_with fail
  refine (written_lit 4 0 0 ⟨#[97, 98]⟩ [2, 97, 98] 3 _ rfl (by kernel_rfl) rfl (by omega) (by decide) (by decide) (by decide)).mono ?_
  rintro e we ⟨ge, ce, rfl, hRe, hBe⟩
  have HBe := hide (chainB (unhide HBd) hBe)
  have HRae := hide ((unhide HRad).below hBe)
  have HRbe := hide ((unhide HRbd).below hBe)
  have HRce := hide ((unhide HRcd).below hBe)
  have HRde := hide ((unhide HRdd).below hBe)
  have HRee := hide hRe
  clear hRe hBe
  clear sA
  have sa := str_lit we _ _ ⟨#[255, 255, 255, 255, 255, 255, 255, 255, 255, 1]⟩ (unhide HRae) (by unfold BOk; decide) (by kernel_rfl)
  have sb := str_lit we _ _ ⟨#[255, 255, 255, 255, 255, 255, 255, 255, 255, 1]⟩ (unhide HRbe) (by unfold BOk; decide) (by kernel_rfl)
  have sc := str_lit we _ _ ⟨#[128, 1]⟩ (unhide HRce) (by unfold BOk; decide) (by kernel_rfl)
  have sd := str_lit we _ _ ⟨#[0, 0, 0, 0, 0, 0, 1, 2]⟩ (unhide HRde) (by unfold BOk; decide) (by kernel_rfl)
  have se := str_lit we _ _ ⟨#[2, 97, 98]⟩ (unhide HRee) (by unfold BOk; decide) (by kernel_rfl)
  go_wp2_with fail
  refine (newReader_lit we _ 4 [2, 97, 98, 99] _ rfl rfl (by omega)).mono ?_
  rintro e w1 ⟨r1, v1, rfl, hr1, hR1, hB1⟩
  have HB1 := hide (chainB (unhide HBe) hB1)
  have hq1 : w.heap.size ≤ r1 := Nat.le_trans (unhide HBe).size hr1
  have HR1 := hide hR1
  clear hR1 hB1 hr1
  clear sa sb sc sd se
  go_wp2_with fail
  refine (rText_any r1 v1 [2, 97, 98, 99] 0 2 w1 (unhide HR1) (by unfold BOk; decide) (by omega)).mono ?_
  rw [show rres (.string ByteArray.empty) (gText 2 [2, 97, 98, 99]) [2, 97, 98, 99] 0 = (.string ⟨#[97, 98]⟩, [99], 0) from by kernel_rfl]
  rintro e w2 ⟨rfl, v2, hR2, hF2⟩
  have HB2 := hide (chainR (unhide HB1) hq1 hF2)
  have HR2 := hide hR2
  clear hR2 hF2
  dsimp only
  go_wp2_with fail
  refine (rLeft_any r1 v2 [99] (0) w2 (unhide HR2)).mono ?_
  rintro e wq ⟨rfl, hwq⟩
  rw [hwq]
  clear hwq wq
  go_wp2_with fail
  refine (rEnd_any r1 v2 [99] (0) w2 (unhide HR2)).mono ?_
  rintro e wq ⟨rfl, hwq⟩
  rw [hwq]
  clear hwq wq
  go_wp2_with fail
  refine (rByte_any r1 v2 [99] 0 w2 (unhide HR2)).mono ?_
  rw [show rres (.int .u8 0) (gByte [99]) [99] 0 = (.int .u8 99, [], 0) from by kernel_rfl]
  rintro e w5 ⟨rfl, v5, hR5, hF5⟩
  have HB5 := hide (chainR (unhide HB2) hq1 hF5)
  have HR5 := hide hR5
  clear hR5 hF5
  dsimp only
  go_wp2_with fail
  refine (rEnd_any r1 v5 [] (0) w5 (unhide HR5)).mono ?_
  rintro e wq ⟨rfl, hwq⟩
  rw [hwq]
  clear hwq wq
  go_wp2_with fail
  refine (newReader_lit w5 _ 3 [5, 97, 98] _ rfl rfl (by omega)).mono ?_
  rintro e w7 ⟨r7, v7, rfl, hr7, hR7, hB7⟩
  have HB7 := hide (chainB (unhide HB5) hB7)
  have hq7 : w.heap.size ≤ r7 := Nat.le_trans (unhide HB5).size hr7
  have HR7 := hide hR7
  clear hR7 hB7 hr7
  go_wp2_with fail
  refine (rText_any r7 v7 [5, 97, 98] 0 4 w7 (unhide HR7) (by unfold BOk; decide) (by omega)).mono ?_
  rw [show rres (.string ByteArray.empty) (gText 4 [5, 97, 98]) [5, 97, 98] 0 = ((.string ByteArray.empty), [5, 97, 98], 5) from by kernel_rfl]
  rintro e w8 ⟨rfl, v8, hR8, hF8⟩
  have HB8 := hide (chainR (unhide HB7) hq7 hF8)
  have HR8 := hide hR8
  clear hR8 hF8
  dsimp only
  go_wp2_with fail
  refine (rErr_any r7 v8 [5, 97, 98] (5) w8 (unhide HR8)).mono ?_
  rintro e wq ⟨rfl, hwq⟩
  rw [hwq]
  clear hwq wq
  go_wp2_with fail
  refine (rLeft_any r7 v8 [5, 97, 98] (5) w8 (unhide HR8)).mono ?_
  rintro e wq ⟨rfl, hwq⟩
  rw [hwq]
  clear hwq wq
  go_wp2_with fail
  refine (newReader_lit w8 _ 2 [128, 0] _ rfl rfl (by omega)).mono ?_
  rintro e w11 ⟨r11, v11, rfl, hr11, hR11, hB11⟩
  have HB11 := hide (chainB (unhide HB8) hB11)
  have hq11 : w.heap.size ≤ r11 := Nat.le_trans (unhide HB8).size hr11
  have HR11 := hide hR11
  clear hR11 hB11 hr11
  go_wp2_with fail
  refine (rUint_any r11 v11 [128, 0] 0 w11 (unhide HR11) (by unfold BOk; decide)).mono ?_
  rw [show rres (.int .u64 0) (gNum (fun x => .int .u64 x) (unum 0 0 [128, 0])) [128, 0] 0 = ((.int .u64 0), [128, 0], 4) from by kernel_rfl]
  rintro e w12 ⟨rfl, v12, hR12, hF12⟩
  have HB12 := hide (chainR (unhide HB11) hq11 hF12)
  have HR12 := hide hR12
  clear hR12 hF12
  dsimp only
  go_wp2_with fail
  refine (rLeft_any r11 v12 [128, 0] (4) w12 (unhide HR12)).mono ?_
  rintro e wq ⟨rfl, hwq⟩
  rw [hwq]
  clear hwq wq
  go_wp2_with fail
  refine (rEnd_any r11 v12 [128, 0] (4) w12 (unhide HR12)).mono ?_
  rintro e wq ⟨rfl, hwq⟩
  rw [hwq]
  clear hwq wq
  go_wp2_with fail
  refine (greatest_any w12).mono ?_
  rintro e wz ⟨rfl, hBz⟩
  have HBz := hide (chainB (unhide HB12) hBz)
  clear hBz
  go_wp2
  go_ret
  exact ⟨rfl, unhide HBz⟩
end Go.Proofs.Ytnfinplkeefdgaa
