/-
  readConst.
-/
import Derived.Test.YtpfogphpeegfdaaGreatDoorDHl
namespace Go.Proofs.YtpfogphpeegfdaaGreatDoor
open Go.RowKit
set_option linter.unusedVariables false
set_option linter.unusedSimpArgs false

/-- A constant, as it is read. -/
def rdC (s : Sr) : Cn × Int × Sr :=
  if (byt s).1 = 3 then (⟨3, wrap64 ((wrd (byt s).2).1 : Int), ByteArray.empty⟩, (wrd (byt s).2).2.2, (wrd (byt s).2).2)
  else if (byt s).1 = 4 then (⟨4, 0, (txt 4096 (byt s).2).1⟩, (txt 4096 (byt s).2).2.2, (txt 4096 (byt s).2).2)
  else if (byt s).2.2 = 0 then (⟨0, 0, ByteArray.empty⟩, 4, (byt s).2) else (⟨(byt s).1, 0, ByteArray.empty⟩, (byt s).2.2, (byt s).2)
theorem byt_lt {s : Sr} (h : BOk s.1) : 0 ≤ (byt s).1 ∧ (byt s).1 < 256 := by
  unfold byt
  by_cases q : s.2 = 0
  · rw [if_pos q]
    obtain ⟨s1, s2⟩ := s
    cases s1 with
    | nil => simp
    | cons b t => exact h b (by simp)
  · rw [if_neg q]; simp
theorem load73 {w : World} {b : Nat} {x y u : Value} (h : Bx w 3 b [x, y, u]) : (loadVar 73 ⟨b, 0, none⟩).run Tryz.prog w = .ok (.agg #[x, y, u]) w := by
  have c0 := h.cell (j := 0) rfl
  have c1 := h.cell (j := 1) rfl
  have c2 := h.cell (j := 2) rfl
  go_simp
set_option maxRecDepth 100000 in
set_option maxHeartbeats 3200000 in
theorem rdC_any {w : World} {r rb : Nat} {s : Sr} (h : RS w r rb s) (hrb : rb < w.heap.size) : Calls Tryz.prog 42 #[.pointer (some ⟨r, 0, none⟩)] w fun e w' => RQ r rb w (.tuple #[.agg #[.int .i64 (rdC s).1.kind, .int .i64 (rdC s).1.n, .string (rdC s).1.text], .int .i64 (rdC s).2.1]) (rdC s).2.2 e w' := by
  obtain ⟨z, hz⟩ : ∃ z, Hid (rdC s = z) := ⟨_, rfl⟩
  rw [unhide hz]
  unfold rdC at hz
  have hab : 0 ≤ (byt s).1 ∧ (byt s).1 < 256 := by obtain ⟨v, _, h2, _⟩ := id h; exact byt_lt h2
  have H1 := hide (fun (wx : World) (hx : RS wx r rb s) => byt_any hx)
  generalize byt s = a at *
  obtain ⟨kd, s1⟩ := a
  simp only at hz hab H1
  have H2 := hide (fun (wx : World) (hx : RS wx r rb s1) => wrd_any hx)
  have H3 := hide (fun (wx : World) (hx : RS wx r rb s1) => txt_any hx 4096 (by omega))
  have hr := h.lt
  have HRB := hide hrb
  obtain ⟨k0, k1⟩ := hab
  obtain ⟨W1, eW1⟩ : ∃ W1, Hid (W1 = w.alloc (.cells #[.int .i64 0, .int .i64 0, .string ⟨#[]⟩] 73)) := ⟨_, rfl⟩
  have HA : Hid (Bx W1 3 w.heap.size [.int .i64 0, .int .i64 0, .string ⟨#[]⟩]) := by rw [unhide eW1]; exact Bx.new rfl rfl
  have HF : Hid (RFr r w W1) := by rw [unhide eW1]; exact (Fr.refl _ w).alloc _
  have HS : Hid (RS W1 r rb s) := h.fr (S := fun _ => False) (by rw [unhide eW1]; exact (Fr.refl _ w).alloc _) (fun e => e) (fun e => e)
  clear h hrb
  go_enter Tryz.func42, Tryz.ntmps42
  go_wp2_with fail
  rw [← unhide eW1]
  clear eW1
  refine (unhide H1 W1 (unhide HS)).mono ?_
  rintro e X ⟨rfl, hs, hf⟩
  have ha := (unhide HA).fr hf (by omega)
  obtain ⟨W2, eW2⟩ : ∃ W2, Hid (W2 = X.alloc (.cells #[.int .i64 kd, .int .i64 0, .string ⟨#[]⟩] 73)) := ⟨_, rfl⟩
  have g : Fr (fun _ => False) X W2 := by rw [unhide eW2]; exact (Fr.refl _ _).alloc _
  have hB : Bx W2 3 X.heap.size [.int .i64 kd, .int .i64 0, .string ⟨#[]⟩] := by rw [unhide eW2]; exact Bx.new rfl rfl
  have HB := hide hB
  have HA : Hid (Bx W2 3 w.heap.size [.int .i64 0, .int .i64 0, .string ⟨#[]⟩]) := ha.fr g (fun e => e)
  have HS : Hid (RS W2 r rb s1) := hs.fr g (fun e => e) (fun e => e)
  have HF : Hid (RFr r w W2) := by rw [unhide eW2]; exact ((unhide HF).trans hf).alloc _
  have hb1w : w.heap.size < X.heap.size := ha.lt
  have c0 := hB.cell (j := 0) rfl
  clear hs hf ha g hB
  by_cases h3 : kd = 3
  · subst h3
    rw [if_pos rfl] at hz
    go_wp2_with fail
    rw [← unhide eW2]
    clear eW2 c0
    refine (unhide H2 W2 (unhide HS)).mono ?_
    rintro e X2 ⟨rfl, hs, hf⟩
    have hb := (unhide HB).fr hf (by omega)
    have ha := (unhide HA).fr hf (by omega)
    have c1 := hb.cell (j := 1) rfl
    have y1 := hb.free 1
    obtain ⟨W3, eW3⟩ : ∃ W3, Hid (W3 = X2.setCell ⟨X.heap.size, 1, none⟩ (.int .i64 (wrap64 ((wrd s1).1 : Int)))) := ⟨_, rfl⟩
    have g : Fr (fun k => k = X.heap.size) X2 W3 := by rw [unhide eW3]; exact fr_set _ _ _ _
    have HB : Hid (Bx W3 3 X.heap.size [.int .i64 3, .int .i64 (wrap64 ((wrd s1).1 : Int)), .string ⟨#[]⟩]) := by rw [unhide eW3]; exact hb.set (by omega) _
    have HA : Hid (Bx W3 3 w.heap.size [.int .i64 0, .int .i64 0, .string ⟨#[]⟩]) := ha.fr g (by omega)
    have HS : Hid (RS W3 r rb (wrd s1).2) := hs.fr g (by omega) (by have := unhide HRB; omega)
    have HF : Hid (RFr r w W3) := by rw [unhide eW3]; exact ((unhide HF).trans hf).setCell _ (.inl (Nat.le_of_lt hb1w)) _
    clear hs hf hb ha g
    go_wp2_with fail
    rw [← unhide eW3]
    clear eW3 c1 y1
    have SS : Bx W3 3 X.heap.size [.int .i64 3, .int .i64 (wrap64 ((wrd s1).1 : Int)), .string ⟨#[]⟩] ∧ (∃ x0 x1 x2, Bx W3 3 w.heap.size [x0, x1, x2]) := ⟨unhide HB, _, _, _, unhide HA⟩
    refine wp_region_held_drew (S := fun wx => Bx wx 3 X.heap.size [.int .i64 3, .int .i64 (wrap64 ((wrd s1).1 : Int)), .string ⟨#[]⟩] ∧ (∃ x0 x1 x2, Bx wx 3 w.heap.size [x0, x1, x2])) (by kernel_rfl) SS (fun hHeld => ?_)
    refine wpAnyH_take (i := 0) (oi := _) (v := .agg #[.int .i64 3, .int .i64 (wrap64 ((wrd s1).1 : Int)), .string ⟨#[]⟩]) rfl (by kernel_rfl) (by kernel_rfl) (by kernel_rfl) (fun _ _ _ h => h) (Or.inl ⟨by rfl, (by intro wx hSw; have c0 := hSw.1.cell (j := 0) rfl; have c1 := hSw.1.cell (j := 1) rfl; have c2 := hSw.1.cell (j := 2) rfl; clear hSw; go_simp)⟩) (by assumption) ?_
    refine wpAnyH_take (i := 1) (oi := _) (v := .pointer (some ⟨r, 0, none⟩)) rfl (by kernel_rfl) (by kernel_rfl) (by kernel_rfl) (fun _ _ _ h => h) (Or.inl ⟨by rfl, (by intro wx hSw; go_simp)⟩) (by assumption) ?_
    go_simp
    refine wpAnyH_ready (rs := [2]) (by kernel_rfl) (by simp) ?_
    refine AllReadyH.cons (o := _) rfl (fun K hK => ?_) AllReadyH.nil
    go_simp
    refine (err_any (w := W3.drew) ((unhide HS).fr (S := fun _ => False) (Fr.refl _ W3).drew (fun e => e) (fun e => e))).mono ?_
    rintro e w6 ⟨rfl, rfl⟩
    go_simp
    refine hK.out _ _ SS (fun hHeld1 => ?_)
    clear hK K
    refine wpAnyH_ready (rs := [3]) (by kernel_rfl) (by simp) ?_
    refine AllReadyH.cons (o := _) rfl (fun K2 hK2 => ?_) AllReadyH.nil
    have m0 := (unhide HA).cell (j := 0) rfl
    have y0 := (unhide HA).free 0
    have m1 := (unhide HA).cell (j := 1) rfl
    have y1 := (unhide HA).free 1
    have m2 := (unhide HA).cell (j := 2) rfl
    have y2 := (unhide HA).free 2
    go_simp
    obtain ⟨W6, eW6⟩ : ∃ W6, Hid (W6 = (((W3.setCell ⟨w.heap.size, 0, none⟩ (.int .i64 3)).setCell ⟨w.heap.size, 1, none⟩ (.int .i64 (wrap64 ((wrd s1).1 : Int)))).setCell ⟨w.heap.size, 2, none⟩ (.string ⟨#[]⟩)).drew) := ⟨_, rfl⟩
    have g : Fr (fun k => k = w.heap.size) W3 W6 := by rw [unhide eW6]; exact ((((Fr.refl (fun k => k = w.heap.size) W3).setCell ⟨w.heap.size, 0, none⟩ (.inr rfl) _).setCell ⟨w.heap.size, 1, none⟩ (.inr rfl) _).setCell ⟨w.heap.size, 2, none⟩ (.inr rfl) _).drew
    have hA6 : Bx W6 3 w.heap.size [.int .i64 3, .int .i64 (wrap64 ((wrd s1).1 : Int)), .string ⟨#[]⟩] := by
      rw [unhide eW6]
      exact ((((unhide HA).set (j := 0) (by omega) (.int .i64 3)).set (j := 1) (by omega) (.int .i64 (wrap64 ((wrd s1).1 : Int)))).set (j := 2) (by omega) (.string ⟨#[]⟩)).fr (S := fun _ => False) (Fr.refl _ _).drew (fun e => e)
    have hB6 := (unhide HB).fr g (by omega)
    have HS6 : Hid (RS W6 r rb (wrd s1).2) := (unhide HS).fr g (by omega) (by have := unhide HRB; omega)
    have HF6 : Hid (RFr r w W6) := by
      rw [unhide eW6]
      exact ((((unhide HF).setCell ⟨w.heap.size, 0, none⟩ (.inl (Nat.le_refl _)) _).setCell ⟨w.heap.size, 1, none⟩ (.inl (Nat.le_refl _)) _).setCell ⟨w.heap.size, 2, none⟩ (.inl (Nat.le_refl _)) _).drew
    rw [← unhide eW6]
    have HA6 := hide hA6
    refine hK2.out _ _ ⟨hB6, _, _, _, hA6⟩ (fun hHeld2 => ?_)
    clear hK2 K2 m0 y0 m1 y1 m2 y2 g hA6 hB6 eW6
    refine wpAnyH_take (i := 4) (oi := _) (v := .int .i64 (wrd s1).2.2) rfl (by kernel_rfl) (by kernel_rfl) (by kernel_rfl) (fun _ _ _ h => h) (Or.inl ⟨by rfl, (by intro wx hSw; go_simp)⟩) (by assumption) ?_
    refine wpAnyH_done (by kernel_rfl) ?_ _
    clear hHeld hHeld1 hHeld2 SS
    go_wp2_with fail
    refine bodyPost_ret (v := .tuple #[.agg #[.int .i64 3, .int .i64 (wrap64 ((wrd s1).1 : Int)), .string ⟨#[]⟩], .int .i64 (wrd s1).2.2]) (by rw [results_ct (fn := Tryz.f42) (p := 2) (q := 3) (t1 := 73) rfl _ _ _ (a1 := ⟨w.heap.size, 0, none⟩) rfl (load73 (unhide HA6))]; rfl) rfl ?_
    rw [← unhide hz]
    exact ⟨rfl, unhide HS6, unhide HF6⟩
  · rw [if_neg h3] at hz
    have d3 : (kd == 3) = false := by simpa using h3
    by_cases h4 : kd = 4
    · subst h4
      rw [if_pos rfl] at hz
      go_wp2_with fail
      rw [← unhide eW2]
      clear eW2 c0
      refine (unhide H3 W2 (unhide HS)).mono ?_
      rintro e X2 ⟨rfl, hs, hf⟩
      have hb := (unhide HB).fr hf (by omega)
      have ha := (unhide HA).fr hf (by omega)
      have c2 := hb.cell (j := 2) rfl
      have y2 := hb.free 2
      obtain ⟨W3, eW3⟩ : ∃ W3, Hid (W3 = X2.setCell ⟨X.heap.size, 2, none⟩ (.string (txt 4096 s1).1)) := ⟨_, rfl⟩
      have g : Fr (fun k => k = X.heap.size) X2 W3 := by rw [unhide eW3]; exact fr_set _ _ _ _
      have HB : Hid (Bx W3 3 X.heap.size [.int .i64 4, .int .i64 0, .string (txt 4096 s1).1]) := by rw [unhide eW3]; exact hb.set (by omega) _
      have HA : Hid (Bx W3 3 w.heap.size [.int .i64 0, .int .i64 0, .string ⟨#[]⟩]) := ha.fr g (by omega)
      have HS : Hid (RS W3 r rb (txt 4096 s1).2) := hs.fr g (by omega) (by have := unhide HRB; omega)
      have HF : Hid (RFr r w W3) := by rw [unhide eW3]; exact ((unhide HF).trans hf).setCell _ (.inl (Nat.le_of_lt hb1w)) _
      clear hs hf hb ha g
      go_wp2_with fail
      rw [← unhide eW3]
      clear eW3 c2 y2
      have SS : Bx W3 3 X.heap.size [.int .i64 4, .int .i64 0, .string (txt 4096 s1).1] ∧ (∃ x0 x1 x2, Bx W3 3 w.heap.size [x0, x1, x2]) := ⟨unhide HB, _, _, _, unhide HA⟩
      refine wp_region_held_drew (S := fun wx => Bx wx 3 X.heap.size [.int .i64 4, .int .i64 0, .string (txt 4096 s1).1] ∧ (∃ x0 x1 x2, Bx wx 3 w.heap.size [x0, x1, x2])) (by kernel_rfl) SS (fun hHeld => ?_)
      refine wpAnyH_take (i := 0) (oi := _) (v := .agg #[.int .i64 4, .int .i64 0, .string (txt 4096 s1).1]) rfl (by kernel_rfl) (by kernel_rfl) (by kernel_rfl) (fun _ _ _ h => h) (Or.inl ⟨by rfl, (by intro wx hSw; have c0 := hSw.1.cell (j := 0) rfl; have c1 := hSw.1.cell (j := 1) rfl; have c2 := hSw.1.cell (j := 2) rfl; clear hSw; go_simp)⟩) (by assumption) ?_
      refine wpAnyH_take (i := 1) (oi := _) (v := .pointer (some ⟨r, 0, none⟩)) rfl (by kernel_rfl) (by kernel_rfl) (by kernel_rfl) (fun _ _ _ h => h) (Or.inl ⟨by rfl, (by intro wx hSw; go_simp)⟩) (by assumption) ?_
      go_simp
      refine wpAnyH_ready (rs := [2]) (by kernel_rfl) (by simp) ?_
      refine AllReadyH.cons (o := _) rfl (fun K hK => ?_) AllReadyH.nil
      go_simp
      refine (err_any (w := W3.drew) ((unhide HS).fr (S := fun _ => False) (Fr.refl _ W3).drew (fun e => e) (fun e => e))).mono ?_
      rintro e w6 ⟨rfl, rfl⟩
      go_simp
      refine hK.out _ _ SS (fun hHeld1 => ?_)
      clear hK K
      refine wpAnyH_ready (rs := [3]) (by kernel_rfl) (by simp) ?_
      refine AllReadyH.cons (o := _) rfl (fun K2 hK2 => ?_) AllReadyH.nil
      have m0 := (unhide HA).cell (j := 0) rfl
      have y0 := (unhide HA).free 0
      have m1 := (unhide HA).cell (j := 1) rfl
      have y1 := (unhide HA).free 1
      have m2 := (unhide HA).cell (j := 2) rfl
      have y2 := (unhide HA).free 2
      go_simp
      obtain ⟨W6, eW6⟩ : ∃ W6, Hid (W6 = (((W3.setCell ⟨w.heap.size, 0, none⟩ (.int .i64 4)).setCell ⟨w.heap.size, 1, none⟩ (.int .i64 0)).setCell ⟨w.heap.size, 2, none⟩ (.string (txt 4096 s1).1)).drew) := ⟨_, rfl⟩
      have g : Fr (fun k => k = w.heap.size) W3 W6 := by rw [unhide eW6]; exact ((((Fr.refl (fun k => k = w.heap.size) W3).setCell ⟨w.heap.size, 0, none⟩ (.inr rfl) _).setCell ⟨w.heap.size, 1, none⟩ (.inr rfl) _).setCell ⟨w.heap.size, 2, none⟩ (.inr rfl) _).drew
      have hA6 : Bx W6 3 w.heap.size [.int .i64 4, .int .i64 0, .string (txt 4096 s1).1] := by
        rw [unhide eW6]
        exact ((((unhide HA).set (j := 0) (by omega) (.int .i64 4)).set (j := 1) (by omega) (.int .i64 0)).set (j := 2) (by omega) (.string (txt 4096 s1).1)).fr (S := fun _ => False) (Fr.refl _ _).drew (fun e => e)
      have hB6 := (unhide HB).fr g (by omega)
      have HS6 : Hid (RS W6 r rb (txt 4096 s1).2) := (unhide HS).fr g (by omega) (by have := unhide HRB; omega)
      have HF6 : Hid (RFr r w W6) := by
        rw [unhide eW6]
        exact ((((unhide HF).setCell ⟨w.heap.size, 0, none⟩ (.inl (Nat.le_refl _)) _).setCell ⟨w.heap.size, 1, none⟩ (.inl (Nat.le_refl _)) _).setCell ⟨w.heap.size, 2, none⟩ (.inl (Nat.le_refl _)) _).drew
      rw [← unhide eW6]
      have HA6 := hide hA6
      refine hK2.out _ _ ⟨hB6, _, _, _, hA6⟩ (fun hHeld2 => ?_)
      clear hK2 K2 m0 y0 m1 y1 m2 y2 g hA6 hB6 eW6
      refine wpAnyH_take (i := 4) (oi := _) (v := .int .i64 (txt 4096 s1).2.2) rfl (by kernel_rfl) (by kernel_rfl) (by kernel_rfl) (fun _ _ _ h => h) (Or.inl ⟨by rfl, (by intro wx hSw; go_simp)⟩) (by assumption) ?_
      refine wpAnyH_done (by kernel_rfl) ?_ _
      clear hHeld hHeld1 hHeld2 SS
      go_wp2_with fail
      refine bodyPost_ret (v := .tuple #[.agg #[.int .i64 4, .int .i64 0, .string (txt 4096 s1).1], .int .i64 (txt 4096 s1).2.2]) (by rw [results_ct (fn := Tryz.f42) (p := 2) (q := 3) (t1 := 73) rfl _ _ _ (a1 := ⟨w.heap.size, 0, none⟩) rfl (load73 (unhide HA6))]; rfl) rfl ?_
      rw [← unhide hz]
      exact ⟨rfl, unhide HS6, unhide HF6⟩
    · rw [if_neg h4] at hz
      have d4 : (kd == 4) = false := by simpa using h4
      have HER := hide (err_any (unhide HS))
      by_cases h5 : s1.2 = 0
      · rw [if_pos h5] at hz
        have d5 : (s1.2 == 0) = true := by simpa using h5
        have m0 := (unhide HA).cell (j := 0) rfl
        have m1 := (unhide HA).cell (j := 1) rfl
        have m2 := (unhide HA).cell (j := 2) rfl
        have y0 := (unhide HA).free 0
        have y1 := (unhide HA).free 1
        have y2 := (unhide HA).free 2
        clear h3 h4 h5
        go_wp2_with fail
        rw [← unhide eW2]
        clear eW2 c0
        refine (unhide HER).mono ?_
        rintro e w6 ⟨rfl, rfl⟩
        go_wp2_with fail
        have hA6 := (((unhide HA).set (j := 0) (by omega) (.int .i64 0)).set (j := 1) (by omega) (.int .i64 0)).set (j := 2) (by omega) (.string ⟨#[]⟩)
        have g : Fr (fun k => k = w.heap.size) w6 (((w6.setCell ⟨w.heap.size, 0, none⟩ (.int .i64 0)).setCell ⟨w.heap.size, 1, none⟩ (.int .i64 0)).setCell ⟨w.heap.size, 2, none⟩ (.string ⟨#[]⟩)) := (((Fr.refl (fun k => k = w.heap.size) w6).setCell ⟨w.heap.size, 0, none⟩ (.inr rfl) _).setCell ⟨w.heap.size, 1, none⟩ (.inr rfl) _).setCell ⟨w.heap.size, 2, none⟩ (.inr rfl) _
        refine bodyPost_ret (v := .tuple #[.agg #[.int .i64 0, .int .i64 0, .string ⟨#[]⟩], .int .i64 4]) (by rw [results_ct (fn := Tryz.f42) (p := 2) (q := 3) (t1 := 73) rfl _ _ _ (a1 := ⟨w.heap.size, 0, none⟩) rfl (load73 hA6)]; rfl) rfl ?_
        rw [← unhide hz]
        exact ⟨rfl, (unhide HS).fr g (by omega) (by have := unhide HRB; omega), (((unhide HF).setCell ⟨w.heap.size, 0, none⟩ (.inl (Nat.le_refl _)) _).setCell ⟨w.heap.size, 1, none⟩ (.inl (Nat.le_refl _)) _).setCell ⟨w.heap.size, 2, none⟩ (.inl (Nat.le_refl _)) _⟩
      · rw [if_neg h5] at hz
        have d5 : (s1.2 == 0) = false := by simpa using h5
        clear h3 h4 h5
        go_wp2_with fail
        rw [← unhide eW2]
        clear eW2 c0
        refine (unhide HER).mono ?_
        rintro e w6 ⟨rfl, rfl⟩
        go_wp2_with fail
        have SS : Bx w6 3 X.heap.size [.int .i64 kd, .int .i64 0, .string ⟨#[]⟩] ∧ (∃ x0 x1 x2, Bx w6 3 w.heap.size [x0, x1, x2]) := ⟨unhide HB, _, _, _, unhide HA⟩
        refine wp_region_held_drew (S := fun wx => Bx wx 3 X.heap.size [.int .i64 kd, .int .i64 0, .string ⟨#[]⟩] ∧ (∃ x0 x1 x2, Bx wx 3 w.heap.size [x0, x1, x2])) (by kernel_rfl) SS (fun hHeld => ?_)
        refine wpAnyH_take (i := 0) (oi := _) (v := .agg #[.int .i64 kd, .int .i64 0, .string ⟨#[]⟩]) rfl (by kernel_rfl) (by kernel_rfl) (by kernel_rfl) (fun _ _ _ h => h) (Or.inl ⟨by rfl, (by intro wx hSw; have c0 := hSw.1.cell (j := 0) rfl; have c1 := hSw.1.cell (j := 1) rfl; have c2 := hSw.1.cell (j := 2) rfl; clear hSw; go_simp)⟩) (by assumption) ?_
        refine wpAnyH_take (i := 1) (oi := _) (v := .pointer (some ⟨r, 0, none⟩)) rfl (by kernel_rfl) (by kernel_rfl) (by kernel_rfl) (fun _ _ _ h => h) (Or.inl ⟨by rfl, (by intro wx hSw; go_simp)⟩) (by assumption) ?_
        go_simp
        refine wpAnyH_ready (rs := [2]) (by kernel_rfl) (by simp) ?_
        refine AllReadyH.cons (o := _) rfl (fun K hK => ?_) AllReadyH.nil
        go_simp
        refine (err_any (w := w6.drew) ((unhide HS).fr (S := fun _ => False) (Fr.refl _ w6).drew (fun e => e) (fun e => e))).mono ?_
        rintro e w6 ⟨rfl, rfl⟩
        go_simp
        refine hK.out _ _ SS (fun hHeld1 => ?_)
        clear hK K
        refine wpAnyH_ready (rs := [3]) (by kernel_rfl) (by simp) ?_
        refine AllReadyH.cons (o := _) rfl (fun K2 hK2 => ?_) AllReadyH.nil
        have m0 := (unhide HA).cell (j := 0) rfl
        have y0 := (unhide HA).free 0
        have m1 := (unhide HA).cell (j := 1) rfl
        have y1 := (unhide HA).free 1
        have m2 := (unhide HA).cell (j := 2) rfl
        have y2 := (unhide HA).free 2
        go_simp
        obtain ⟨W6, eW6⟩ : ∃ W6, Hid (W6 = (((w6.setCell ⟨w.heap.size, 0, none⟩ (.int .i64 kd)).setCell ⟨w.heap.size, 1, none⟩ (.int .i64 0)).setCell ⟨w.heap.size, 2, none⟩ (.string ⟨#[]⟩)).drew) := ⟨_, rfl⟩
        have g : Fr (fun k => k = w.heap.size) w6 W6 := by rw [unhide eW6]; exact ((((Fr.refl (fun k => k = w.heap.size) w6).setCell ⟨w.heap.size, 0, none⟩ (.inr rfl) _).setCell ⟨w.heap.size, 1, none⟩ (.inr rfl) _).setCell ⟨w.heap.size, 2, none⟩ (.inr rfl) _).drew
        have hA6 : Bx W6 3 w.heap.size [.int .i64 kd, .int .i64 0, .string ⟨#[]⟩] := by
          rw [unhide eW6]
          exact ((((unhide HA).set (j := 0) (by omega) (.int .i64 kd)).set (j := 1) (by omega) (.int .i64 0)).set (j := 2) (by omega) (.string ⟨#[]⟩)).fr (S := fun _ => False) (Fr.refl _ _).drew (fun e => e)
        have hB6 := (unhide HB).fr g (by omega)
        have HS6 : Hid (RS W6 r rb s1) := (unhide HS).fr g (by omega) (by have := unhide HRB; omega)
        have HF6 : Hid (RFr r w W6) := by
          rw [unhide eW6]
          exact ((((unhide HF).setCell ⟨w.heap.size, 0, none⟩ (.inl (Nat.le_refl _)) _).setCell ⟨w.heap.size, 1, none⟩ (.inl (Nat.le_refl _)) _).setCell ⟨w.heap.size, 2, none⟩ (.inl (Nat.le_refl _)) _).drew
        rw [← unhide eW6]
        have HA6 := hide hA6
        refine hK2.out _ _ ⟨hB6, _, _, _, hA6⟩ (fun hHeld2 => ?_)
        clear hK2 K2 m0 y0 m1 y1 m2 y2 g hA6 hB6 eW6
        refine wpAnyH_take (i := 4) (oi := _) (v := .int .i64 s1.2) rfl (by kernel_rfl) (by kernel_rfl) (by kernel_rfl) (fun _ _ _ h => h) (Or.inl ⟨by rfl, (by intro wx hSw; go_simp)⟩) (by assumption) ?_
        refine wpAnyH_done (by kernel_rfl) ?_ _
        clear hHeld hHeld1 hHeld2 SS
        go_wp2_with fail
        refine bodyPost_ret (v := .tuple #[.agg #[.int .i64 kd, .int .i64 0, .string ⟨#[]⟩], .int .i64 s1.2]) (by rw [results_ct (fn := Tryz.f42) (p := 2) (q := 3) (t1 := 73) rfl _ _ _ (a1 := ⟨w.heap.size, 0, none⟩) rfl (load73 (unhide HA6))]; rfl) rfl ?_
        rw [← unhide hz]
        exact ⟨rfl, unhide HS6, unhide HF6⟩
end Go.Proofs.YtpfogphpeegfdaaGreatDoor
