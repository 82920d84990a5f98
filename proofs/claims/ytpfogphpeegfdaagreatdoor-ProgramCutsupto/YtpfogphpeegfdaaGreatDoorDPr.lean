/-
  readProgram.
-/
import Derived.Test.YtpfogphpeegfdaaGreatDoorDFl
namespace Go.Proofs.YtpfogphpeegfdaaGreatDoor
open Go.RowKit
set_option linter.unusedVariables false
set_option linter.unusedSimpArgs false

def sgn4 : List UInt8 := [80, 84, 80, 1]
/-- A program, as it is read. -/
def rdP (s : Sr) : Pg × Int :=
  if (raw 4 s).2.2 = 0 ∧ (toStr (raw 4 s).1).toList ≠ sgn4 then (⟨[], []⟩, 4)
  else if (rdL rdC 512 (raw 4 s).2).2.1 ≠ 0 then (⟨[], []⟩, (rdL rdC 512 (raw 4 s).2).2.1)
  else if (rdL rdF 128 (rdL rdC 512 (raw 4 s).2).2.2).2.1 ≠ 0 then (⟨[], []⟩, (rdL rdF 128 (rdL rdC 512 (raw 4 s).2).2.2).2.1)
  else (⟨(rdL rdC 512 (raw 4 s).2).1, (rdL rdF 128 (rdL rdC 512 (raw 4 s).2).2.2).1⟩, rEnd (rdL rdF 128 (rdL rdC 512 (raw 4 s).2).2.2).2.2.1 (rdL rdF 128 (rdL rdC 512 (raw 4 s).2).2.2).2.2.2)
theorem load27 {w : World} {b : Nat} {x y : Value} (h : Bx w 2 b [x, y]) : (loadVar 27 ⟨b, 0, none⟩).run Tryz.prog w = .ok (.agg #[x, y]) w := by
  have c0 := h.cell (j := 0) rfl
  have c1 := h.cell (j := 1) rfl
  go_simp
theorem FL.rfs {w wr : World} {fs : List Fc} {xs : List Fv} {lv : Value} (h : FL w fs xs lv wr) : Rfs wr lv fs :=
  ⟨xs, h.ln, Rx.of_ro h.ro, fun i f x hf hx => by obtain ⟨⟨a, b, c, d, e, _⟩, _⟩ := h.el i f x hf hx; exact ⟨a, b, c, Rx.of_ro d, Rx.of_ro e⟩⟩
theorem LG.low {T : Type} {w0 w wr : World} {sz : Nat} {en : T → List Value} {l : List T} {v : Value} (h : LG w sz en l v wr) (hs : w0.heap.size ≤ w.heap.size) : LG w0 sz en l v wr := ⟨h.1, fun k hk => Nat.le_trans hs (h.2 k hk)⟩
theorem FL.low {w0 w wr : World} {fs : List Fc} {xs : List Fv} {lv : Value} (h : FL w fs xs lv wr) (hs : w0.heap.size ≤ w.heap.size) : FL w0 fs xs lv wr := ⟨h.ro, fun k hk => Nat.le_trans hs (h.lo k hk), h.ln, fun i f x hf hx => ⟨(h.el i f x hf hx).1.low hs, (h.el i f x hf hx).2⟩⟩
/-- A program in memory that is new. -/
def PW (w0 w : World) (cv fv : Value) (p : Pg) : Prop := LG w0 3 enC p.consts cv w ∧ ∃ xs, FL w0 p.funcs xs fv w
theorem PW.fr {S : Nat → Prop} {w0 w w' : World} {cv fv : Value} {p : Pg} (h : PW w0 w cv fv p) (f : Fr S w w') (hn : ∀ k, w0.heap.size ≤ k → ¬ S k) : PW w0 w' cv fv p := by
  obtain ⟨h1, xs, h2⟩ := h
  exact ⟨h1.fr f hn, xs, h2.fr f hn⟩
theorem PW.pgv {w0 w : World} {cv fv : Value} {p : Pg} (h : PW w0 w cv fv p) : PgV w (.agg #[cv, fv]) p := by
  obtain ⟨h1, xs, h2⟩ := h
  exact ⟨_, _, rfl, Rx.of_ro h1.1, h2.rfs⟩
set_option maxRecDepth 100000 in
set_option maxHeartbeats 6400000 in
theorem rdP_any {w : World} {r rb : Nat} {s : Sr} (h : RS w r rb s) (hrb : rb < w.heap.size) : Calls Tryz.prog 21 #[.pointer (some ⟨r, 0, none⟩)] w fun e w' => ∃ ca cn cc fa fn fc, e = .returned (.tuple #[.agg #[.slice ca cn cc, .slice fa fn fc], .int .i64 (rdP s).2]) ∧ RFr r w w' ∧ ((rdP s).2 = 0 → PW w w' (.slice ca cn cc) (.slice fa fn fc) (rdP s).1) := by
  obtain ⟨z, hz⟩ : ∃ z, Hid (rdP s = z) := ⟨_, rfl⟩
  rw [unhide hz]
  unfold rdP at hz
  have H1 := hide (fun (wx : World) (hx : RS wx r rb s) => rraw_any hx 4)
  generalize raw 4 s = a at *
  have H2 := hide (fun (wx : World) (hx : RS wx r rb a.2) (hy : rb < wx.heap.size) => rdLC_any hx hy 512 (by omega))
  generalize rdL rdC 512 a.2 = c at *
  have H3 := hide (fun (wx : World) (hx : RS wx r rb c.2.2) (hy : rb < wx.heap.size) => rdLF_any hx hy 128 (by omega))
  generalize rdL rdF 128 c.2.2 = f at *
  have hr := h.lt
  have HRB := hide hrb
  obtain ⟨W1, eW1⟩ : ∃ W1, Hid (W1 = w.alloc (.cells #[.slice none 0 0, .slice none 0 0] 27)) := ⟨_, rfl⟩
  have HA : Hid (Bx W1 2 w.heap.size [.slice none 0 0, .slice none 0 0]) := by rw [unhide eW1]; exact Bx.new rfl rfl
  have HF : Hid (RFr r w W1) := by rw [unhide eW1]; exact (Fr.refl _ w).alloc _
  have HS : Hid (RS W1 r rb s) := h.fr (S := fun _ => False) (by rw [unhide eW1]; exact (Fr.refl _ w).alloc _) (fun e => e) (fun e => e)
  clear h hrb
  go_enter Tryz.func21, Tryz.ntmps21
  go_wp2_with fail
  rw [← unhide eW1]
  clear eW1
  refine (unhide H1 W1 (unhide HS)).mono ?_
  rintro e X ⟨rv, ⟨rfl, hs, hf⟩, hrd, hbo, hrl⟩
  have hcv := str_conv X rv a.1 hrd hbo
  have HA : Hid (Bx X 2 w.heap.size [.slice none 0 0, .slice none 0 0]) := (unhide HA).fr hf (by omega)
  have HF : Hid (RFr r w X) := (unhide HF).trans hf
  have HS := hide hs
  have HER := hide (err_any hs)
  clear hs hf hrd hbo hrl H1
  go_wp2_with fail
  refine (unhide HER).mono ?_
  rintro e X' ⟨rfl, eX⟩
  obtain rfl := eX.symm
  clear eX
  clear hcv HER
  have m0 := (unhide HA).cell (j := 0) rfl
  have m1 := (unhide HA).cell (j := 1) rfl
  have y0 := (unhide HA).free 0
  have y1 := (unhide HA).free 1
  have HXb : Hid (w.heap.size + 1 ≤ X.heap.size) := (unhide HA).lt
  by_cases q1 : a.2.2 = 0 ∧ (toStr a.1).toList ≠ sgn4
  · rw [if_pos q1] at hz
    have d0 : (a.2.2 == 0) = true := by simp [q1.1]
    have d1 : ((toStr a.1).toList == [80, 84, 80, 1]) = false := by have := q1.2; unfold sgn4 at this; simpa using this
    clear q1
    go_wp2_with fail
    have hA6 := ((unhide HA).set (j := 0) (by omega) (.slice none 0 0)).set (j := 1) (by omega) (.slice none 0 0)
    refine bodyPost_ret (v := .tuple #[.agg #[.slice none 0 0, .slice none 0 0], .int .i64 4]) (by rw [results_ct (fn := Tryz.f21) (p := 2) (q := 3) (t1 := 27) rfl _ _ _ (a1 := ⟨w.heap.size, 0, none⟩) rfl (load27 hA6)]; rfl) rfl ?_
    rw [← unhide hz]
    exact ⟨_, _, _, _, _, _, rfl, (((unhide HF).setCell ⟨w.heap.size, 0, none⟩ (.inl (Nat.le_refl _)) _).setCell ⟨w.heap.size, 1, none⟩ (.inl (Nat.le_refl _)) _), fun q => absurd q (by simp)⟩
  · rw [if_neg q1] at hz
    by_cases q0 : a.2.2 = 0
    · have d0 : (a.2.2 == 0) = true := by simp [q0]
      have d1 : ((toStr a.1).toList == [80, 84, 80, 1]) = true := by
        by_cases q : (toStr a.1).toList = sgn4
        · rw [q]; rfl
        · exact absurd ⟨q0, q⟩ q1
      clear q1 q0
      clear m0 m1 y0 y1
      go_wp2_with fail
      refine (unhide H2 X (unhide HS) (by have := unhide HRB; have := (unhide HF).size; omega)).mono ?_
      rintro e X2 ⟨la, ln, lc, ⟨rfl, hs, hf⟩, hlg⟩
      have HA : Hid (Bx X2 2 w.heap.size [.slice none 0 0, .slice none 0 0]) := (unhide HA).fr hf (by omega)
      have HXs : Hid (w.heap.size ≤ X.heap.size) := (unhide HF).size
      have HX2b : Hid (w.heap.size + 1 ≤ X2.heap.size) := (unhide HA).lt
      have HF : Hid (RFr r w X2) := (unhide HF).trans hf
      have HS := hide hs
      have m0 := (unhide HA).cell (j := 0) rfl
      have m1 := (unhide HA).cell (j := 1) rfl
      have y0 := (unhide HA).free 0
      have y1 := (unhide HA).free 1
      by_cases q2 : c.2.1 = 0
      · have HLG := hide (hlg q2)
        rw [if_neg (by simp [q2])] at hz
        have d2 : (c.2.1 != 0) = false := by simp [q2]
        clear hs hf hlg q2 m0 m1 y0 y1
        go_wp2_with fail
        refine (unhide H3 X2 (unhide HS) (by have := unhide HRB; have := (unhide HF).size; omega)).mono ?_
        rintro e X3 ⟨fa, fn, fc, ⟨rfl, hs, hf⟩, hfl⟩
        have HA : Hid (Bx X3 2 w.heap.size [.slice none 0 0, .slice none 0 0]) := (unhide HA).fr hf (by omega)
        have HF : Hid (RFr r w X3) := (unhide HF).trans hf
        have HS := hide hs
        have HLG3 : Hid (LG X 3 enC c.1 (.slice la ln lc) X3) := (unhide HLG).fr hf (fun k hk q => by have := unhide HXs; omega)
        have m0 := (unhide HA).cell (j := 0) rfl
        have m1 := (unhide HA).cell (j := 1) rfl
        have y0 := (unhide HA).free 0
        have y1 := (unhide HA).free 1
        by_cases q3 : f.2.1 = 0
        · obtain ⟨xs, hfl⟩ := hfl q3
          have HFL := hide hfl
          have HXs2 : Hid (w.heap.size + 1 ≤ X2.heap.size ∧ w.heap.size + 1 ≤ X.heap.size) := by
            exact ⟨unhide HX2b, unhide HXb⟩
          rw [if_neg (by simp [q3])] at hz
          have d3 : (f.2.1 != 0) = false := by simp [q3]
          have HEN := hide (end_any (unhide HS))
          clear hs hf q3
          go_wp2_with fail
          refine (unhide HEN).mono ?_
          rintro e X3' ⟨rfl, eX⟩
          obtain rfl := eX.symm
          clear eX
          go_wp2_with fail
          have hA6 := ((unhide HA).set (j := 0) (by omega) (.slice la ln lc)).set (j := 1) (by omega) (.slice fa fn fc)
          have g : Fr (fun k => k = w.heap.size) X3 ((X3.setCell ⟨w.heap.size, 0, none⟩ (.slice la ln lc)).setCell ⟨w.heap.size, 1, none⟩ (.slice fa fn fc)) := ((Fr.refl (fun k => k = w.heap.size) X3).setCell ⟨w.heap.size, 0, none⟩ (.inr rfl) _).setCell ⟨w.heap.size, 1, none⟩ (.inr rfl) _
          refine bodyPost_ret (v := .tuple #[.agg #[.slice la ln lc, .slice fa fn fc], .int .i64 (rEnd f.2.2.1 f.2.2.2)]) (by rw [results_ct (fn := Tryz.f21) (p := 2) (q := 3) (t1 := 27) rfl _ _ _ (a1 := ⟨w.heap.size, 0, none⟩) rfl (load27 hA6)]; rfl) rfl ?_
          rw [← unhide hz]
          refine ⟨_, _, _, _, _, _, rfl, (((unhide HF).setCell ⟨w.heap.size, 0, none⟩ (.inl (Nat.le_refl _)) _).setCell ⟨w.heap.size, 1, none⟩ (.inl (Nat.le_refl _)) _), fun _ => ?_⟩
          exact ⟨((unhide HLG3).fr g (fun k hk q => by have := (unhide HXs2).2; omega)).low (by have := (unhide HXs2).2; omega), xs, ((unhide HFL).fr g (fun k hk q => by have := (unhide HXs2).1; omega)).low (by have := (unhide HXs2).1; omega)⟩
        · have HE := hide q3
          rw [if_pos q3] at hz
          have d3 : (f.2.1 != 0) = true := by simp [q3]
          clear hs hf q3 hfl
          go_wp2_with fail
          have hA6 := ((unhide HA).set (j := 0) (by omega) (.slice none 0 0)).set (j := 1) (by omega) (.slice none 0 0)
          refine bodyPost_ret (v := .tuple #[.agg #[.slice none 0 0, .slice none 0 0], .int .i64 f.2.1]) (by rw [results_ct (fn := Tryz.f21) (p := 2) (q := 3) (t1 := 27) rfl _ _ _ (a1 := ⟨w.heap.size, 0, none⟩) rfl (load27 hA6)]; rfl) rfl ?_
          rw [← unhide hz]
          exact ⟨_, _, _, _, _, _, rfl, (((unhide HF).setCell ⟨w.heap.size, 0, none⟩ (.inl (Nat.le_refl _)) _).setCell ⟨w.heap.size, 1, none⟩ (.inl (Nat.le_refl _)) _), fun q => absurd q (unhide HE)⟩
      · have HE := hide q2
        rw [if_pos q2] at hz
        have d2 : (c.2.1 != 0) = true := by simp [q2]
        clear hs hf q2 hlg
        go_wp2_with fail
        have hA6 := ((unhide HA).set (j := 0) (by omega) (.slice none 0 0)).set (j := 1) (by omega) (.slice none 0 0)
        refine bodyPost_ret (v := .tuple #[.agg #[.slice none 0 0, .slice none 0 0], .int .i64 c.2.1]) (by rw [results_ct (fn := Tryz.f21) (p := 2) (q := 3) (t1 := 27) rfl _ _ _ (a1 := ⟨w.heap.size, 0, none⟩) rfl (load27 hA6)]; rfl) rfl ?_
        rw [← unhide hz]
        exact ⟨_, _, _, _, _, _, rfl, (((unhide HF).setCell ⟨w.heap.size, 0, none⟩ (.inl (Nat.le_refl _)) _).setCell ⟨w.heap.size, 1, none⟩ (.inl (Nat.le_refl _)) _), fun q => absurd q (unhide HE)⟩
    · have d0 : (a.2.2 == 0) = false := by simp [q0]
      clear q1 q0
      clear m0 m1 y0 y1
      go_wp2_with fail
      refine (unhide H2 X (unhide HS) (by have := unhide HRB; have := (unhide HF).size; omega)).mono ?_
      rintro e X2 ⟨la, ln, lc, ⟨rfl, hs, hf⟩, hlg⟩
      have HA : Hid (Bx X2 2 w.heap.size [.slice none 0 0, .slice none 0 0]) := (unhide HA).fr hf (by omega)
      have HXs : Hid (w.heap.size ≤ X.heap.size) := (unhide HF).size
      have HX2b : Hid (w.heap.size + 1 ≤ X2.heap.size) := (unhide HA).lt
      have HF : Hid (RFr r w X2) := (unhide HF).trans hf
      have HS := hide hs
      have m0 := (unhide HA).cell (j := 0) rfl
      have m1 := (unhide HA).cell (j := 1) rfl
      have y0 := (unhide HA).free 0
      have y1 := (unhide HA).free 1
      by_cases q2 : c.2.1 = 0
      · have HLG := hide (hlg q2)
        rw [if_neg (by simp [q2])] at hz
        have d2 : (c.2.1 != 0) = false := by simp [q2]
        clear hs hf hlg q2 m0 m1 y0 y1
        go_wp2_with fail
        refine (unhide H3 X2 (unhide HS) (by have := unhide HRB; have := (unhide HF).size; omega)).mono ?_
        rintro e X3 ⟨fa, fn, fc, ⟨rfl, hs, hf⟩, hfl⟩
        have HA : Hid (Bx X3 2 w.heap.size [.slice none 0 0, .slice none 0 0]) := (unhide HA).fr hf (by omega)
        have HF : Hid (RFr r w X3) := (unhide HF).trans hf
        have HS := hide hs
        have HLG3 : Hid (LG X 3 enC c.1 (.slice la ln lc) X3) := (unhide HLG).fr hf (fun k hk q => by have := unhide HXs; omega)
        have m0 := (unhide HA).cell (j := 0) rfl
        have m1 := (unhide HA).cell (j := 1) rfl
        have y0 := (unhide HA).free 0
        have y1 := (unhide HA).free 1
        by_cases q3 : f.2.1 = 0
        · obtain ⟨xs, hfl⟩ := hfl q3
          have HFL := hide hfl
          have HXs2 : Hid (w.heap.size + 1 ≤ X2.heap.size ∧ w.heap.size + 1 ≤ X.heap.size) := by
            exact ⟨unhide HX2b, unhide HXb⟩
          rw [if_neg (by simp [q3])] at hz
          have d3 : (f.2.1 != 0) = false := by simp [q3]
          have HEN := hide (end_any (unhide HS))
          clear hs hf q3
          go_wp2_with fail
          refine (unhide HEN).mono ?_
          rintro e X3' ⟨rfl, eX⟩
          obtain rfl := eX.symm
          clear eX
          go_wp2_with fail
          have hA6 := ((unhide HA).set (j := 0) (by omega) (.slice la ln lc)).set (j := 1) (by omega) (.slice fa fn fc)
          have g : Fr (fun k => k = w.heap.size) X3 ((X3.setCell ⟨w.heap.size, 0, none⟩ (.slice la ln lc)).setCell ⟨w.heap.size, 1, none⟩ (.slice fa fn fc)) := ((Fr.refl (fun k => k = w.heap.size) X3).setCell ⟨w.heap.size, 0, none⟩ (.inr rfl) _).setCell ⟨w.heap.size, 1, none⟩ (.inr rfl) _
          refine bodyPost_ret (v := .tuple #[.agg #[.slice la ln lc, .slice fa fn fc], .int .i64 (rEnd f.2.2.1 f.2.2.2)]) (by rw [results_ct (fn := Tryz.f21) (p := 2) (q := 3) (t1 := 27) rfl _ _ _ (a1 := ⟨w.heap.size, 0, none⟩) rfl (load27 hA6)]; rfl) rfl ?_
          rw [← unhide hz]
          refine ⟨_, _, _, _, _, _, rfl, (((unhide HF).setCell ⟨w.heap.size, 0, none⟩ (.inl (Nat.le_refl _)) _).setCell ⟨w.heap.size, 1, none⟩ (.inl (Nat.le_refl _)) _), fun _ => ?_⟩
          exact ⟨((unhide HLG3).fr g (fun k hk q => by have := (unhide HXs2).2; omega)).low (by have := (unhide HXs2).2; omega), xs, ((unhide HFL).fr g (fun k hk q => by have := (unhide HXs2).1; omega)).low (by have := (unhide HXs2).1; omega)⟩
        · have HE := hide q3
          rw [if_pos q3] at hz
          have d3 : (f.2.1 != 0) = true := by simp [q3]
          clear hs hf q3 hfl
          go_wp2_with fail
          have hA6 := ((unhide HA).set (j := 0) (by omega) (.slice none 0 0)).set (j := 1) (by omega) (.slice none 0 0)
          refine bodyPost_ret (v := .tuple #[.agg #[.slice none 0 0, .slice none 0 0], .int .i64 f.2.1]) (by rw [results_ct (fn := Tryz.f21) (p := 2) (q := 3) (t1 := 27) rfl _ _ _ (a1 := ⟨w.heap.size, 0, none⟩) rfl (load27 hA6)]; rfl) rfl ?_
          rw [← unhide hz]
          exact ⟨_, _, _, _, _, _, rfl, (((unhide HF).setCell ⟨w.heap.size, 0, none⟩ (.inl (Nat.le_refl _)) _).setCell ⟨w.heap.size, 1, none⟩ (.inl (Nat.le_refl _)) _), fun q => absurd q (unhide HE)⟩
      · have HE := hide q2
        rw [if_pos q2] at hz
        have d2 : (c.2.1 != 0) = true := by simp [q2]
        clear hs hf q2 hlg
        go_wp2_with fail
        have hA6 := ((unhide HA).set (j := 0) (by omega) (.slice none 0 0)).set (j := 1) (by omega) (.slice none 0 0)
        refine bodyPost_ret (v := .tuple #[.agg #[.slice none 0 0, .slice none 0 0], .int .i64 c.2.1]) (by rw [results_ct (fn := Tryz.f21) (p := 2) (q := 3) (t1 := 27) rfl _ _ _ (a1 := ⟨w.heap.size, 0, none⟩) rfl (load27 hA6)]; rfl) rfl ?_
        rw [← unhide hz]
        exact ⟨_, _, _, _, _, _, rfl, (((unhide HF).setCell ⟨w.heap.size, 0, none⟩ (.inl (Nat.le_refl _)) _).setCell ⟨w.heap.size, 1, none⟩ (.inl (Nat.le_refl _)) _), fun q => absurd q (unhide HE)⟩
end Go.Proofs.YtpfogphpeegfdaaGreatDoor
