/-
  PortageAnyProgram holds.
-/
import Derived.Test.YtpfogphpeegfdaaGreatDoorDEx
import Derived.Test.YtpfogphpeegfdaaGreatDoorVBLaw
namespace Go.Proofs.YtpfogphpeegfdaaGreatDoor
open Go.RowKit
set_option linter.unusedVariables false
set_option linter.unusedSimpArgs false
set_option maxRecDepth 100000
theorem csG_le : ∀ {l pre : List Cn} {a y : Int}, csG pre l = some (a, y) → 0 ≤ y ∧ y ≤ 15
  | [], _, _, _, h => by cases h
  | c :: r, pre, a, y, h => by
    rw [csG] at h
    split at h
    · cases h; decide
    · split at h
      · cases h; decide
      · split at h
        · cases h; decide
        · exact csG_le h
theorem cdG_le {p : Pg} {f : Fc} : ∀ {l : List (Int × Int)} {i : Nat} {a y : Int}, cdG p f l i = some (a, y) → 0 ≤ y ∧ y ≤ 15
  | [], _, _, _, h => by cases h
  | (op, x) :: r, i, a, y, h => by
    rw [cdG] at h
    split at h
    · cases h; unfold erN; split <;> decide
    · split at h
      · cases h; decide
      · exact cdG_le h
theorem hsG_le {n : Int} : ∀ {l : List Hd} {i : Nat} {a y : Int}, hsG n l i = some (a, y) → 0 ≤ y ∧ y ≤ 15
  | [], _, _, _, h => by cases h
  | k :: r, i, a, y, h => by
    rw [hsG] at h
    split at h
    · exact hsG_le h
    · cases h; decide
theorem fnF_le {p : Pg} {f : Fc} {m t : Bool} {a y : Int} (h : fnF p f m t = some (a, y)) : 0 ≤ y ∧ y ≤ 15 := by
  unfold fnF at h
  cases h1 : nmF f.name t with
  | some e =>
    rw [h1] at h
    cases h
    unfold nmF at h1
    split at h1
    · cases h1; decide
    · split at h1
      · cases h1; decide
      · split at h1
        · cases h1; decide
        · cases h1
  | none =>
    rw [h1] at h
    simp only [orE] at h
    cases h2 : szF f m with
    | some e =>
      rw [h2] at h
      cases h
      unfold szF at h2
      split at h2
      · cases h2; decide
      · split at h2
        · cases h2; decide
        · split at h2
          · cases h2; decide
          · split at h2
            · cases h2; decide
            · cases h2
    | none =>
      rw [h2] at h
      simp only [orE] at h
      cases h3 : cdF p f with
      | some e =>
        rw [h3] at h
        cases h
        exact cdG_le h3
      | none =>
        rw [h3] at h
        simp only [orE] at h
        unfold hsF at h
        split at h
        · cases h; decide
        · exact hsG_le h
theorem fsG_le {p : Pg} : ∀ {l pre : List Fc} {k a y : Int}, fsG p pre l = some (k, a, y) → 0 ≤ y ∧ y ≤ 15
  | [], _, _, _, _, h => by cases h
  | f :: r, pre, k, a, y, h => by
    rw [fsG] at h
    split at h
    · rename_i e he
      obtain ⟨a', y'⟩ := e
      cases h
      exact fnF_le he
    · exact fsG_le h
theorem ckF_le {p : Pg} {k a y : Int} (h : ckF p = some (k, a, y)) : 0 ≤ y ∧ y ≤ 15 := by
  unfold ckF at h
  split at h
  · rename_i e he
    obtain ⟨a', y'⟩ := e
    cases h
    unfold csF at he
    split at he
    · cases he; decide
    · exact csG_le he
  · split at h
    · cases h; decide
    · split at h
      · cases h; decide
      · exact fsG_le h
def Er (k : Int) : Prop := 0 ≤ k ∧ k ≤ 15
theorem unum_er : ∀ (B : List Int) (i acc : Nat) (k : Int), unum i acc B = .error k → Er k := by
  intro B
  induction B with
  | nil => intro i acc k h; rw [unum] at h; cases h; unfold Er; decide
  | cons b r ih =>
    intro i acc k h
    rw [unum_cons] at h
    by_cases q : i = 9 ∧ b ≠ 1 ∨ 0 < i ∧ b = 0
    · rw [if_pos q] at h; cases h; unfold Er; decide
    · rw [if_neg q] at h
      by_cases q2 : b < 128
      · rw [if_pos q2] at h; cases h
      · rw [if_neg q2] at h; exact ih _ _ _ h
theorem unumMost_er {most : Int} {B : List Int} {k : Int} (h : unumMost most B = .error k) : Er k := by
  unfold unumMost at h
  cases hu : unum 0 0 B with
  | error k' => rw [hu] at h; cases h; exact unum_er _ _ _ _ hu
  | ok p =>
    obtain ⟨y, u⟩ := p
    rw [hu] at h
    simp only at h
    by_cases q : max most 0 < (y : Int)
    · rw [if_pos q] at h; cases h; unfold Er; decide
    · rw [if_neg q] at h; cases h
theorem opR_er {k : Nat} {t : List Int} {e : Int} (h : opR k t = .error e) : Er e := by
  unfold opR at h
  split at h
  · cases h
  · split at h
    · rename_i e2 hu; cases h; exact unum_er _ _ _ _ hu
    · cases h
theorem dec_er {B : List Int} (e : Int) (h : dec B = .error e) : Er e := by
  have : ∀ (f : Nat) (acc : List (Int × Int)) (B : List Int), decG f acc B = .error e → Er e := by
    intro f
    induction f with
    | zero => intro acc B h; cases h
    | succ f ih =>
      intro acc B h
      cases B with
      | nil => rw [decG_nil] at h; cases h
      | cons b t =>
        rw [decG] at h
        split at h
        · cases h; unfold Er; decide
        · split at h
          · rename_i er hrd
            cases h
            unfold rd1 at hrd
            split at hrd
            · split at hrd
              · rename_i e2 ho
                cases hrd
                exact opR_er ho
              · split at hrd
                · cases hrd
                · cases hrd; unfold Er; decide
            · cases hrd; unfold Er; decide
          · exact ih _ _ h
  exact this _ _ _ h
theorem errOf_er (B : List Int) : Er (errOf (dec B)) := by
  cases h : dec B with
  | ok l => exact (show Er 0 from ⟨by decide, by decide⟩)
  | error e => exact dec_er e h
theorem er0 : Er 0 := ⟨by decide, by decide⟩
theorem er2 : Er 2 := ⟨by decide, by decide⟩
theorem er4 : Er 4 := ⟨by decide, by decide⟩
theorem cnt_er (most : Int) (s : Sr) (h : Er s.2) : Er (cnt most s).2.2 := by
  unfold cnt
  split
  · split
    · exact er0
    · rename_i hu; exact unumMost_er hu
  · exact h
theorem txt_er (most : Int) (s : Sr) (h : Er s.2) : Er (txt most s).2.2 := by
  unfold txt
  split
  · split
    · rename_i hu; exact unumMost_er hu
    · split
      · exact er2
      · exact er0
  · exact h
theorem byt_er (s : Sr) (h : Er s.2) : Er (byt s).2.2 := by
  unfold byt
  split
  · split
    · exact er2
    · exact er0
  · exact h
theorem wrd_er (s : Sr) (h : Er s.2) : Er (wrd s).2.2 := by
  unfold wrd
  split
  · split
    · exact er2
    · exact er0
  · exact h
theorem raw_er (n : Nat) (s : Sr) (h : Er s.2) : Er (raw n s).2.2 := by
  unfold raw
  split
  · split
    · exact er2
    · exact er0
  · exact h
def Er3 {T : Type} (rd : Sr → T × Int × Sr) : Prop := ∀ s : Sr, Er s.2 → Er (rd s).2.1 ∧ Er (rd s).2.2.2
theorem lp_er {T : Type} {rd : Sr → T × Int × Sr} (h : Er3 rd) : ∀ (n : Nat) (acc : List T), Er3 (lp rd n acc)
  | 0, acc => fun s hs => ⟨hs, hs⟩
  | n + 1, acc => fun s hs => by
    rw [lp]
    split
    · exact h s hs
    · exact lp_er h n _ _ (h s hs).2
theorem rdL_er {T : Type} {rd : Sr → T × Int × Sr} (h : Er3 rd) (most : Int) : Er3 (rdL rd most) := fun s hs => lp_er h _ _ _ (cnt_er most s hs)
theorem rdH1_er : Er3 rdH1 := fun s hs => by
  have := cnt_er 64 _ (cnt_er 2000 _ (cnt_er 2000 _ (cnt_er 2000 s hs)))
  exact ⟨this, this⟩
theorem rdC_er : Er3 rdC := fun s hs => by
  have hb := byt_er s hs
  unfold rdC
  split
  · exact ⟨wrd_er _ hb, wrd_er _ hb⟩
  · split
    · exact ⟨txt_er _ _ hb, txt_er _ _ hb⟩
    · split
      · exact ⟨er4, hb⟩
      · exact ⟨hb, hb⟩
theorem rdF_er : Er3 rdF := fun s hs => by
  have hb : Er (rdF0 s).2.2 := raw_er _ _ (cnt_er _ _ (cnt_er _ _ (cnt_er _ _ (txt_er _ _ hs))))
  unfold rdF
  split
  · exact ⟨errOf_er _, hb⟩
  · exact rdL_er rdH1_er 32 _ hb
theorem rdP_er (s : Sr) (hs : Er s.2) : Er (rdP s).2 := by
  have h0 := raw_er 4 s hs
  unfold rdP
  split
  · exact er4
  · split
    · exact (rdL_er rdC_er 512 _ h0).1
    · split
      · exact (rdL_er rdF_er 128 _ (rdL_er rdC_er 512 _ h0).2).1
      · have h1 := (rdL_er rdF_er 128 _ (rdL_er rdC_er 512 _ h0).2).2
        simp only
        unfold rEnd
        split
        · split
          · exact er0
          · exact ⟨by decide, by decide⟩
        · exact h1
/-- Decode's errors. -/
theorem decP_er (B : List Int) : Er (decP B).2 := by
  unfold decP
  split
  · exact ⟨by decide, by decide⟩
  · split
    · exact rdP_er _ er0
    · split
      · rename_i hc; exact ckF_le hc
      · exact er0

set_option linter.unusedVariables false
set_option linter.unusedSimpArgs false
set_option maxRecDepth 100000
theorem smallest_any (w : World) : Calls Tryz.prog 16 #[] w fun e w' => ∃ b, e = .returned (.slice (some ⟨b, 0, none⟩) 17 17) ∧ Rd w' (.slice (some ⟨b, 0, none⟩) 17 17) smB ∧ Below w.heap.size w w' := by
  obtain ⟨W1, eW1⟩ : ∃ W1, Hid (W1 = w.alloc (.cells #[.int .u8 80, .int .u8 84, .int .u8 80, .int .u8 1, .int .u8 0, .int .u8 1, .int .u8 4, .int .u8 109, .int .u8 97, .int .u8 105, .int .u8 110, .int .u8 0, .int .u8 0, .int .u8 2, .int .u8 1, .int .u8 44, .int .u8 0] 5)) := ⟨_, rfl⟩
  have R1 : Hid (Rd W1 (.slice (some ⟨w.heap.size, 0, none⟩) 17 17) smB) := by
    rw [unhide eW1]
    exact Rd.of_ro (Ro.new (sz := 1) (n := 17) rfl (by decide) rfl)
  have F1 : Hid (Below w.heap.size w W1) := by rw [unhide eW1]; exact (Below.refl _ w).alloc (Nat.le_refl _) _
  go_enter Tryz.func16, Tryz.ntmps16
  go_wp2_with fail
  rw [← unhide eW1]
  go_ret
  exact ⟨_, rfl, unhide R1, unhide F1⟩
theorem VpR.er {p : Pg} {k a er : Int} (h : VpR p none k a er) (hc : ckF p = none) : Er er := by
  rcases h with ⟨y, h1, _⟩ | ⟨_, i, f, _, _, _, _, h6, _⟩ | ⟨_, _, _, _, Ls, h5, _⟩
  · rw [hc] at h1; cases h1
  · rcases h6 with ⟨e, _⟩ | ⟨e, _⟩ | ⟨_, _, _, _, hts, e, _⟩
    · rw [e]; exact ⟨by decide, by decide⟩
    · rw [e]; exact ⟨by decide, by decide⟩
    · cases e
  · cases h5
/-- What Load answers of the smallest program. -/
theorem sm_ld {w w' : World} {cv fv hv mv : Value} {er : Int} (h : LdR smB w w' cv fv hv mv er) : er = 0 ∧ ∃ b off cap ka kc, fv = .slice (some ⟨b, off, none⟩) 1 cap ∧ b < w'.heap.size ∧ w'.cell? ⟨b, off, none⟩ = some (.string ⟨#[109, 97, 105, 110]⟩) ∧ w'.cell? ⟨b, off + 3, none⟩ = some (.slice ka 2 kc) := by
  rcases h with ⟨h0, _, _, _, _, h5⟩ | ⟨h0, _, h2, _⟩
  · exfalso
    rw [sm_dec] at h5
    rcases h5 with ⟨e, _⟩ | ⟨_, k, a, e⟩
    · exact e rfl
    · exact h0 (vp1 e).1
  · refine ⟨h0, ?_⟩
    rw [sm_dec] at h2
    obtain ⟨cv', fv', e, _, hf⟩ := h2.pgv
    cases e
    obtain ⟨a, cap, e1, _, _, hat⟩ := hf.at
    obtain ⟨b, off, x, e2, hb, hx, hc⟩ := hat 0 _ rfl
    subst e2
    obtain ⟨k1, k2, k3, k4, k5⟩ := hx
    obtain ⟨_, ka, kc, e4, _⟩ := k4
    refine ⟨b, off, cap, ka, kc, e1, hb, ?_, ?_⟩
    · have := hc 0 _ rfl
      rw [k1] at this
      simpa using this
    · have := hc 3 _ rfl
      rw [e4] at this
      simpa using this
set_option maxHeartbeats 6400000 in
theorem anyLaw {w : World} {v : Value} {B : List Int} (hl : Laid w) (hR : Rd w v B) (oB : BOk B) (hN : B.length ≤ 140737488355328) :
    Calls Tryz.prog 5 #[v] w fun e w' => e = .returned (.bool true) ∧ Below w.heap.size w w' := by
  have gl : 0 < w.heap.size := World.block_lt_of_cell? _ _ hl
  have HL := hide hl
  have HG := hide gl
  have OB := hide oB
  have NB := hide hN
  obtain ⟨va, vc, rfl⟩ := hR.shapeR
  obtain ⟨N, hNN⟩ : ∃ N, Hid (B.length = N) := ⟨_, rfl⟩
  have R0 := hide hR
  rw [unhide hNN] at R0 ⊢
  clear hl gl oB hR hN
  go_enter Tryz.func5, Tryz.ntmps5
  go_wp2_with fail
  refine (smallest_any w).mono ?_
  rintro e Y1 ⟨b1, rfl, hr1, hc1⟩
  have T1 := hide hr1
  have F0 : Hid (Below w.heap.size w Y1) := hc1
  have R01 : Hid (Rd Y1 (.slice va N vc) B) := (unhide R0).bl hc1
  clear hr1 hc1 R0
  go_wp2_with fail
  refine (load_any (unhide T1) sm_bok (by decide) ((unhide HL).blw (unhide F0) (unhide HG))).mono ?_
  rintro e Y2 ⟨ua, un, uc, wa, wn, wc, xa, xn, xc, ya, yn, yc, e0, rfl, hc2, hq⟩
  obtain ⟨rfl, fb, fo, fcap, ka, kc, ef, hfb, f0, f3⟩ := sm_ld hq
  obtain ⟨rfl, rfl, rfl⟩ : wa = some ⟨fb, fo, none⟩ ∧ wn = 1 ∧ wc = fcap := by cases ef; exact ⟨rfl, rfl, rfl⟩
  have F02 : Hid (Below w.heap.size w Y2) := (unhide F0).trans (hc2.mono (unhide F0).size)
  have R02 : Hid (Rd Y2 (.slice va N vc) B) := (unhide R01).bl hc2
  clear hq ef hc2 T1 F0 R01
  obtain ⟨W1, eW1⟩ : ∃ W1, Hid (W1 = (Y2.alloc (.cells #[.slice ua un uc, .slice (some ⟨fb, fo, none⟩) 1 wc] 27)).alloc (.cells #[.slice xa xn xc, .slice ya yn yc] 37)) := ⟨_, rfl⟩
  have hb1 : Below Y2.heap.size Y2 W1 := by rw [unhide eW1]; exact ((Below.refl _ _).alloc (Nat.le_refl _) _).alloc (by simp) _
  have F1 : Hid (Below w.heap.size w W1) := (unhide F02).trans (hb1.mono (unhide F02).size)
  have R1 : Hid (Rd W1 (.slice va N vc) B) := (unhide R02).bl hb1
  have f0 := (hb1.cell (p := ⟨fb, fo, none⟩) hfb).trans f0
  have f3 := (hb1.cell (p := ⟨fb, fo + 3, none⟩) hfb).trans f3
  have lfb := Nat.lt_of_lt_of_le hfb hb1.size
  obtain ⟨bq, ebq⟩ : ∃ b, Hid (Y2.heap.size = b) := ⟨_, rfl⟩
  have Q1 : Hid (Bx W1 2 bq [.slice ua un uc, .slice (some ⟨fb, fo, none⟩) 1 wc]) := by rw [unhide eW1]; exact (Bx.new rfl (unhide ebq)).fr (S := fun _ => False) ((Fr.refl _ _).alloc _) (fun e => e)
  have q1 := (unhide Q1).cell (j := 1) rfl
  have lq := (unhide Q1).lt
  clear hb1 hfb F02 R02
  go_wp2_with fail
  rw [← unhide eW1, unhide ebq]
  clear eW1
  refine (num_any W1 0).mono ?_
  rintro e W1' ⟨rfl, e1'⟩
  obtain rfl := e1'.symm
  clear e1'
  go_wp2_with fail
  clear f0 f3 lfb q1 lq Q1
  refine (load_any (unhide R1) (unhide OB) (unhide NB) ((unhide HL).blw (unhide F1) (unhide HG))).mono ?_
  rintro e W2 ⟨ca, cn, cc, fa, fn, fc, ha, hn, hc, ma, mn, mc, er, rfl, hb2, hq2⟩
  have Q2 := hide hq2
  have F2 : Hid (Below w.heap.size w W2) := (unhide F1).trans (hb2.mono (unhide F1).size)
  have R2 : Hid (Rd W2 (.slice va N vc) B) := (unhide R1).bl hb2
  clear F1 R1
  clear hq2 hb2
  obtain ⟨W3, eW3⟩ : ∃ W3, Hid (W3 = (W2.alloc (.cells #[.slice ca cn cc, .slice fa fn fc] 27)).alloc (.cells #[.slice ha hn hc, .slice ma mn mc] 37)) := ⟨_, rfl⟩
  have hb3 : Below W2.heap.size W2 W3 := by rw [unhide eW3]; exact ((Below.refl _ _).alloc (Nat.le_refl _) _).alloc (by simp) _
  obtain ⟨bp, ebp⟩ : ∃ b, Hid (W2.heap.size = b) := ⟨_, rfl⟩
  have P3 : Hid (Bx W3 2 bp [.slice ca cn cc, .slice fa fn fc]) := by rw [unhide eW3]; exact (Bx.new rfl (unhide ebp)).fr (S := fun _ => False) ((Fr.refl _ _).alloc _) (fun e => e)
  have H3 : Hid (Bx W3 2 (bp + 1) [.slice ha hn hc, .slice ma mn mc]) := by rw [unhide eW3]; exact Bx.new rfl (by simp; exact unhide ebp)
  have F3 : Hid (Below w.heap.size w W3) := (unhide F2).trans (hb3.mono (unhide F2).size)
  have R3 : Hid (Rd W3 (.slice va N vc) B) := (unhide R2).bl hb3
  have Q3 : Hid (LdR B W1 W3 (.slice ca cn cc) (.slice fa fn fc) (.slice ha hn hc) (.slice ma mn mc) er) := (unhide Q2).bl hb3
  clear F2 R2 Q2
  clear hb3
  go_wp2_with fail
  rw [← unhide eW3, unhide ebp]
  clear eW3
  refine (num_any W3 er).mono ?_
  rintro e W3' ⟨rfl, e3'⟩
  obtain rfl := e3'.symm
  clear e3'
  rcases unhide Q3 with ⟨h0, h1, h2, h3, h4, h5⟩ | ⟨rfl, hd, hA3, Ls, hV, hX3⟩
  · have hEr : Er er := by
      rcases h5 with ⟨_, e⟩ | ⟨e, k, a, e2⟩
      · rw [e]; exact decP_er B
      · exact e2.er (decP_ok e).2
    obtain ⟨rfl, rfl, rfl⟩ : ca = none ∧ cn = 0 ∧ cc = 0 := by cases h1; exact ⟨rfl, rfl, rfl⟩
    obtain ⟨rfl, rfl, rfl⟩ : fa = none ∧ fn = 0 ∧ fc = 0 := by cases h2; exact ⟨rfl, rfl, rfl⟩
    obtain ⟨rfl, rfl, rfl⟩ : ha = none ∧ hn = 0 ∧ hc = 0 := by cases h3; exact ⟨rfl, rfl, rfl⟩
    obtain ⟨rfl, rfl, rfl⟩ : ma = none ∧ mn = 0 ∧ mc = 0 := by cases h4; exact ⟨rfl, rfl, rfl⟩
    clear h1 h2 h3 h4 h5
    have i1 : (er != 0) = true := by simpa using h0
    have i2 : er > 0 := by have := hEr.1; omega
    have i3 : er ≤ 15 := hEr.2
    have m0 := (unhide P3).cell (j := 0) rfl
    have m1 := (unhide P3).cell (j := 1) rfl
    have n0 := (unhide H3).cell (j := 0) rfl
    have n1 := (unhide H3).cell (j := 1) rfl
    have lP := (unhide P3).lt
    have lH := (unhide H3).lt
    clear hEr h0
    go_wp2_with fail
    refine (num_any W3 er).mono ?_
    rintro e W3' ⟨rfl, e3'⟩
    obtain rfl := e3'.symm
    clear e3'
    go_wp2_with fail
    refine (num_any W3 er).mono ?_
    rintro e W3' ⟨rfl, e3'⟩
    obtain rfl := e3'.symm
    clear e3'
    go_wp2_with fail
    go_ret
    exact ⟨rfl, unhide F3⟩
  obtain ⟨rfl, rfl⟩ : hn = Ls.length ∧ mn = Ls.length := by
    obtain ⟨_, _, _, _, e1, e2⟩ := hX3.shape
    cases e1; cases e2; exact ⟨rfl, rfl⟩
  obtain ⟨_, _, _, _, hlen⟩ : (0 : Int) = 0 ∧ (0 : Int) = 0 ∧ (0 : Int) = 0 ∧ (0 : Int) = 0 ∧ Ls.length = (decP B).1.funcs.length := by
    rcases hV.cases with ⟨e, _⟩ | ⟨Ls', e, _, _, _, hl⟩
    · cases e
    · cases e; exact ⟨rfl, rfl, rfl, rfl, hl⟩
  obtain rfl : fn = Ls.length := by
    obtain ⟨cv', fv', e, _, hf⟩ := hA3.pgv
    cases e
    obtain ⟨a, cap, e1, _⟩ := hf.at
    rw [hlen]
    injection e1
  have hml : Ls.length ≤ 128 := by rw [hlen]; exact (decP_nn (unhide OB) hd).2.2.2
  have HD := hide hd
  have HV := hide hV
  obtain ⟨M, hM⟩ : ∃ M, Hid (Ls.length = M) := ⟨_, rfl⟩
  have A3 := hide hA3
  have X3 := hide hX3
  have p3 := P3
  have h3 := H3
  clear hA3 hX3 hV hd hlen Q3 P3 H3
  rw [unhide hM] at A3 X3 p3 h3 ⊢
  have m0 := (unhide p3).cell (j := 0) rfl
  have m1 := (unhide p3).cell (j := 1) rfl
  have lP := (unhide p3).lt
  go_wp2_with fail
  clear m0 m1 lP
  refine (program_any (unhide A3).pgv (decP_ok (unhide HD)).1 ((unhide HL).blw (unhide F3) (unhide HG))).mono ?_
  rintro e W4 ⟨fx, L, k, a, ev, rfl, hV, hb4, hn4, hs4⟩
  obtain ⟨e1, rfl, rfl, rfl⟩ := (unhide HV).uniq hV
  obtain ⟨gv, nv, rfl, hF⟩ := hs4 Ls e1.symm
  obtain ⟨ga, gc, na, nc, rfl, rfl⟩ := hF.shape
  have Y4 := hide hF
  rw [unhide hM] at Y4 ⊢
  have F4 : Hid (Below w.heap.size w W4) := (unhide F3).trans (hb4.mono (unhide F3).size)
  have R4 : Hid (Rd W4 (.slice va N vc) B) := (unhide R3).bl hb4
  have A4 : Hid (PW W1 W4 (.slice ca cn cc) (.slice fa M fc) (decP B).1) := (unhide A3).bl hb4
  have X4 : Hid (FcR W1.heap.size W4 (.slice ha M hc) (.slice ma M mc) Ls) := (unhide X3).bl hb4
  have p4 : Hid (Bx W4 2 bp [.slice ca cn cc, .slice fa M fc]) := (unhide p3).bl hb4
  have h4 : Hid (Bx W4 2 (bp + 1) [.slice ha M hc, .slice ma M mc]) := (unhide h3).bl hb4
  clear F3 R3 A3 X3 p3 h3
  clear hn4 hs4 hb4 hV hF e1
  obtain ⟨W5, eW5⟩ : ∃ W5, Hid (W5 = (W4.alloc (.cells #[.slice ga M gc, .slice na M nc] 37)).alloc (.cells #[.int .i64 0, .int .i64 0] 41)) := ⟨_, rfl⟩
  have hb5 : Below W4.heap.size W4 W5 := by rw [unhide eW5]; exact ((Below.refl _ _).alloc (Nat.le_refl _) _).alloc (by simp) _
  obtain ⟨bg, ebg⟩ : ∃ b, Hid (W4.heap.size = b) := ⟨_, rfl⟩
  have G5 : Hid (Bx W5 2 bg [.slice ga M gc, .slice na M nc]) := by rw [unhide eW5]; exact (Bx.new rfl (unhide ebg)).fr (S := fun _ => False) ((Fr.refl _ _).alloc _) (fun e => e)
  have O5 : Hid (Bx W5 2 (bg + 1) [.int .i64 0, .int .i64 0]) := by rw [unhide eW5]; exact Bx.new rfl (by simp; exact unhide ebg)
  have F5 : Hid (Below w.heap.size w W5) := (unhide F4).trans (hb5.mono (unhide F4).size)
  have R5 : Hid (Rd W5 (.slice va N vc) B) := (unhide R4).bl hb5
  have A5 : Hid (PW W1 W5 (.slice ca cn cc) (.slice fa M fc) (decP B).1) := (unhide A4).bl hb5
  have X5 : Hid (FcR W1.heap.size W5 (.slice ha M hc) (.slice ma M mc) Ls) := (unhide X4).bl hb5
  have Y5 : Hid (FcR W3.heap.size W5 (.slice ga M gc) (.slice na M nc) Ls) := (unhide Y4).bl hb5
  have p5 : Hid (Bx W5 2 bp [.slice ca cn cc, .slice fa M fc]) := (unhide p4).bl hb5
  have h5 : Hid (Bx W5 2 (bp + 1) [.slice ha M hc, .slice ma M mc]) := (unhide h4).bl hb5
  clear F4 R4 A4 X4 Y4 p4 h4
  clear hb5
  go_wp2_with fail
  rw [← unhide eW5, unhide ebg]
  clear eW5
  refine (num_any W5 0).mono ?_
  rintro e W5' ⟨rfl, e5'⟩
  obtain rfl := e5'.symm
  clear e5'
  have h0 := (unhide h5).cell (j := 0) rfl
  have h1 := (unhide h5).cell (j := 1) rfl
  have g0 := (unhide G5).cell (j := 0) rfl
  have g1 := (unhide G5).cell (j := 1) rfl
  have o0 := (unhide O5).cell (j := 0) rfl
  have o1 := (unhide O5).cell (j := 1) rfl
  have lH := (unhide h5).lt
  have lG := (unhide G5).lt
  have lO := (unhide O5).lt
  go_wp2_with fail
  refine (sameFacts_any (Ls := Ls) (by omega) (unhide X5).fcw (unhide Y5).fcw).mono ?_
  rintro e W6 ⟨rfl, hb6⟩
  have F6 : Hid (Below w.heap.size w W6) := (unhide F5).trans (hb6.mono (unhide F5).size)
  have R6 : Hid (Rd W6 (.slice va N vc) B) := (unhide R5).bl hb6
  have A6 : Hid (PW W1 W6 (.slice ca cn cc) (.slice fa M fc) (decP B).1) := (unhide A5).bl hb6
  have p6 : Hid (Bx W6 2 bp [.slice ca cn cc, .slice fa M fc]) := (unhide p5).bl hb6
  have h6 : Hid (Bx W6 2 (bp + 1) [.slice ha M hc, .slice ma M mc]) := (unhide h5).bl hb6
  clear F5 R5 A5 p5 h5
  clear h0 h1 g0 g1 o0 o1 lH lG lO hb6 X5 Y5 G5 O5
  have m0 := (unhide p6).cell (j := 0) rfl
  have m1 := (unhide p6).cell (j := 1) rfl
  have lP := (unhide p6).lt
  go_wp2_with fail
  clear m0 m1 lP
  refine (enP_any (unhide A6).pgv (decP_ok (unhide HD)).1 ((unhide HL).blw (unhide F6) (unhide HG)) (fun _ => decP_nn (unhide OB) (unhide HD))).mono ?_
  rw [decP_one (unhide OB) (unhide HD)]
  rintro e W7 ⟨bv, rfl, hb7, hg7, -⟩
  have K7 : Hid (Rd W7 bv B) := Rd.of_ro (Ro.of_own (hg7 rfl))
  have F7 : Hid (Below w.heap.size w W7) := (unhide F6).trans (hb7.mono (unhide F6).size)
  have R7 : Hid (Rd W7 (.slice va N vc) B) := (unhide R6).bl hb7
  have p7 : Hid (Bx W7 2 bp [.slice ca cn cc, .slice fa M fc]) := (unhide p6).bl hb7
  have h7 : Hid (Bx W7 2 (bp + 1) [.slice ha M hc, .slice ma M mc]) := (unhide h6).bl hb7
  clear F6 R6 p6 h6
  clear hb7 hg7 A6
  go_wp2_with fail
  refine (num_any W7 0).mono ?_
  rintro e W7' ⟨rfl, e7'⟩
  obtain rfl := e7'.symm
  clear e7'
  go_wp2_with fail
  refine (same_any _ _ B W7 (unhide K7) (unhide R7)).mono ?_
  rintro e W8 ⟨rfl, k8, e8⟩
  have hb8 : Below W7.heap.size W7 W8 := by rw [e8]; exact (Fr.drewN (S := fun _ => False) k8).below (Nat.le_refl _) (fun _ _ e => e)
  have F8 : Hid (Below w.heap.size w W8) := (unhide F7).trans (hb8.mono (unhide F7).size)
  have p8 : Hid (Bx W8 2 bp [.slice ca cn cc, .slice fa M fc]) := (unhide p7).bl hb8
  have h8 : Hid (Bx W8 2 (bp + 1) [.slice ha M hc, .slice ma M mc]) := (unhide h7).bl hb8
  clear F7 p7 h7
  clear hb8 e8 K7 R7
  have h0 := (unhide h8).cell (j := 0) rfl
  have m1 := (unhide p8).cell (j := 1) rfl
  have lH := (unhide h8).lt
  have lP := (unhide p8).lt
  go_wp2_with fail
  go_ret
  exact ⟨rfl, unhide F8⟩
end Go.Proofs.YtpfogphpeegfdaaGreatDoor
