/-
  program.Decode.
-/
import Derived.Test.YtpfogphpeegfdaaGreatDoorDPr
import Derived.Test.YtpfogphpeegfdaaGreatDoorCheck
namespace Go.Proofs.YtpfogphpeegfdaaGreatDoor
open Go.RowKit
set_option linter.unusedVariables false
set_option linter.unusedSimpArgs false

theorem lp_all {T : Type} {rd : Sr → T × Int × Sr} {P : T → Prop} (h : ∀ s, (rd s).2.1 = 0 → P (rd s).1) : ∀ (n : Nat) (acc : List T) (s : Sr), (∀ x ∈ acc, P x) → ∀ x ∈ (lp rd n acc s).1, P x := by
  intro n
  induction n with
  | zero => intro acc s ha; exact ha
  | succ n ih =>
    intro acc s ha
    rw [lp]
    by_cases q : (rd s).2.1 ≠ 0
    · rw [if_pos q]; intro x hx; simp at hx
    · rw [if_neg q]
      refine ih _ _ (fun x hx => ?_)
      rcases List.mem_append.1 hx with p | p
      · exact ha x p
      · rw [List.mem_singleton] at p; subst p; exact h s (by simpa using q)
theorem rdL_all {T : Type} {rd : Sr → T × Int × Sr} {P : T → Prop} (h : ∀ s, (rd s).2.1 = 0 → P (rd s).1) (most : Int) (s : Sr) : ∀ x ∈ (rdL rd most s).1, P x := lp_all h _ _ _ (fun x hx => by simp at hx)
theorem txt_len (most : Int) (s : Sr) : ((txt most s).1.size : Int) ≤ max most 0 := by
  unfold txt
  by_cases q : s.2 = 0
  · rw [if_pos q]
    cases hu : unumMost most s.1 with
    | error k => simp [ByteArray.size]; omega
    | ok p =>
      obtain ⟨x, t⟩ := p
      have := (unumMost_len hu).2
      by_cases q2 : t.length < x
      · simp only [if_pos q2]; simp [ByteArray.size]; omega
      · simp only [if_neg q2, toStr_size, List.length_take]; omega
  · rw [if_neg q]; simp [ByteArray.size]; omega
theorem rdC_ok (s : Sr) (h : (rdC s).2.1 = 0) : OkC (rdC s).1 := by
  unfold rdC at h ⊢
  by_cases q3 : (byt s).1 = 3
  · rw [if_pos q3]
    exact ⟨(by decide : (Lit.int .i64 3).wf = true), wrap64_wf _, by simp [ByteArray.size, maxLen]⟩
  · rw [if_neg q3] at h ⊢
    by_cases q4 : (byt s).1 = 4
    · rw [if_pos q4]
      have := txt_len 4096 (byt s).2
      exact ⟨(by decide : (Lit.int .i64 4).wf = true), (by decide : (Lit.int .i64 0).wf = true), by unfold maxLen; simp only; omega⟩
    · rw [if_neg q4] at h ⊢
      by_cases q5 : (byt s).2.2 = 0
      · rw [if_pos q5] at h; simp at h
      · rw [if_neg q5] at h; exact absurd h q5
theorem decG_len : ∀ (f : Nat) (acc : List (Int × Int)) (B : List Int) (l : List (Int × Int)), acc.length ≤ 2000 → decG f acc B = .ok l → l.length ≤ 2000 := by
  intro f
  induction f with
  | zero => intro acc B l ha h; rw [decG] at h; cases h; exact ha
  | succ f ih =>
    intro acc B l ha h
    cases B with
    | nil => rw [decG] at h; cases h; exact ha
    | cons b t =>
      rw [decG] at h
      by_cases q : acc.length = 2000
      · rw [if_pos q] at h; cases h
      · rw [if_neg q] at h
        cases hr : rd1 b t with
        | error e => rw [hr] at h; cases h
        | ok p =>
          obtain ⟨p, t'⟩ := p
          rw [hr] at h
          exact ih _ _ _ (by rw [List.length_append]; simp; omega) h
theorem lst_len (B : List Int) : (lstOf (dec B)).length ≤ 2000 := by
  cases h : dec B with
  | error e => simp [lstOf]
  | ok l => exact decG_len _ _ _ _ (by simp) h
theorem rdF_ok (s : Sr) (h : (rdF s).2.1 = 0) : (rdF s).1.code.length ≤ 2000 ∧ (rdF s).1.name.size ≤ 32 := by
  unfold rdF at h ⊢
  by_cases q : errOf (dec (rdF0 s).1.2.2.2) ≠ 0
  · rw [if_pos q] at h; exact absurd h q
  · rw [if_neg q]
    refine ⟨lst_len _, ?_⟩
    have := txt_len 32 s
    have e : (rdF0 s).1.1 = (txt 32 s).1 := rfl
    show (rdF0 s).1.1.size ≤ 32
    rw [e]; omega
theorem rdP_ok (s : Sr) : OkP (rdP s).1 := by
  unfold rdP
  have none : OkP ⟨[], []⟩ := ⟨fun c hc => by simp at hc, fun i f hf => by simp at hf⟩
  split
  · exact none
  · split
    · exact none
    · split
      · exact none
      · refine ⟨rdL_all rdC_ok 512 _, fun i f hf => ?_⟩
        have := rdL_all (P := fun f => f.code.length ≤ 2000 ∧ f.name.size ≤ 32) rdF_ok 128 _ f (List.mem_of_getElem? hf)
        omega
theorem csG_ne : ∀ {l pre : List Cn} {a y : Int}, csG pre l = some (a, y) → y ≠ 0
  | [], _, _, _, h => by cases h
  | c :: r, pre, a, y, h => by
    rw [csG] at h
    split at h
    · cases h; decide
    · split at h
      · cases h; decide
      · split at h
        · cases h; decide
        · exact csG_ne h
theorem cdG_ne {p : Pg} {f : Fc} : ∀ {l : List (Int × Int)} {i : Nat} {a y : Int}, cdG p f l i = some (a, y) → y ≠ 0
  | [], _, _, _, h => by cases h
  | (op, x) :: r, i, a, y, h => by
    rw [cdG] at h
    split at h
    · rename_i q; cases h; exact q
    · split at h
      · cases h; decide
      · exact cdG_ne h
theorem hsG_ne {n : Int} : ∀ {l : List Hd} {i : Nat} {a y : Int}, hsG n l i = some (a, y) → y ≠ 0
  | [], _, _, _, h => by cases h
  | k :: r, i, a, y, h => by
    rw [hsG] at h
    split at h
    · exact hsG_ne h
    · cases h; decide
theorem fnF_ne {p : Pg} {f : Fc} {m t : Bool} {a y : Int} (h : fnF p f m t = some (a, y)) : y ≠ 0 := by
  unfold fnF at h
  cases h1 : nmF f.name t with
  | some e =>
    rw [h1] at h
    cases h
    unfold nmF at h1
    split at h1
    · cases h1; decide
    · split at h1
      · cases h1; decide
      · split at h1
        · cases h1; decide
        · cases h1
  | none =>
    rw [h1] at h
    simp only [orE] at h
    cases h2 : szF f m with
    | some e =>
      rw [h2] at h
      cases h
      unfold szF at h2
      split at h2
      · cases h2; decide
      · split at h2
        · cases h2; decide
        · split at h2
          · cases h2; decide
          · split at h2
            · cases h2; decide
            · cases h2
    | none =>
      rw [h2] at h
      simp only [orE] at h
      cases h3 : cdF p f with
      | some e =>
        rw [h3] at h
        cases h
        exact cdG_ne h3
      | none =>
        rw [h3] at h
        simp only [orE] at h
        unfold hsF at h
        split at h
        · cases h; decide
        · exact hsG_ne h
theorem fsG_ne {p : Pg} : ∀ {l pre : List Fc} {k a y : Int}, fsG p pre l = some (k, a, y) → y ≠ 0
  | [], _, _, _, _, h => by cases h
  | f :: r, pre, k, a, y, h => by
    rw [fsG] at h
    split at h
    · rename_i e he
      obtain ⟨a', y'⟩ := e
      cases h
      exact fnF_ne he
    · exact fsG_ne h
theorem ckF_ne {p : Pg} {k a y : Int} (h : ckF p = some (k, a, y)) : y ≠ 0 := by
  unfold ckF at h
  split at h
  · rename_i e he
    obtain ⟨a', y'⟩ := e
    cases h
    unfold csF at he
    split at he
    · cases he; decide
    · exact csG_ne he
  · split at h
    · cases h; decide
    · split at h
      · cases h; decide
      · exact fsG_ne h
/-- What Decode answers. -/
noncomputable def decP (B : List Int) : Pg × Int :=
  if 4194304 < B.length then (⟨[], []⟩, 5)
  else if (rdP (B, 0)).2 ≠ 0 then (⟨[], []⟩, (rdP (B, 0)).2)
  else match ckF (rdP (B, 0)).1 with
    | some (_, _, y) => (⟨[], []⟩, y)
    | none => ((rdP (B, 0)).1, 0)
theorem decP_ok {B : List Int} (h : (decP B).2 = 0) : OkP (decP B).1 ∧ ckF (decP B).1 = none := by
  unfold decP at h ⊢
  split at h
  · simp at h
  · rename_i q1
    rw [if_neg q1]
    split at h
    · rename_i q2; exact absurd h q2
    · rename_i q2
      rw [if_neg q2]
      cases hc : ckF (rdP (B, 0)).1 with
      | some e => obtain ⟨k, a, y⟩ := e; rw [hc] at h; exact absurd h (ckF_ne hc)
      | none => exact ⟨rdP_ok _, hc⟩
theorem PW.low' {w0 w1 w : World} {cv fv : Value} {p : Pg} (h : PW w1 w cv fv p) (hs : w0.heap.size ≤ w1.heap.size) : PW w0 w cv fv p := by
  obtain ⟨h1, xs, h2⟩ := h
  exact ⟨h1.low hs, xs, h2.low hs⟩
theorem Laid.blw {B : Nat} {w w' : World} (h : Laid w) (f : Below B w w') (hB : 0 < B) : Laid w' := (f.cell (p := ⟨0, 0, none⟩) hB).trans h
set_option maxRecDepth 100000 in
set_option maxHeartbeats 6400000 in
theorem decP_any {w : World} {v : Value} {B : List Int} (hR : Rd w v B) (hB : BOk B) (hN : B.length ≤ 140737488355328) (hl : Laid w) : Calls Tryz.prog 7 #[v] w fun e w' => ∃ ca cn cc fa fn fc, e = .returned (.tuple #[.agg #[.slice ca cn cc, .slice fa fn fc], .int .i64 (decP B).2]) ∧ Below w.heap.size w w' ∧ ((decP B).2 = 0 → PW w w' (.slice ca cn cc) (.slice fa fn fc) (decP B).1) ∧ ((decP B).2 ≠ 0 → Value.agg #[.slice ca cn cc, .slice fa fn fc] = .agg #[.slice none 0 0, .slice none 0 0]) := by
  obtain ⟨z, hz⟩ : ∃ z, Hid (decP B = z) := ⟨_, rfl⟩
  rw [unhide hz]
  unfold decP at hz
  have gl : 0 < w.heap.size := World.block_lt_of_cell? _ _ hl
  obtain ⟨va, vc, rfl⟩ : ∃ va vc, v = .slice va B.length vc := by
    rcases hR with ⟨e1, e2⟩ | ⟨b, off, cap, e, _⟩
    · exact ⟨none, 0, by rw [e1, e2]; rfl⟩
    · exact ⟨_, _, e⟩
  obtain ⟨N, hNN⟩ : ∃ N, Hid (B.length = N) := ⟨_, rfl⟩
  rw [unhide hNN] at hR hN hz ⊢
  obtain ⟨W1, eW1⟩ : ∃ W1, Hid (W1 = w.alloc (.cells #[.slice none 0 0, .slice none 0 0] 27)) := ⟨_, rfl⟩
  have HA : Hid (Bx W1 2 w.heap.size [.slice none 0 0, .slice none 0 0]) := by rw [unhide eW1]; exact Bx.new rfl rfl
  have HF : Hid (Below w.heap.size w W1) := by rw [unhide eW1]; exact (Below.refl _ w).alloc (Nat.le_refl _) _
  have hR1 : Rd W1 (.slice va N vc) B := by
    rcases hR with ⟨e1, e2⟩ | ⟨b, off, cap, e, c1, c2, c3, c4⟩
    · exact .inl ⟨e1, e2⟩
    · exact .inr ⟨b, off, cap, e, c1, c2, Nat.lt_of_lt_of_le c3 (unhide HF).size, fun i hi => ((unhide HF).cell (p := ⟨b, off + i, none⟩) c3).trans (c4 i hi)⟩
  have HNR := hide (newReader_any (.slice va N vc) B W1 hR1 (by rw [unhide hNN]; exact hN))
  have HLD := hide hl
  have HGL := hide gl
  have HBO := hide hB
  have HA1 := HA
  clear hR hR1 hB hl gl
  go_enter Tryz.func7, Tryz.ntmps7
  by_cases q1 : 4194304 < N
  · rw [if_pos q1] at hz
    have m0 := (unhide HA).cell (j := 0) rfl
    have m1 := (unhide HA).cell (j := 1) rfl
    have i1 : (N : Int) > 4194304 := by omega
    go_wp2_with fail
    refine bodyPost_ret (v := .tuple #[.agg #[.slice none 0 0, .slice none 0 0], .int .i64 5]) (by rw [results_ct (fn := Tryz.f7) (p := 2) (q := 3) (t1 := 27) rfl _ _ _ (a1 := ⟨w.heap.size, 0, none⟩) rfl (load27 (by have := unhide HA; rwa [unhide eW1] at this))]; rfl) rfl ?_
    rw [← unhide hz]
    exact ⟨_, _, _, _, _, _, rfl, by rw [← unhide eW1]; exact unhide HF, fun q => absurd q (by simp), fun _ => rfl⟩
  · rw [if_neg q1] at hz
    have i1 : ¬ (N : Int) > 4194304 := by omega
    go_wp2_with fail
    rw [← unhide eW1]
    clear eW1
    refine (unhide HNR).mono ?_
    rintro e W2 ⟨r, rb, v2, rfl, hr, hrb, hrd, hb2⟩
    have hs : ∃ rb', RS W2 r rb' (B, 0) ∧ rb' < W2.heap.size := by
      have hsz := hb2.size
      have h0 := (unhide HF).size
      rcases hrd.rd with ⟨e1, e2⟩ | ⟨b, off, cap, e, _, _, c3, _⟩
      · refine ⟨0, ⟨v2, ⟨hrd.c0, hrd.c1, hrd.f0, hrd.f1, hrd.rd, fun b off len cap e => ?_, ?_⟩, unhide HBO, ?_⟩, ?_⟩
        · rw [e1] at e; cases e
        · have := unhide HGL; omega
        · show B.length ≤ _; rw [unhide hNN]; exact hN
        · have := unhide HGL; omega
      · exact ⟨rb, ⟨v2, hrd, unhide HBO, by show B.length ≤ _; rw [unhide hNN]; exact hN⟩, by rw [← hrd.ap _ _ _ _ e]; exact c3⟩
    obtain ⟨rb', hs, hrb'⟩ := hs
    have HRP := hide (rdP_any hs hrb')
    have HOK := hide (rdP_ok (B, 0))
    have HA : Hid (Bx W2 2 w.heap.size [.slice none 0 0, .slice none 0 0]) := (unhide HA).fr (S := fun _ => False) (Fr.of_below hb2) (fun e => e)
    have HW12 : Hid (Below w.heap.size w W2) := (unhide HF).trans (hb2.mono (unhide HF).size)
    have HW2s : Hid (w.heap.size < W2.heap.size) := (unhide HA).lt
    have HRw : Hid (w.heap.size < r) := by have := (unhide HA1).lt; unfold Hid; omega
    generalize rdP (B, 0) = p at *
    clear hs hrb' hrd hb2 hr hrb HNR
    go_wp2_with fail
    refine (unhide HRP).mono ?_
    rintro e X3 ⟨ca, cn, cc, fa, fn, fc, rfl, hf, hpg⟩
    have HA : Hid (Bx X3 2 w.heap.size [.slice none 0 0, .slice none 0 0]) := (unhide HA).fr hf (by have := unhide HRw; omega)
    have HW3 : Hid (Below w.heap.size w X3) := (unhide HW12).trans (Fr.below hf (unhide HW12).size (fun k hk q => by have := unhide HRw; omega))
    have lb : w.heap.size < X3.heap.size := (unhide HA).lt
    have m0 := (unhide HA).cell (j := 0) rfl
    have m1 := (unhide HA).cell (j := 1) rfl
    have y0 := (unhide HA).free 0
    have y1 := (unhide HA).free 1
    by_cases q2 : p.2 = 0
    · rw [if_neg (by simp [q2])] at hz
      have d2 : (p.2 != 0) = false := by simp [q2]
      obtain ⟨X4, eX4⟩ : ∃ X4, Hid (X4 = X3.alloc (.cells #[.slice ca cn cc, .slice fa fn fc] 27)) := ⟨_, rfl⟩
      have b34 : Below X3.heap.size X3 X4 := by rw [unhide eX4]; exact (Below.refl _ _).alloc (Nat.le_refl _) _
      have HB4 : Hid (Bx X4 2 X3.heap.size [.slice ca cn cc, .slice fa fn fc]) := by rw [unhide eX4]; exact Bx.new rfl rfl
      have HPW := hide ((hpg q2).fr (S := fun _ => False) (Fr.of_below b34) (fun _ _ e => e))
      have HW4 : Hid (Below w.heap.size w X4) := (unhide HW3).trans (b34.mono (unhide HW3).size)
      have HA4 : Hid (Bx X4 2 w.heap.size [.slice none 0 0, .slice none 0 0]) := (unhide HA).fr (S := fun _ => False) (Fr.of_below b34) (fun e => e)
      have HCK := hide (pCheck_any (unhide HPW).pgv (unhide HOK) ((unhide HLD).blw (unhide HW4) (unhide HGL)))
      obtain ⟨k, a, y, hRS⟩ : ∃ k a y, rsV (ckF p.1) = .tuple #[.agg #[.int .i64 k, .int .i64 a], .int .i64 y] := by
        cases ckF p.1 with
        | none => exact ⟨0, 0, 0, rfl⟩
        | some e => obtain ⟨k, a, y⟩ := e; exact ⟨k, a, y, rfl⟩
      have HRS := hide hRS
      rw [hRS] at HCK
      clear hf hpg q2 b34 hRS m0 m1 y0 y1
      go_wp2_with fail
      rw [← unhide eX4]
      clear eX4
      refine (unhide HCK).mono ?_
      rintro e X5 ⟨rfl, hb5⟩
      have f5 : Fr (fun _ => False) X4 X5 := Fr.of_below hb5
      have HA : Hid (Bx X5 2 w.heap.size [.slice none 0 0, .slice none 0 0]) := (unhide HA4).fr f5 (fun e => e)
      have HB5 : Hid (Bx X5 2 X3.heap.size [.slice ca cn cc, .slice fa fn fc]) := (unhide HB4).fr f5 (fun e => e)
      have HW5 : Hid (Below w.heap.size w X5) := (unhide HW4).trans (hb5.mono (unhide HW4).size)
      have HPW5 := hide ((unhide HPW).fr f5 (fun _ _ e => e))
      have lb5 : w.heap.size < X5.heap.size := (unhide HA).lt
      have lc5 : X3.heap.size < X5.heap.size := (unhide HB5).lt
      have m0 := (unhide HA).cell (j := 0) rfl
      have m1 := (unhide HA).cell (j := 1) rfl
      have y0 := (unhide HA).free 0
      have y1 := (unhide HA).free 1
      have n0 := (unhide HB5).cell (j := 0) rfl
      have n1 := (unhide HB5).cell (j := 1) rfl
      obtain ⟨X6, eX6⟩ : ∃ X6, Hid (X6 = X5.alloc (.cells #[.int .i64 k, .int .i64 a] 41)) := ⟨_, rfl⟩
      have b56 : Below X5.heap.size X5 X6 := by rw [unhide eX6]; exact (Below.refl _ _).alloc (Nat.le_refl _) _
      have HW6 : Hid (Below w.heap.size w X6) := (unhide HW5).trans (b56.mono (unhide HW5).size)
      clear hb5 f5 b56
      by_cases q3 : y = 0
      · have hcn : ckF p.1 = none := by
          cases hc : ckF p.1 with
          | none => rfl
          | some e =>
            obtain ⟨k', a', y'⟩ := e
            have := unhide HRS
            rw [hc] at this
            simp only [rsV, Value.tuple.injEq] at this
            simp at this
            exact absurd (this.2.symm ▸ q3 : y' = 0) (ckF_ne hc)
        rw [hcn] at hz
        have d3 : (y != 0) = false := by simp [q3]
        clear q3
        go_wp2_with fail
        have hA6 := (((unhide HA).set (j := 0) (by omega) (.slice ca cn cc)).set (j := 1) (by omega) (.slice fa fn fc)).fr (S := fun _ => False) ((Fr.refl _ _).alloc (.cells #[.int .i64 k, .int .i64 a] 41)) (fun e => e)
        have g : Fr (fun k => k = w.heap.size) X5 (((X5.setCell ⟨w.heap.size, 0, none⟩ (.slice ca cn cc)).setCell ⟨w.heap.size, 1, none⟩ (.slice fa fn fc)).alloc (.cells #[.int .i64 k, .int .i64 a] 41)) := (((Fr.refl (fun k => k = w.heap.size) X5).setCell ⟨w.heap.size, 0, none⟩ (.inr rfl) _).setCell ⟨w.heap.size, 1, none⟩ (.inr rfl) _).alloc _
        refine bodyPost_ret (v := .tuple #[.agg #[.slice ca cn cc, .slice fa fn fc], .int .i64 0]) (by rw [results_ct (fn := Tryz.f7) (p := 2) (q := 3) (t1 := 27) rfl _ _ _ (a1 := ⟨w.heap.size, 0, none⟩) rfl (load27 hA6)]; rfl) rfl ?_
        rw [← unhide hz]
        exact ⟨_, _, _, _, _, _, rfl, (unhide HW5).trans (g.below (unhide HW5).size (fun k hk q => by omega)), fun _ => PW.low' ((unhide HPW5).fr g (fun k hk q => by have := unhide HW2s; omega)) (by have := unhide HW2s; omega), fun q => absurd rfl q⟩
      · have hcs : ∃ k' a', ckF p.1 = some (k', a', y) := by
          cases hc : ckF p.1 with
          | none =>
            have := unhide HRS
            rw [hc] at this
            simp only [rsV, Value.tuple.injEq] at this
            simp at this
            exact absurd this.2.symm q3
          | some e =>
            obtain ⟨k', a', y'⟩ := e
            have := unhide HRS
            rw [hc] at this
            simp only [rsV, Value.tuple.injEq] at this
            simp at this
            exact ⟨k', a', by rw [this.2]⟩
        obtain ⟨k', a', hcs⟩ := hcs
        rw [hcs] at hz
        have HE := hide q3
        have d3 : (y != 0) = true := by simp [q3]
        clear q3 hcs
        go_wp2_with fail
        have hA6 := (((unhide HA).set (j := 0) (by omega) (.slice none 0 0)).set (j := 1) (by omega) (.slice none 0 0)).fr (S := fun _ => False) ((Fr.refl _ _).alloc (.cells #[.int .i64 k, .int .i64 a] 41)) (fun e => e)
        have g : Fr (fun k => k = w.heap.size) X5 (((X5.setCell ⟨w.heap.size, 0, none⟩ (.slice none 0 0)).setCell ⟨w.heap.size, 1, none⟩ (.slice none 0 0)).alloc (.cells #[.int .i64 k, .int .i64 a] 41)) := (((Fr.refl (fun k => k = w.heap.size) X5).setCell ⟨w.heap.size, 0, none⟩ (.inr rfl) _).setCell ⟨w.heap.size, 1, none⟩ (.inr rfl) _).alloc _
        refine bodyPost_ret (v := .tuple #[.agg #[.slice none 0 0, .slice none 0 0], .int .i64 y]) (by rw [results_ct (fn := Tryz.f7) (p := 2) (q := 3) (t1 := 27) rfl _ _ _ (a1 := ⟨w.heap.size, 0, none⟩) rfl (load27 hA6)]; rfl) rfl ?_
        rw [← unhide hz]
        exact ⟨_, _, _, _, _, _, rfl, (unhide HW5).trans (g.below (unhide HW5).size (fun k hk q => by omega)), fun q => absurd q (unhide HE), fun _ => rfl⟩
    · rw [if_pos q2] at hz
      have HE := hide q2
      have d2 : (p.2 != 0) = true := by simp [q2]
      clear hf hpg q2
      go_wp2_with fail
      have hA6 := (((unhide HA).set (j := 0) (by omega) (.slice none 0 0)).set (j := 1) (by omega) (.slice none 0 0)).fr (S := fun _ => False) ((Fr.refl _ _).alloc (.cells #[.slice ca cn cc, .slice fa fn fc] 27)) (fun e => e)
      have g : Fr (fun k => k = w.heap.size) X3 (((X3.setCell ⟨w.heap.size, 0, none⟩ (.slice none 0 0)).setCell ⟨w.heap.size, 1, none⟩ (.slice none 0 0)).alloc (.cells #[.slice ca cn cc, .slice fa fn fc] 27)) := (((Fr.refl (fun k => k = w.heap.size) X3).setCell ⟨w.heap.size, 0, none⟩ (.inr rfl) _).setCell ⟨w.heap.size, 1, none⟩ (.inr rfl) _).alloc _
      refine bodyPost_ret (v := .tuple #[.agg #[.slice none 0 0, .slice none 0 0], .int .i64 p.2]) (by rw [results_ct (fn := Tryz.f7) (p := 2) (q := 3) (t1 := 27) rfl _ _ _ (a1 := ⟨w.heap.size, 0, none⟩) rfl (load27 hA6)]; rfl) rfl ?_
      rw [← unhide hz]
      exact ⟨_, _, _, _, _, _, rfl, (unhide HW3).trans (g.below (unhide HW3).size (fun k hk q => by omega)), fun q => absurd q (unhide HE), fun _ => rfl⟩
end Go.Proofs.YtpfogphpeegfdaaGreatDoor
