/-
  The smallest program and its bytes: what the kernel reckons; small.
-/
import Derived.Test.YtpfogphpeegfdaaGreatDoorEFl
import Derived.Lib.SlBytesConst
import Derived.Test.YtpfogphpeegfdaaGreatDoorSPm
import Derived.Test.YtpfogphpeegfdaaGreatDoorCopy
namespace Go.Proofs.YtpfogphpeegfdaaGreatDoor
open Go.RowKit
set_option linter.unusedVariables false
set_option linter.unusedSimpArgs false

/-- The form of a program. -/
def pfm (p : Pg) : List Int := [80, 84, 80, 1] ++ (lfm cfm p.consts ++ lfm ffm p.funcs)
/-- What Encode answers. -/
noncomputable def enP (p : Pg) : List Int × Int := match ckF p with
  | some (_, _, y) => ([], y)
  | none => if 4194304 < (pfm p).length then ([], 5) else (pfm p, 0)
set_option maxRecDepth 100000 in
set_option maxHeartbeats 6400000 in
theorem enP_any {w : World} {ca fa : Option Addr} {cn cc fn fc : Nat} {p : Pg} (hp : PgV w (.agg #[.slice ca cn cc, .slice fa fn fc]) p) (hok : OkP p) (hl : Laid w) (hnn : ckF p = none → (∀ c ∈ p.consts, NnC c) ∧ (∀ f ∈ p.funcs, NnF f) ∧ p.consts.length ≤ 512 ∧ p.funcs.length ≤ 128) : Calls Tryz.prog 13 #[.agg #[.slice ca cn cc, .slice fa fn fc]] w fun e w' => ∃ v', e = .returned (.tuple #[v', .int .i64 (enP p).2]) ∧ Below w.heap.size w w' ∧ ((enP p).2 = 0 → w'.ownsRow w.heap.size 5 1 v' (enP p).1.length ((enP p).1.map By)) ∧ ((enP p).2 ≠ 0 → v' = .slice none 0 0) := by
  obtain ⟨z, hz⟩ : ∃ z, Hid (enP p = z) := ⟨_, rfl⟩
  rw [unhide hz]
  unfold enP at hz
  obtain ⟨X1, eX1⟩ : ∃ X1, Hid (X1 = w.alloc (.cells #[.slice ca cn cc, .slice fa fn fc] 27)) := ⟨_, rfl⟩
  have HB1 : Hid (Bx X1 2 w.heap.size [.slice ca cn cc, .slice fa fn fc]) := by rw [unhide eX1]; exact Bx.new rfl rfl
  have HW1 : Hid (Below w.heap.size w X1) := by rw [unhide eX1]; exact (Below.refl _ w).alloc (Nat.le_refl _) _
  have gl : 0 < w.heap.size := World.block_lt_of_cell? _ _ hl
  have HCK := hide (pCheck_any (hp.below (unhide HW1) (Nat.le_refl _)) hok (hl.blw (unhide HW1) gl))
  obtain ⟨k, a, y, hRS⟩ : ∃ k a y, rsV (ckF p) = .tuple #[.agg #[.int .i64 k, .int .i64 a], .int .i64 y] := by
    cases ckF p with
    | none => exact ⟨0, 0, 0, rfl⟩
    | some e => obtain ⟨k, a, y⟩ := e; exact ⟨k, a, y, rfl⟩
  have HRS := hide hRS
  rw [hRS] at HCK
  have HPG := hide hp
  have HNN := hide hnn
  clear hp hok hl hnn hRS gl
  go_enter Tryz.func13, Tryz.ntmps13
  go_wp2_with fail
  rw [← unhide eX1]
  clear eX1
  refine (unhide HCK).mono ?_
  rintro e X2 ⟨rfl, hb2⟩
  have HB2 : Hid (Bx X2 2 w.heap.size [.slice ca cn cc, .slice fa fn fc]) := (unhide HB1).fr (S := fun _ => False) (Fr.of_below hb2) (fun e => e)
  have HW2 : Hid (Below w.heap.size w X2) := (unhide HW1).trans (hb2.mono (unhide HW1).size)
  obtain ⟨X3, eX3⟩ : ∃ X3, Hid (X3 = X2.alloc (.cells #[.int .i64 k, .int .i64 a] 41)) := ⟨_, rfl⟩
  have b23 : Below X2.heap.size X2 X3 := by rw [unhide eX3]; exact (Below.refl _ _).alloc (Nat.le_refl _) _
  have HB3 : Hid (Bx X3 2 w.heap.size [.slice ca cn cc, .slice fa fn fc]) := (unhide HB2).fr (S := fun _ => False) (Fr.of_below b23) (fun e => e)
  have HW3 : Hid (Below w.heap.size w X3) := (unhide HW2).trans (b23.mono (unhide HW2).size)
  clear hb2 b23
  by_cases q3 : y = 0
  · have hcn : ckF p = none := by
      cases hc : ckF p with
      | none => rfl
      | some e =>
        obtain ⟨k', a', y'⟩ := e
        have := unhide HRS
        rw [hc] at this
        simp only [rsV, Value.tuple.injEq] at this
        simp at this
        exact absurd (this.2.symm ▸ q3 : y' = 0) (ckF_ne hc)
    rw [hcn] at hz
    simp only at hz
    obtain ⟨n1, n2, n3, n4⟩ := unhide HNN hcn
    have d3 : (y != 0) = false := by simp [q3]
    have HNW := hide (newWriter_any X3 X3.heap.size rfl)
    have N1 := hide n1
    have N2 := hide n2


    clear q3 hcn n1 n2
    go_wp2_with fail
    rw [← unhide eX3]
    clear eX3
    refine (unhide HNW).mono ?_
    rintro e X4 ⟨rfl, ht, hb4, hs4⟩
    have HI4 : Hid (Hi X3 X3.heap.size (.slice none 0 0)) := ⟨Nat.le_refl _, by simp [Value.ownBlock]⟩
    have HT4 : Hid (Wtr (X4.alloc (.cells #[.int .u8 80, .int .u8 84, .int .u8 80, .int .u8 1] 5 (4, 5))) X3.heap.size (.slice none 0 0) []) := ht.al _
    have HB4 : Hid (Below X3.heap.size X3 (X4.alloc (.cells #[.int .u8 80, .int .u8 84, .int .u8 80, .int .u8 1] 5 (4, 5)))) := hb4.alloc hb4.size _
    have HRW := hide (raw_any X3.heap.size (.slice none 0 0) [] ⟨X4.heap.size, 0, none⟩ 4 [80, 84, 80, 1] _ (unhide HT4) (by simp) (fun j u hu => by
      rw [Go.WideShapes.add_plain]
      simp only [World.cell?, heap_alloc_new, Nat.zero_add]
      simpa [By] using hu))
    have hcv := Lib.run_convert_bytes_const (P := Tryz.prog) X4 22 5 #[.int .u8 80, .int .u8 84, .int .u8 80, .int .u8 1] 4 4 Tryz.underlying22 Tryz.underlying5
    simp only [List.size_toArray, List.length_cons, List.length_nil, Nat.zero_add, Nat.reduceAdd] at hcv
    clear ht hb4 hs4
    go_wp2_with fail
    refine (unhide HRW).mono ?_
    rintro e X5 ⟨rfl, v5, ht, hst⟩
    obtain ⟨hi5, hb5⟩ := (unhide HI4).step hst (unhide HB4).size
    have HT := hide ht
    have HI := hide hi5
    have HBl : Hid (Below X3.heap.size X3 X5) := (unhide HB4).trans hb5
    have lb : w.heap.size < X3.heap.size := (unhide HB3).lt
    have c0 := Below.heldInW (unhide HBl) lb ((unhide HB3).cell (j := 0) rfl)
    have HPG3 := hide ((unhide HPG).below (unhide HW3) (Nat.le_refl _))
    obtain ⟨hcr, hfr⟩ : Rx X3 3 (.slice ca cn cc) p.consts.length (flt enC p.consts) ∧ Rfs X3 (.slice fa fn fc) p.funcs := by
      obtain ⟨u1, u2, e, h1, h2⟩ := unhide HPG3
      cases e
      exact ⟨h1, h2⟩
    have HCR := hide hcr
    have HFR := hide hfr
    have l0 := lfm_len cfm 5000 p.consts (fun x hx => cfm_len (unhide N1 x hx))
    have l1 := lfm_len ffm 24000 p.funcs (fun x hx => ffm_len (unhide N2 x hx))
    clear ht hst hi5 hb5 hcr hfr HT4 HI4 HB4 HRW HNW
    go_wp2_with fail
    clear c0
    refine (wLC_any (unhide HT) (unhide HI) (unhide HBl) (unhide HCR) (unhide N1) (by omega) (by simp)).mono ?_
    rintro e X6 ⟨rfl, v6, ht, hst⟩
    obtain ⟨hi6, hb6⟩ := (unhide HI).step hst (unhide HBl).size
    have HT := hide ht
    have HI := hide hi6
    have HBl : Hid (Below X3.heap.size X3 X6) := (unhide HBl).trans hb6
    have c1 := Below.heldInW (unhide HBl) lb ((unhide HB3).cell (j := 1) rfl)
    clear ht hst hi6 hb6
    go_wp2_with fail
    clear c1
    refine (wLF_any (unhide HT) (unhide HI) (unhide HBl) (unhide HFR) (unhide N2) (by omega) (by simp only [List.length_append, List.length_cons, List.length_nil]; omega)).mono ?_
    rintro e X7 ⟨rfl, v7, ht, hst⟩
    obtain ⟨hi7, hb7⟩ := (unhide HI).step hst (unhide HBl).size
    have HT : Hid (Wtr X7 X3.heap.size v7 (pfm p)) := by unfold Hid; simpa [pfm, List.append_assoc] using ht
    have HBl : Hid (Below X3.heap.size X3 X7) := (unhide HBl).trans hb7
    have hpl : (pfm p).length ≤ 10000000 := by unfold pfm; simp only [List.length_append, List.length_cons, List.length_nil]; omega
    have HLN := hide (wLen_any (unhide HT))
    have HDN := hide (done_any X3.heap.size v7 (pfm p) X7 (unhide HT) (by omega))
    have HW7 : Hid (Below w.heap.size w X7) := (unhide HW3).trans ((unhide HBl).mono (unhide HW3).size)
    generalize pfm p = q at *
    obtain ⟨N, hN⟩ : ∃ N, Hid (q.length = N) := ⟨_, rfl⟩
    rw [unhide hN] at hpl hz HLN HDN
    clear ht hst hi7 hb7 l0 l1
    go_wp2_with fail
    refine (unhide HLN).mono ?_
    rintro e X7' ⟨rfl, e7⟩
    obtain rfl := e7.symm
    clear e7
    by_cases qm : 4194304 < N
    · rw [if_pos qm] at hz
      have i1 : (N : Int) > 4194304 := by omega
      go_wp2_with fail
      go_ret2
      rw [← unhide hz]
      exact ⟨_, rfl, unhide HW7, fun q => absurd q (by simp), fun _ => rfl⟩
    · rw [if_neg qm] at hz
      have i1 : ¬ (N : Int) > 4194304 := by omega
      go_wp2_with fail
      refine (unhide HDN).mono ?_
      rintro e X8 ⟨v8, rfl, how, hb8⟩
      have HOW := hide how
      have HW8 : Hid (Below w.heap.size w X8) := (unhide HW7).trans (hb8.mono (unhide HW7).size)
      have HS78 : Hid (w.heap.size ≤ X7.heap.size) := (unhide HW7).size
      clear how hb8
      go_wp2_with fail
      go_ret2
      rw [← unhide hz]
      refine ⟨_, rfl, unhide HW8, fun _ => ?_, fun q => absurd rfl q⟩
      have h9 := unhide HOW
      rw [← unhide hN] at h9
      exact own_mono h9 (unhide HS78)
  · have hcs : ∃ k' a', ckF p = some (k', a', y) := by
      cases hc : ckF p with
      | none =>
        have := unhide HRS
        rw [hc] at this
        simp only [rsV, Value.tuple.injEq] at this
        simp at this
        exact absurd this.2.symm q3
      | some e =>
        obtain ⟨k', a', y'⟩ := e
        have := unhide HRS
        rw [hc] at this
        simp only [rsV, Value.tuple.injEq] at this
        simp at this
        exact ⟨k', a', by rw [this.2]⟩
    obtain ⟨k', a', hcs⟩ := hcs
    rw [hcs] at hz
    have HE := hide q3
    have d3 : (y != 0) = true := by simp [q3]
    clear q3 hcs
    go_wp2_with fail
    rw [← unhide eX3]
    go_ret2
    rw [← unhide hz]
    exact ⟨_, rfl, unhide HW3, fun q => absurd q (unhide HE), fun _ => rfl⟩

set_option linter.unusedVariables false
set_option maxRecDepth 100000
/-- The smallest program. -/
def smP : Pg := ⟨[], [⟨⟨#[109, 97, 105, 110]⟩, 0, 0, [(1, 0), (44, 0)], []⟩]⟩
/-- Its bytes. -/
def smB : List Int := [80, 84, 80, 1, 0, 1, 4, 109, 97, 105, 110, 0, 0, 2, 1, 44, 0]
theorem sm_ck : ckF smP = none := by kernel_rfl
theorem sm_en : enP smP = (smB, 0) := by kernel_rfl
theorem sm_dec : decP smB = (smP, 0) := by kernel_rfl
theorem sm_1 : (decP (smB.take 16)).2 = 2 := by kernel_rfl
theorem sm_2 : (decP (smB ++ [0])).2 = 3 := by kernel_rfl
theorem sm_3 : (decP (smB.set 3 5)).2 = 4 := by kernel_rfl
theorem sm_4 : (decP []).2 = 2 := by kernel_rfl
theorem sm_ok : OkP smP := by
  refine ⟨fun c hc => by simp [smP] at hc, fun i f hf => ?_⟩
  have := List.mem_of_getElem? hf
  simp only [smP, List.mem_singleton] at this
  subst this
  exact ⟨by simp, by decide⟩
theorem sm_nn : ckF smP = none → (∀ c ∈ smP.consts, NnC c) ∧ (∀ f ∈ smP.funcs, NnF f) ∧ smP.consts.length ≤ 512 ∧ smP.funcs.length ≤ 128 := by
  intro _
  refine ⟨fun c hc => by simp [smP] at hc, fun f hf => ?_, by decide, by decide⟩
  simp only [smP, List.mem_singleton] at hf
  subst hf
  refine ⟨by decide, ⟨Int.le_refl _, by decide⟩, ⟨Int.le_refl _, by decide⟩, by simp, fun q hq => ?_, fun x hx => by simp at hx, by simp, ?_⟩
  · simp only [List.mem_cons, List.not_mem_nil, or_false] at hq
    rcases hq with rfl | rfl <;> exact ⟨⟨by decide, by decide⟩, ⟨by decide, by decide⟩⟩
  · have : (encB [(1, 0), (44, 0)]).length = 2 := by kernel_rfl
    rw [this]; decide
/-- A new row. -/
theorem Ro.new {w : World} {sz n : Nat} {arr : Array Value} {t : TypeId} (h : arr.size = n * sz) (hn : n ≤ maxLen) {b : Nat} (hb : w.heap.size = b) : Ro (w.alloc (.cells arr t)) sz (.slice (some ⟨b, 0, none⟩) n n) n arr.toList := by
  subst hb
  refine ⟨by simp [h], .inr ⟨w.heap.size, 0, n, arr, t, rfl, heap_alloc_new w _, Nat.le_refl _, hn, by omega, fun j hj => ?_⟩⟩
  rw [Nat.zero_add]; simp
theorem results_c {fn : Func} {p : Tmp} {t1 : TypeId} (h : fn.results = #[.cell p t1]) (tmps : Array Value) (P : Program) (w : World) {a1 : Addr} {v1 : Value} (e1 : tmps[p]?.getD undef = .pointer (some a1)) (l1 : (loadVar t1 a1).run P w = .ok v1 w) :
    (results fn tmps).run P w = .ok v1 w := by
  simp [results, h, e1, asAddr, l1]
set_option maxHeartbeats 6400000 in
theorem small_any (w : World) : Calls Tryz.prog 18 #[] w fun e w' => ∃ ca cn cc fa fn fc, e = .returned (.agg #[.slice ca cn cc, .slice fa fn fc]) ∧ PgV w' (.agg #[.slice ca cn cc, .slice fa fn fc]) smP ∧ Below w.heap.size w w' := by
  go_enter Tryz.func18, Tryz.ntmps18
  go_wp2_with fail
  obtain ⟨W, eW⟩ : ∃ W, Hid (W = (((w.alloc (.cells #[.slice none 0 0, .slice (some ⟨w.heap.size + 1 + 1, 0, none⟩) 1 1] 27)).alloc (.cells #[.int .i64 1, .int .i64 0, .int .i64 44, .int .i64 0] 63)).alloc (.cells #[.string ⟨#[109, 97, 105, 110]⟩, .int .i64 0, .int .i64 0, .slice (some ⟨w.heap.size + 1, 0, none⟩) 2 2, .slice none 0 0] 54))) := ⟨_, rfl⟩
  rw [← unhide eW]
  have F0 : Fr (fun _ => False) (w.alloc (.cells #[.slice none 0 0, .slice (some ⟨w.heap.size + 1 + 1, 0, none⟩) 1 1] 27)) W := by rw [unhide eW]; exact ((Fr.refl _ _).alloc _).alloc _
  have F1 : Fr (fun _ => False) ((w.alloc (.cells #[.slice none 0 0, .slice (some ⟨w.heap.size + 1 + 1, 0, none⟩) 1 1] 27)).alloc (.cells #[.int .i64 1, .int .i64 0, .int .i64 44, .int .i64 0] 63)) W := by rw [unhide eW]; exact (Fr.refl _ _).alloc _
  have B0 : Bx W 2 w.heap.size [.slice none 0 0, .slice (some ⟨w.heap.size + 1 + 1, 0, none⟩) 1 1] := (Bx.new rfl rfl).fr F0 (fun e => e)
  have B1 : Ro W 2 (.slice (some ⟨w.heap.size + 1, 0, none⟩) 2 2) 2 [.int .i64 1, .int .i64 0, .int .i64 44, .int .i64 0] := (Ro.new (sz := 2) (n := 2) rfl (by decide) (by simp)).fr F1 (fun _ _ e => e)
  have B2 : Bx W 5 (w.heap.size + 1 + 1) [.string ⟨#[109, 97, 105, 110]⟩, .int .i64 0, .int .i64 0, .slice (some ⟨w.heap.size + 1, 0, none⟩) 2 2, .slice none 0 0] := by rw [unhide eW]; exact Bx.new rfl (by simp)
  have HBW : Below w.heap.size w W := by rw [unhide eW]; exact (((Below.refl _ w).alloc (Nat.le_refl _) _).alloc (by simp) _).alloc (by simp; omega) _
  refine bodyPost_ret (v := .agg #[.slice none 0 0, .slice (some ⟨w.heap.size + 1 + 1, 0, none⟩) 1 1]) (by rw [results_c (fn := Tryz.f18) (p := 0) (t1 := 27) rfl _ _ _ (a1 := ⟨w.heap.size, 0, none⟩) rfl (load27 B0)]) rfl ?_
  refine ⟨_, _, _, _, _, _, rfl, ⟨_, _, rfl, Rx.nil _ _, [⟨⟨#[109, 97, 105, 110]⟩, 0, 0, .slice (some ⟨w.heap.size + 1, 0, none⟩) 2 2, .slice none 0 0⟩], rfl, Rx.of_ro B2, fun i f x hf hx => ?_⟩, HBW⟩
  have h1 := List.mem_of_getElem? hf
  have h2 := List.mem_of_getElem? hx
  simp only [smP, List.mem_singleton] at h1 h2
  subst h1 h2
  exact ⟨rfl, rfl, rfl, Rx.of_ro B1, Rx.nil _ _⟩
end Go.Proofs.YtpfogphpeegfdaaGreatDoor
