/-
  fitsAll, of the statements, for any list.
-/
import Derived.Test.YtbphddocgdihjaaDoorVFitA
namespace Go.Proofs.YtbphddocgdihjaaDoor
open Go.RowKit
set_option linter.unusedVariables false
set_option linter.unusedSimpArgs false
/-- P10.3 of one function. -/
def FitA (f : Fc) (hts : List Int) : Prop := hts[0]? = some 0 ∧ (∃ op a, f.code[f.code.length - 1]? = some (op, a) ∧ enB op = true) ∧ ∀ p, p < f.code.length → ∃ op a z, FitO f hts p op a z
/-- What fitsAll answers. -/
def FitAR (f : Fc) (hts : List Int) (w : World) (e : Ending) (w' : World) : Prop := ∃ b, e = .returned (.bool b) ∧ (b = true ↔ FitA f hts) ∧ Below w.heap.size w w'
set_option maxRecDepth 100000 in
set_option maxHeartbeats 6400000 in
theorem fitsAll_any {w : World} {f : Fc} {x : Fv} {hv : Value} {hts : List Int} (hx : FnV w f x) (hr : Rn w hv hts) (hf : OkF f) (hl : hts.length = f.code.length) (hbd : ∀ y ∈ hts, -10000 ≤ y ∧ y ≤ 10000) :
    Calls Tryd.prog 8 #[.agg #[.string x.name, .int .i64 x.params, .int .i64 x.locals, x.cv, x.hv], hv] w fun e w' => FitAR f hts w e w' := by
  have n1 := hf.n1
  obtain ⟨⟨op, a⟩, hi⟩ : ∃ q, f.code[f.code.length - 1]? = some q := ⟨_, List.getElem?_eq_getElem (by omega)⟩
  obtain ⟨z, h0⟩ : ∃ z, hts[0]? = some z := ⟨_, List.getElem?_eq_getElem (by omega)⟩
  obtain ⟨en, hen⟩ : ∃ en, Hid (enB op = en) := ⟨_, rfl⟩
  have HX := hide hx
  have HR := hide hr
  have HOF := hide hf
  have HBD := hide hbd
  have HI0 := hide hi
  have HZ0 := hide h0
  obtain ⟨N, hNN⟩ : ∃ N, Hid (f.code.length = N) := ⟨_, rfl⟩
  obtain ⟨M, hM⟩ : ∃ M, f.code.length = M + 1 := ⟨f.code.length - 1, by have := hf.n1; omega⟩
  have hNM : N = M + 1 := by rw [← unhide hNN, hM]
  have hN2 : N ≤ 2000 := by rw [← unhide hNN]; exact hf.nm
  have hM1 : f.code.length - 1 = M := by omega
  rw [hM1] at hi
  obtain ⟨cb, co, cc, ecv, _, _, lc, hc⟩ := Rx.elem zI hx.2.2.2.1 hi
  have k0 := hc 0 _ rfl
  rw [Nat.add_zero] at k0
  obtain ⟨_, ha2, hc2, ehv, hhl, hhm, _⟩ := hx.2.2.2.2
  obtain ⟨hb, ho, hcap, ehts, _, kh⟩ := hr.at h0
  rw [Nat.add_zero] at kh
  have HL := hide hl
  rw [hl, unhide hNN] at ehts
  rw [unhide hNN] at ecv
  have lh := World.block_lt_of_cell? _ _ kh
  have HE : Hid (∀ w, Calls Tryd.prog 17 #[.int .i64 op] w fun e w' => e = .returned (.bool en) ∧ w' = w) := fun w => by rw [← unhide hen]; exact ends_any w op
  have hw : IntKind.i64.wrap ((N : Int) - 1) = (M : Int) := by rw [IntKind.wrap_i64]; omega
  have m0 : (0 : Int) ≤ (M : Int) := by omega
  have m1 : (M : Int) < (N : Int) := by omega
  have n0 : ((N : Int) == 0) = false := by simp; omega
  have n1 : (0 : Int) < (N : Int) := by omega
  obtain ⟨X1, eX1⟩ : ∃ X1, X1 = w.alloc (.cells #[.string x.name, .int .i64 x.params, .int .i64 x.locals, x.cv, x.hv] 40) := ⟨_, rfl⟩
  have b1 : Below w.heap.size w X1 := by rw [eX1]; exact (Below.refl _ w).alloc (Nat.le_refl _) _
  have nb := fun j z (hz : #[Value.string x.name, .int .i64 x.params, .int .i64 x.locals, x.cv, x.hv].toList[j]? = some z) => new_cells w #[.string x.name, .int .i64 x.params, .int .i64 x.locals, x.cv, x.hv] 40 j z hz
  have HBX : Hid (∀ j z, [Value.string x.name, .int .i64 x.params, .int .i64 x.locals, x.cv, x.hv][j]? = some z → X1.cell? ⟨w.heap.size, j, none⟩ = some z) := fun j z hz => by
    have := nb j z hz; rw [Go.WideShapes.add_plain, Nat.zero_add] at this; rw [eX1]; exact this
  have lx : w.heap.size < X1.heap.size := by rw [eX1]; simp
  obtain ⟨nm, pr, lcl, cv', hv'⟩ := x
  simp only at ecv ehv eX1
  subst ecv ehv ehts
  have HB1 := hide b1
  clear hx hr hc nb b1 hf hi hM hM1 h0 hl hNM hbd
  by_cases hz : z = 0
  · subst hz
    go_enter Tryd.func8, Tryd.ntmps8
    go_wp2_with fail
    rw [← eX1]
    clear eX1
    refine (unhide HE _).mono ?_
    rintro e X2 ⟨rfl, hX⟩
    obtain rfl := hX.symm
    clear hX
    cases en with
    | false =>
      go_wp2_with fail
      go_ret
      refine ⟨false, rfl, ⟨(fun e => by cases e), fun F => ?_⟩, unhide HB1⟩
      obtain ⟨_, ⟨op', a', e1, e2⟩, _⟩ := F
      have e3 := unhide HI0
      rw [e1] at e3
      cases e3
      have := unhide hen
      rw [e2] at this
      cases this
    | true =>
      go_wp2_with fail
      go_loopg [6] N (fun gg t6 wi => ∃ (i : Nat), Hid (i + gg = N) ∧ t6 = .int .i64 (i : Int) ∧ Hid (Below X1.heap.size X1 wi) ∧ Hid (∀ p, p < i → ∃ op a z, FitO f hts p op a z))
      case atStart => exact ⟨0, by unfold Hid; omega, rfl, Below.refl _ _, fun p hp => by omega⟩
      case round =>
        obtain ⟨i, hi, rfl, hB, hQ⟩ := hrel
        have i0 : (0 : Int) ≤ (i : Int) := by omega
        have HBw : Hid (Below w.heap.size w wr) := (unhide HB1).trans ((unhide hB).mono (unhide HB1).size)
        by_cases hlt : i < N
        · have i1 : (i : Int) < (N : Int) := by omega
          have hin : i < f.code.length := by rw [unhide hNN]; exact hlt
          obtain ⟨⟨op', a'⟩, hci⟩ : ∃ q, f.code[i]? = some q := ⟨_, List.getElem?_eq_getElem hin⟩
          obtain ⟨z, hzi⟩ : ∃ q, hts[i]? = some q := ⟨_, List.getElem?_eq_getElem (by rw [unhide HL]; exact hin)⟩
          have HC := hide (fits_any' ((unhide HX).below (unhide HBw) (Nat.le_refl _)) ((unhide HR).below (unhide HBw) (Nat.le_refl _)) (unhide HOF) hci hzi (unhide HBD) (unhide HL))
          have HCI := hide hci
          have HZI := hide hzi
          have d0 := (unhide hB).cell (p := ⟨w.heap.size, 0, none⟩) lx |>.trans (unhide HBX 0 _ rfl)
          have d1 := (unhide hB).cell (p := ⟨w.heap.size, 1, none⟩) lx |>.trans (unhide HBX 1 _ rfl)
          have d2 := (unhide hB).cell (p := ⟨w.heap.size, 2, none⟩) lx |>.trans (unhide HBX 2 _ rfl)
          have d3 := (unhide hB).cell (p := ⟨w.heap.size, 3, none⟩) lx |>.trans (unhide HBX 3 _ rfl)
          have d4 := (unhide hB).cell (p := ⟨w.heap.size, 4, none⟩) lx |>.trans (unhide HBX 4 _ rfl)
          have ld := World.block_lt_of_cell? _ _ d0
          clear hci hzi hin
          go_wp2_with fail
          refine (unhide HC).mono ?_
          rintro e X5 ⟨b, rfl, hbF, hb5⟩
          have HB5 : Hid (Below X1.heap.size X1 X5) := (unhide hB).trans (hb5.mono (unhide hB).size)
          have HB6 : Hid (Below w.heap.size w X5) := (unhide HBw).trans (hb5.mono (unhide HBw).size)
          have HBF := hide hbF
          clear hb5 HC hbF
          cases b with
          | false =>
            go_wp2_with fail
            go_ret
            refine ⟨false, rfl, ⟨(fun e => by cases e), fun F => ?_⟩, unhide HB6⟩
            obtain ⟨op2, a2, z2, F2⟩ := F.2.2 i (by rw [unhide hNN]; exact hlt)
            have e1 := F2.hi
            rw [unhide HCI] at e1
            cases e1
            have e2 := F2.hh
            rw [unhide HZI] at e2
            cases e2
            have := (unhide HBF).2 F2
            cases this
          | true =>
            have HQ2 : Hid (∀ p, p < i + 1 → ∃ op a z, FitO f hts p op a z) := fun p hp => by
              by_cases c : p < i
              · exact unhide hQ p c
              · have : p = i := by omega
                subst this
                exact ⟨_, _, _, (unhide HBF).1 rfl⟩
            go_wp2_with fail
            go_roundg (gk - 1)
            case measure => have := unhide hi; omega
            case rel => exact ⟨i + 1, by have := unhide hi; unfold Hid; omega, by go_num, HB5, HQ2⟩
        · have i1 : ¬ (i : Int) < (N : Int) := by omega
          go_wp2_with fail
          go_ret
          exact ⟨true, rfl, ⟨fun _ => ⟨unhide HZ0, ⟨op, a, unhide HI0, unhide hen⟩, fun p hp => unhide hQ p (by rw [unhide hNN] at hp; omega)⟩, fun _ => rfl⟩, unhide HBw⟩
  · go_enter Tryd.func8, Tryd.ntmps8
    go_wp2_with fail
    rw [← eX1]
    go_ret
    refine ⟨false, rfl, ⟨(fun e => by cases e), fun F => ?_⟩, unhide HB1⟩
    have e1 := F.1
    rw [unhide HZ0] at e1
    exact absurd (Option.some.inj e1) hz
end Go.Proofs.YtbphddocgdihjaaDoor
