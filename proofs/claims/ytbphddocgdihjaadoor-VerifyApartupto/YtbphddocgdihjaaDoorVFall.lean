/-
  fitsAll, of what is found.
-/
import Derived.Test.YtbphddocgdihjaaDoorVFits
import Derived.Test.YtbphddocgdihjaaDoorVPrg
namespace Go.Proofs.YtbphddocgdihjaaDoor
open Go.RowKit
set_option linter.unusedVariables false
set_option linter.unusedSimpArgs false
theorem flo_ge (hs : List Hd) (p : Int) : ∀ (z : Int), z ≤ hs.foldl (fun a h => if h.frm ≤ p ∧ p < h.to then max a h.height else a) z ∧ ∀ k ∈ hs, k.frm ≤ p → p < k.to → k.height ≤ hs.foldl (fun a h => if h.frm ≤ p ∧ p < h.to then max a h.height else a) z := by
  induction hs with
  | nil => intro z; exact ⟨Int.le_refl _, fun k hk => by simp at hk⟩
  | cons x r ih =>
    intro z
    rw [List.foldl_cons]
    obtain ⟨h1, h2⟩ := ih (if x.frm ≤ p ∧ p < x.to then max z x.height else z)
    refine ⟨?_, fun k hk ha hb => ?_⟩
    · split at h1
      · rename_i hc
        rw [if_pos hc]
        omega
      · rename_i hc
        rw [if_neg hc]
        exact h1
    · rcases List.mem_cons.1 hk with rfl | hk
      · rw [if_pos ⟨ha, hb⟩] at h1 ⊢
        omega
      · exact h2 k hk ha hb
theorem Mt.le64 {f : Fc} (h : OkF f) {s : Spot} (hs : Mt f s) : s.2 ≤ 64 := by
  cases hs with
  | zero => simp
  | next _ hi hn =>
    unfold nx at hn
    split at hn
    · simp at hn
    · rename_i hc
      rw [List.mem_append] at hn
      rcases hn with hn | hn
      · split at hn
        · simp at hn; subst hn; simp only; omega
        · simp at hn
      · split at hn
        · simp at hn; subst hn; simp only; omega
        · simp at hn
  | hand _ hm hh => have := h.hd _ hm; unfold tgt; simp only; omega
/-- What is found fits everywhere. -/
theorem fitO_of {f : Fc} (hf : OkF f) {hts : List Int} (h : FnR f (some hts) 0 0) : hts.length = f.code.length ∧ hts[0]? = some 0 ∧ (∀ p, p < f.code.length → ∃ op a z, FitO f hts p op a z) ∧ ∃ op a, f.code[f.code.length - 1]? = some (op, a) ∧ enB op = true := by
  rcases h with h | h | h
  · cases h.2.1
  · cases h.2.1
  obtain ⟨_, _, hb, hu, l, e, hl, hm⟩ := h
  cases e
  have n1 := hf.n1
  refine ⟨hl, (hm 0 0).2 .zero, fun p hp => ?_, ?_⟩
  · obtain ⟨⟨op, a⟩, hi⟩ : ∃ q, f.code[p]? = some q := ⟨_, List.getElem?_eq_getElem hp⟩
    obtain ⟨z, hz⟩ : ∃ q, hts[p]? = some q := ⟨_, List.getElem?_eq_getElem (by omega)⟩
    obtain ⟨ho, hj⟩ := hf.ins p op a hi
    have hmt := (hm p z).1 hz
    have hbd := hmt.bd hf
    have h64 := hmt.le64 hf
    simp only at hbd h64
    have htp := tp_bounds ho
    have hnb : ¬ (z - tkI op a < flo f.hs (p : Int)) := fun q => hb p ⟨z, op, a, hmt, hi, .inr (.inl q)⟩
    have hnc : ¬ (64 < z - tkI op a + ptI op a) := fun q => hb p ⟨z, op, a, hmt, hi, .inr (.inr q)⟩
    obtain ⟨g1, g2⟩ := flo_ge f.hs (p : Int) 0
    have hflo : flo f.hs (p : Int) = f.hs.foldl (fun a h => if h.frm ≤ (p : Int) ∧ (p : Int) < h.to then max a h.height else a) 0 := rfl
    rw [← hflo] at g1 g2
    have hnx : nx f.code.length op a p z = (if jmB op then [(a, z - tkI op a + ptI op a)] else []) ++ (if !enB op ∧ p + 1 < f.code.length then [((p : Int) + 1, z - tkI op a + ptI op a)] else []) := by
      unfold nx; rw [if_neg (by omega)]
    refine ⟨op, a, z, hi, ho, hz, hbd.2.2.1, h64, by omega, by omega, fun y hy => ?_, fun k hk ha hb' => ?_⟩
    · have key : ((y, z - tkI op a + ptI op a) : Spot) ∈ nx f.code.length op a p z := by
        rw [hnx, List.mem_append]
        unfold nxl at hy
        rw [List.mem_append] at hy
        rcases hy with hy | hy
        · left
          split at hy
          · rename_i hjm
            rw [if_pos hjm]; simp at hy; subst hy; simp
          · simp at hy
        · right
          split at hy
          · rename_i hc
            rw [if_pos (by rw [hc.1]; exact ⟨rfl, hc.2⟩)]; simp at hy; subst hy; simp
          · simp at hy
      have hm2 := Mt.next hmt hi key
      have hbd2 := hm2.bd hf
      simp only at hbd2
      refine ⟨hbd2.1, hbd2.2.1, (hm _ _).2 ?_⟩
      rw [Int.toNat_of_nonneg hbd2.1]
      exact hm2
    · have hhd := hf.hd k hk
      have hol' : hol k (p : Int) = true := by unfold hol; simp [ha, hb']
      have hm2 := Mt.hand hmt hk hol'
      have g := g2 k hk ha hb'
      refine ⟨by omega, hhd.2.2.2.1, hhd.2.2.2.2.1, (hm _ _).2 ?_⟩
      rw [Int.toNat_of_nonneg hhd.2.2.2.1]
      exact hm2
  · obtain ⟨⟨op, a⟩, hi⟩ : ∃ q, f.code[f.code.length - 1]? = some q := ⟨_, List.getElem?_eq_getElem (by omega)⟩
    refine ⟨op, a, hi, ?_⟩
    cases he : enB op with
    | true => rfl
    | false => exact absurd ⟨op, a, hi, .inr ⟨by omega, he⟩⟩ (hu (f.code.length - 1))
set_option maxRecDepth 100000 in
set_option maxHeartbeats 6400000 in
theorem fitsAll_ok {w : World} {f : Fc} {x : Fv} {hv : Value} {hts : List Int} (hx : FnV w f x) (hr : Rn w hv hts) (hf : OkF f) (hF : FnR f (some hts) 0 0) :
    Calls Tryd.prog 8 #[.agg #[.string x.name, .int .i64 x.params, .int .i64 x.locals, x.cv, x.hv], hv] w fun e w' => e = .returned (.bool true) ∧ Below w.heap.size w w' := by
  obtain ⟨hl, h0, hfit, op, a, hi, he⟩ := fitO_of hf hF
  have HX := hide hx
  have HR := hide hr
  have HFT := hide hfit
  have HOF := hide hf
  obtain ⟨N, hNN⟩ : ∃ N, Hid (f.code.length = N) := ⟨_, rfl⟩
  obtain ⟨M, hM⟩ : ∃ M, f.code.length = M + 1 := ⟨f.code.length - 1, by have := hf.n1; omega⟩
  have hNM : N = M + 1 := by rw [← unhide hNN, hM]
  have hN2 : N ≤ 2000 := by rw [← unhide hNN]; exact hf.nm
  have hM1 : f.code.length - 1 = M := by omega
  rw [hM1] at hi
  obtain ⟨cb, co, cc, ecv, _, _, lc, hc⟩ := Rx.elem zI hx.2.2.2.1 hi
  have k0 := hc 0 _ rfl
  rw [Nat.add_zero] at k0
  obtain ⟨_, ha2, hc2, ehv, hhl, hhm, _⟩ := hx.2.2.2.2
  obtain ⟨hb, ho, hcap, ehts, _, kh⟩ := hr.at h0
  rw [Nat.add_zero] at kh
  have HL := hide hl
  rw [hl, unhide hNN] at ehts
  rw [unhide hNN] at ecv
  have lh := World.block_lt_of_cell? _ _ kh
  have HE : Hid (∀ w, Calls Tryd.prog 17 #[.int .i64 op] w fun e w' => e = .returned (.bool true) ∧ w' = w) := fun w => by rw [← he]; exact ends_any w op
  have hw : IntKind.i64.wrap ((N : Int) - 1) = (M : Int) := by rw [IntKind.wrap_i64]; omega
  have m0 : (0 : Int) ≤ (M : Int) := by omega
  have m1 : (M : Int) < (N : Int) := by omega
  have n0 : ((N : Int) == 0) = false := by simp; omega
  have n1 : (0 : Int) < (N : Int) := by omega
  obtain ⟨X1, eX1⟩ : ∃ X1, X1 = w.alloc (.cells #[.string x.name, .int .i64 x.params, .int .i64 x.locals, x.cv, x.hv] 40) := ⟨_, rfl⟩
  have b1 : Below w.heap.size w X1 := by rw [eX1]; exact (Below.refl _ w).alloc (Nat.le_refl _) _
  have nb := fun j z (hz : #[Value.string x.name, .int .i64 x.params, .int .i64 x.locals, x.cv, x.hv].toList[j]? = some z) => new_cells w #[.string x.name, .int .i64 x.params, .int .i64 x.locals, x.cv, x.hv] 40 j z hz
  have HBX : Hid (∀ j z, [Value.string x.name, .int .i64 x.params, .int .i64 x.locals, x.cv, x.hv][j]? = some z → X1.cell? ⟨w.heap.size, j, none⟩ = some z) := fun j z hz => by
    have := nb j z hz; rw [Go.WideShapes.add_plain, Nat.zero_add] at this; rw [eX1]; exact this
  have lx : w.heap.size < X1.heap.size := by rw [eX1]; simp
  obtain ⟨nm, pr, lcl, cv', hv'⟩ := x
  simp only at ecv ehv eX1
  subst ecv ehv ehts
  have HB1 := hide b1
  clear hx hr hc nb b1 hf hF hfit hi he hM hM1 h0 hl hNM
  go_enter Tryd.func8, Tryd.ntmps8
  go_wp2_with fail
  rw [← eX1]
  clear eX1
  refine (unhide HE _).mono ?_
  rintro e X2 ⟨rfl, hX⟩
  obtain rfl := hX.symm
  clear hX
  go_wp2_with fail
  go_loopg [6] N (fun gg t6 wi => ∃ (i : Nat), Hid (i + gg = N) ∧ t6 = .int .i64 (i : Int) ∧ Hid (Below X1.heap.size X1 wi))
  case atStart => exact ⟨0, by unfold Hid; omega, rfl, Below.refl _ _⟩
  case round =>
    obtain ⟨i, hi, rfl, hB⟩ := hrel
    have i0 : (0 : Int) ≤ (i : Int) := by omega
    have HBw : Hid (Below w.heap.size w wr) := (unhide HB1).trans ((unhide hB).mono (unhide HB1).size)
    by_cases hlt : i < N
    · have i1 : (i : Int) < (N : Int) := by omega
      obtain ⟨op', a', z, F⟩ := unhide HFT i (by rw [unhide hNN]; exact hlt)
      have HC := hide (fits_ok ((unhide HX).below (unhide HBw) (Nat.le_refl _)) ((unhide HR).below (unhide HBw) (Nat.le_refl _)) F (unhide HL) (unhide HOF).nm (unhide HOF).hm (fun k hk => by have := (unhide HOF).hd k hk; omega))
      have d0 := (unhide hB).cell (p := ⟨w.heap.size, 0, none⟩) lx |>.trans (unhide HBX 0 _ rfl)
      have d1 := (unhide hB).cell (p := ⟨w.heap.size, 1, none⟩) lx |>.trans (unhide HBX 1 _ rfl)
      have d2 := (unhide hB).cell (p := ⟨w.heap.size, 2, none⟩) lx |>.trans (unhide HBX 2 _ rfl)
      have d3 := (unhide hB).cell (p := ⟨w.heap.size, 3, none⟩) lx |>.trans (unhide HBX 3 _ rfl)
      have d4 := (unhide hB).cell (p := ⟨w.heap.size, 4, none⟩) lx |>.trans (unhide HBX 4 _ rfl)
      have ld := World.block_lt_of_cell? _ _ d0
      clear F
      go_wp2_with fail
      refine (unhide HC).mono ?_
      rintro e X5 ⟨rfl, hb5⟩
      have HB5 : Hid (Below X1.heap.size X1 X5) := (unhide hB).trans (hb5.mono (unhide hB).size)
      clear hb5 HC
      go_wp2_with fail
      go_roundg (gk - 1)
      case measure => have := unhide hi; omega
      case rel => exact ⟨i + 1, by have := unhide hi; unfold Hid; omega, by go_num, HB5⟩
    · have i1 : ¬ (i : Int) < (N : Int) := by omega
      go_wp2_with fail
      go_ret
      exact ⟨rfl, unhide HBw⟩
end Go.Proofs.YtbphddocgdihjaaDoor
