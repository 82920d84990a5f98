/-
  fits, of the statements, where it is so.
-/
import Derived.Test.YtbphddocgdihjaaDoorVEff
namespace Go.Proofs.YtbphddocgdihjaaDoor
open Go.RowKit
set_option linter.unusedVariables false
set_option linter.unusedSimpArgs false
/-- The next places. -/
def nxl (N : Nat) (op a : Int) (p : Nat) : List Int := (if jmB op then [a] else []) ++ (if enB op = false ∧ p + 1 < N then [(p : Int) + 1] else [])
set_option maxRecDepth 100000 in
set_option maxHeartbeats 6400000 in
theorem next_any {w : World} {f : Fc} {x : Fv} {p : Nat} {op a : Int} (hx : FnV w f x) (hi : f.code[p]? = some (op, a)) (hN : f.code.length ≤ 2000) :
    Calls Tryd.prog 22 #[.agg #[.string x.name, .int .i64 x.params, .int .i64 x.locals, x.cv, x.hv], .int .i64 (p : Int)] w fun e w' => ∃ v, e = .returned v ∧ Gn w (nxl f.code.length op a p) v w' := by
  obtain ⟨cb, co, cc, ecv, _, _, lc, hc⟩ := Rx.elem zI hx.2.2.2.1 hi
  obtain ⟨N, hNN⟩ : ∃ N, Hid (f.code.length = N) := ⟨_, rfl⟩
  have hp : p < N := by rw [← unhide hNN]; exact (List.getElem?_eq_some_iff.1 hi).1
  rw [unhide hNN] at ecv hN
  have k0 := hc 0 _ rfl
  have k1 := hc 1 _ rfl
  rw [Nat.add_zero] at k0
  obtain ⟨_, ha2, hc2, ehv, _, _, _⟩ := hx.2.2.2.2
  obtain ⟨jm, hJ⟩ : ∃ T, Hid (jmB op = T) := ⟨_, rfl⟩
  obtain ⟨en, hE⟩ : ∃ T, Hid (enB op = T) := ⟨_, rfl⟩
  have HJ : Hid (∀ w, Calls Tryd.prog 34 #[.int .i64 op] w fun e w' => e = .returned (.bool jm) ∧ Below w.heap.size w w') := fun w => by rw [← unhide hJ]; exact jumps_any w op
  have HE : Hid (∀ w, Calls Tryd.prog 17 #[.int .i64 op] w fun e w' => e = .returned (.bool en) ∧ w' = w) := fun w => by rw [← unhide hE]; exact ends_any w op
  have HNX : Hid (nxl f.code.length op a p = (if jm then [a] else []) ++ (if en = false ∧ p + 1 < N then [(p : Int) + 1] else [])) := by unfold Hid nxl; rw [unhide hJ, unhide hE, unhide hNN]
  obtain ⟨nm, pr, lcl, cv', hv'⟩ := x
  simp only at ecv ehv
  subst ecv ehv
  have p0 : (0 : Int) ≤ (p : Int) := by omega
  have p1 : (p : Int) < (N : Int) := by omega
  have hpw : IntKind.i64.wrap ((p : Int) + 1) = (p : Int) + 1 := by rw [IntKind.wrap_i64]; omega
  obtain ⟨X2, eX2⟩ : ∃ X2, X2 = (w.alloc (.cells #[.string nm, .int .i64 pr, .int .i64 lcl, .slice (some ⟨cb, co, none⟩) N cc, .slice ha2 f.hs.length hc2] 40)).alloc (.cells #[.int .i64 op, .int .i64 a] 48) := ⟨_, rfl⟩
  have f2 : Below w.heap.size w X2 := by rw [eX2]; exact ((Below.refl _ w).alloc (Nat.le_refl _) _).alloc (by simp) _
  have s2 : X2.heap.size = w.heap.size + 2 := by rw [eX2]; simp
  have nb := fun j z (hz : #[Value.string nm, .int .i64 pr, .int .i64 lcl, .slice (some ⟨cb, co, none⟩) N cc, .slice ha2 f.hs.length hc2].toList[j]? = some z) => new_cells w #[.string nm, .int .i64 pr, .int .i64 lcl, .slice (some ⟨cb, co, none⟩) N cc, .slice ha2 f.hs.length hc2] 40 j z hz
  have nb2 := fun j z (hz : #[Value.int .i64 op, .int .i64 a].toList[j]? = some z) => new_cells (w.alloc (.cells #[.string nm, .int .i64 pr, .int .i64 lcl, .slice (some ⟨cb, co, none⟩) N cc, .slice ha2 f.hs.length hc2] 40)) #[.int .i64 op, .int .i64 a] 48 j z hz
  have b3 : X2.cell? ⟨w.heap.size, 3, none⟩ = some (.slice (some ⟨cb, co, none⟩) N cc) := by
    have := nb 3 _ rfl; rw [Go.WideShapes.add_plain] at this
    rw [eX2]; exact (World.cell?_alloc_lt _ _ _ (by show w.heap.size < _; simp)).trans this
  have i0 : X2.cell? ⟨w.heap.size + 1, 0, none⟩ = some (.int .i64 op) := by
    have := nb2 0 _ rfl; rw [Go.WideShapes.add_plain, World.size_alloc] at this; rw [eX2]; exact this
  have i1 : X2.cell? ⟨w.heap.size + 1, 1, none⟩ = some (.int .i64 a) := by
    have := nb2 1 _ rfl; rw [Go.WideShapes.add_plain, World.size_alloc] at this; rw [eX2]; exact this
  have HF2 := hide f2
  clear hx hi hc nb nb2 f2
  go_enter Tryd.func22, Tryd.ntmps22
  go_wp2_with fail
  rw [← eX2]
  refine (unhide HJ _).mono ?_
  rintro e X3 ⟨rfl, hb3⟩
  have b3 := hb3.cell (p := ⟨w.heap.size, 3, none⟩) (by show w.heap.size < _; omega) |>.trans b3
  have i0 := hb3.cell (p := ⟨w.heap.size + 1, 0, none⟩) (by show w.heap.size + 1 < _; omega) |>.trans i0
  have i1 := hb3.cell (p := ⟨w.heap.size + 1, 1, none⟩) (by show w.heap.size + 1 < _; omega) |>.trans i1
  have hs3 := hb3.size
  rw [s2] at hs3
  have lb : w.heap.size < X3.heap.size := by omega
  have li : w.heap.size + 1 < X3.heap.size := by omega
  have G0 : Hid (Gn w [] (.slice none 0 0) X3) := ⟨Ro.nil _ _, (unhide HF2).trans (hb3.mono (by have := (unhide HF2).size; omega)), fun k hk => by simp [Value.ownBlock] at hk⟩
  clear hb3 k0 k1 lc eX2
  cases jm with
  | true =>
    go_wp2_with (first | (at_builtin; refine wpList_appN rfl _ _ rfl (.slice none 0 0) [] rfl (Ro.nil _ _) ⟨X3.heap.size, 0, none⟩ 1 a rfl (new_cells X3 #[.int .i64 a] 3) (by simp) ?_; intro v4 w4 hr4 hg4 hat4; obtain ⟨va, vc, ev, _, _⟩ := hr4.shape; subst ev; have G1 := hide ((unhide G0).push (p := a) hr4 rfl hg4 hat4); have f4 := ((Fr.refl (fun _ => False) X3).alloc (.cells #[.int .i64 a] 3)).grown hg4 (fun k e => by cases e); have b3 := (f4.cell (a := ⟨w.heap.size, 3, none⟩) lb (fun e => e)).trans b3; have i0 := (f4.cell (a := ⟨w.heap.size + 1, 0, none⟩) li (fun e => e)).trans i0; have lb := Nat.lt_of_lt_of_le lb f4.size; have li := Nat.lt_of_lt_of_le li f4.size; clear hr4 hg4 hat4 f4))
    refine (unhide HE _).mono ?_
    rintro e X5 ⟨rfl, rfl⟩
    have hcf : ¬ (False) := id
    cases en with
    | true =>
      go_wp2_with fail
      go_ret
      exact ⟨_, rfl, by rw [unhide HNX]; simpa using unhide G1⟩
    | false =>
      by_cases hp1 : p + 1 < N
      · have hp2 : (p : Int) + 1 < (N : Int) := by omega
        go_wp2_with (first | (at_builtin; refine wpList_appN rfl _ _ rfl (.slice va 1 vc) [a] rfl ((unhide G1).1.keep (fun g hg => Below.heap_alloc _ _ _ ((unhide G1).1.lt g hg))) ⟨X5.heap.size, 0, none⟩ 1 ((p : Int) + 1) rfl (new_cells X5 #[.int .i64 ((p : Int) + 1)] 3) (by simp) ?_; intro v6 w6 hr6 hg6 hat6; obtain ⟨va6, vc6, ev6, _, _⟩ := hr6.shape; subst ev6; have G2 := hide ((unhide G1).push (p := (p : Int) + 1) hr6 rfl hg6 hat6); clear hr6 hg6 hat6))
        go_ret
        exact ⟨_, rfl, by rw [unhide HNX]; simpa [hp1] using unhide G2⟩
      · have hp2 : ¬ (p : Int) + 1 < (N : Int) := by omega
        go_wp2_with fail
        go_ret
        exact ⟨_, rfl, by rw [unhide HNX, if_neg (c := _ ∧ _) (fun q => hp1 q.2)]; simpa using unhide G1⟩
  | false =>
    go_wp2_with fail
    refine (unhide HE _).mono ?_
    rintro e X5 ⟨rfl, rfl⟩
    have hcf : ¬ (False) := id
    cases en with
    | true =>
      go_wp2_with fail
      go_ret
      exact ⟨_, rfl, by rw [unhide HNX]; simpa using unhide G0⟩
    | false =>
      by_cases hp1 : p + 1 < N
      · have hp2 : (p : Int) + 1 < (N : Int) := by omega
        go_wp2_with (first | (at_builtin; refine wpList_appN rfl _ _ rfl (.slice none 0 0) [] rfl ((unhide G0).1.keep (fun g hg => Below.heap_alloc _ _ _ ((unhide G0).1.lt g hg))) ⟨X5.heap.size, 0, none⟩ 1 ((p : Int) + 1) rfl (new_cells X5 #[.int .i64 ((p : Int) + 1)] 3) (by simp) ?_; intro v6 w6 hr6 hg6 hat6; obtain ⟨va6, vc6, ev6, _, _⟩ := hr6.shape; subst ev6; have G2 := hide ((unhide G0).push (p := (p : Int) + 1) hr6 rfl hg6 hat6); clear hr6 hg6 hat6))
        go_ret
        exact ⟨_, rfl, by rw [unhide HNX]; simpa [hp1] using unhide G2⟩
      · have hp2 : ¬ (p : Int) + 1 < (N : Int) := by omega
        go_wp2_with fail
        go_ret
        exact ⟨_, rfl, by rw [unhide HNX, if_neg (c := _ ∧ _) (fun q => hp1 q.2)]; simpa using unhide G0⟩
set_option linter.unusedVariables false
set_option linter.unusedSimpArgs false
/-- P10.3 of one instruction. -/
structure FitO (f : Fc) (hts : List Int) (p : Nat) (op a h : Int) : Prop where
  hi : f.code[p]? = some (op, a)
  ok : okB op a = true
  hh : hts[p]? = some h
  h0 : 0 ≤ h
  h1 : h ≤ 64
  tk : tkI op a ≤ h
  pt : h - tkI op a + ptI op a ≤ 64
  nx : ∀ y ∈ nxl f.code.length op a p, 0 ≤ y ∧ y < (f.code.length : Int) ∧ hts[y.toNat]? = some (h - tkI op a + ptI op a)
  hd : ∀ k ∈ f.hs, k.frm ≤ (p : Int) → (p : Int) < k.to → k.height ≤ h - tkI op a ∧ 0 ≤ k.target ∧ k.target < (f.code.length : Int) ∧ hts[k.target.toNat]? = some (k.height + 1)
theorem nxl_len (N : Nat) (op a : Int) (p : Nat) : (nxl N op a p).length ≤ 2 := by
  unfold nxl
  split <;> split <;> simp
theorem tp_bounds' {op a : Int} (h : okB op a = true) : 0 ≤ tkI op a ∧ tkI op a ≤ 66 ∧ 0 ≤ ptI op a ∧ ptI op a ≤ 2 := by
  have hop : isOp op = true := by simp [okB] at h; exact h.1
  have ho : 0 ≤ op ∧ op < 67 := by simpa [isOp] using hop
  obtain ⟨k, rfl⟩ : ∃ k : Nat, op = k := ⟨op.toNat, by omega⟩
  have hk : k < 67 := by omega
  have h1 := tk_le k hk
  have h2 := pt_le k hk
  have e1 : tkI k a = (tk k : Int) + (if kd k = 6 then a else 0) := by simp [tkI, h]
  have e2 : ptI k a = pt k := by simp [ptI, h]
  rw [e1, e2]
  split
  · rename_i h6
    have hr : rightB 6 a = true := by rw [okB_op hk, h6] at h; exact h
    have := right6 hr
    omega
  · omega
set_option maxRecDepth 100000 in
set_option maxHeartbeats 6400000 in
theorem fits_ok {w : World} {f : Fc} {x : Fv} {hv : Value} {hts : List Int} {p : Nat} {op a h : Int} (hx : FnV w f x) (hr : Rn w hv hts) (F : FitO f hts p op a h) (hl : hts.length = f.code.length) (hN : f.code.length ≤ 2000) (hH : f.hs.length ≤ 1000) (hok : ∀ k ∈ f.hs, 0 ≤ k.height ∧ k.height < 64) :
    Calls Tryd.prog 18 #[.agg #[.string x.name, .int .i64 x.params, .int .i64 x.locals, x.cv, x.hv], hv, .int .i64 (p : Int)] w fun e w' => e = .returned (.bool true) ∧ Below w.heap.size w w' := by
  have HF := hide F
  obtain ⟨cb, co, cc, ecv, _, _, lc, hc⟩ := Rx.elem zI hx.2.2.2.1 F.hi
  obtain ⟨N, hNN⟩ : ∃ N, Hid (f.code.length = N) := ⟨_, rfl⟩
  obtain ⟨H, hHH⟩ : ∃ N, Hid (f.hs.length = N) := ⟨_, rfl⟩
  have hp : p < N := by rw [← unhide hNN]; exact (List.getElem?_eq_some_iff.1 F.hi).1
  have HX := hide hx
  have HR := hide hr
  have HOK := hide hok
  rw [unhide hNN] at ecv hN hl
  rw [unhide hHH] at hH
  have k0 := hc 0 _ rfl
  have k1 := hc 1 _ rfl
  rw [Nat.add_zero] at k0
  obtain ⟨_, ha2, hc2, ehv, hhl, hhm, _⟩ := hx.2.2.2.2
  rw [unhide hHH] at ehv hhl
  obtain ⟨hb, ho, hcap, ehts, _, kh⟩ := hr.at F.hh
  rw [hl] at ehts
  have lh := World.block_lt_of_cell? _ _ kh
  obtain ⟨T, hT⟩ : ∃ T, Hid (tkI op a = T) := ⟨_, rfl⟩
  obtain ⟨U, hU⟩ : ∃ U, Hid (ptI op a = U) := ⟨_, rfl⟩
  have hTB : 0 ≤ T ∧ T ≤ 66 ∧ 0 ≤ U ∧ U ≤ 2 := by rw [← unhide hT, ← unhide hU]; exact tp_bounds' F.ok
  have c1 : ¬ h < 0 := by have := F.h0; omega
  have c2 : ¬ 64 < h := by have := F.h1; omega
  have c3 : ¬ h < T := by have := F.tk; rw [unhide hT] at this; omega
  obtain ⟨kp, hKP⟩ : ∃ kp, Hid (h - T = kp) := ⟨_, rfl⟩
  obtain ⟨bh, hBH⟩ : ∃ bh, Hid (h - T + U = bh) := ⟨_, rfl⟩
  have hkb : Hid (kp = h - T ∧ bh = kp + U) := by have := unhide hKP; have := unhide hBH; unfold Hid; omega
  have c4 : ¬ 64 < bh := by have := F.pt; rw [unhide hT, unhide hU, unhide hBH] at this; omega
  have hw1 : IntKind.i64.wrap (h - T) = kp := by have := unhide hkb; rw [IntKind.wrap_i64]; omega
  have hw2 : IntKind.i64.wrap (kp + U) = bh := by have := unhide hkb; rw [IntKind.wrap_i64]; omega
  have HEF : Hid (∀ w, Calls Tryd.prog 21 #[.agg #[.int .i64 op, .int .i64 a]] w fun e w' => e = .returned (.tuple #[.int .i64 T, .int .i64 U, .bool true]) ∧ Below w.heap.size w w') := fun w => by
    have := effect_any w op a
    rw [unhide hT, unhide hU, F.ok] at this
    exact this
  have p0 : (0 : Int) ≤ (p : Int) := by omega
  have p1 : (p : Int) < (N : Int) := by omega
  obtain ⟨X1, eX1⟩ : ∃ X1, X1 = w.alloc (.cells #[.string x.name, .int .i64 x.params, .int .i64 x.locals, x.cv, x.hv] 40) := ⟨_, rfl⟩
  have b1 : Below w.heap.size w X1 := by rw [eX1]; exact (Below.refl _ w).alloc (Nat.le_refl _) _
  have nb := fun j z (hz : #[Value.string x.name, .int .i64 x.params, .int .i64 x.locals, x.cv, x.hv].toList[j]? = some z) => new_cells w #[.string x.name, .int .i64 x.params, .int .i64 x.locals, x.cv, x.hv] 40 j z hz
  have HBX : Hid (∀ j z, [Value.string x.name, .int .i64 x.params, .int .i64 x.locals, x.cv, x.hv][j]? = some z → X1.cell? ⟨w.heap.size, j, none⟩ = some z) := fun j z hz => by
    have := nb j z hz; rw [Go.WideShapes.add_plain, Nat.zero_add] at this; rw [eX1]; exact this
  have lx : w.heap.size < X1.heap.size := by rw [eX1]; simp
  obtain ⟨nm, pr, lcl, cv', hv'⟩ := x
  simp only at ecv ehv eX1
  subst ecv ehv ehts
  have HB1 := hide b1
  clear hx hr hc nb b1 F hok
  go_enter Tryd.func18, Tryd.ntmps18
  go_wp2_with fail
  rw [← eX1]
  refine (unhide HEF _).mono ?_
  rintro e X2 ⟨rfl, hb2⟩
  have HBX2 : Hid (∀ j z, [Value.string nm, .int .i64 pr, .int .i64 lcl, .slice (some ⟨cb, co, none⟩) N cc, .slice ha2 H hc2][j]? = some z → X2.cell? ⟨w.heap.size, j, none⟩ = some z) := fun j z hz => (hb2.cell (p := ⟨w.heap.size, j, none⟩) lx).trans (unhide HBX j z hz)
  have HB2 : Hid (Below w.heap.size w X2) := (unhide HB1).trans (hb2.mono (unhide HB1).size)
  have lx2 := Nat.lt_of_lt_of_le lx hb2.size
  have HC := hide (next_any ((unhide HX).below (unhide HB2) (Nat.le_refl _)) (unhide HF).hi (by rw [unhide hNN]; exact hN))
  obtain ⟨ys, hys⟩ : ∃ ys, Hid (nxl f.code.length op a p = ys) := ⟨_, rfl⟩
  rw [unhide hys] at HC
  have d0 := unhide HBX2 0 _ rfl
  have d1 := unhide HBX2 1 _ rfl
  have d2 := unhide HBX2 2 _ rfl
  have d3 := unhide HBX2 3 _ rfl
  have d4 := unhide HBX2 4 _ rfl
  clear hb2 HEF HBX k0 k1 kh eX1 lc
  go_wp2_with fail
  refine (unhide HC).mono ?_
  rintro e X3 ⟨v, rfl, hG⟩
  have HB3 : Hid (Below w.heap.size w X3) := (unhide HB2).trans (hG.2.1.mono (unhide HB2).size)
  have d4 := hG.2.1.cell (p := ⟨w.heap.size, 4, none⟩) lx2 |>.trans d4
  have lx3 := Nat.lt_of_lt_of_le lx2 hG.2.1.size
  have hyl : ys.length ≤ 2 := by rw [← unhide hys]; exact nxl_len _ _ _ _
  have HYR := hide (show Rn X3 v ys from Rx.of_ro hG.1)
  have HHR := hide ((unhide HR).below (unhide HB3) (Nat.le_refl _))
  obtain ⟨va, vc, ev, _, _⟩ := hG.1.shape
  obtain ⟨L, hL⟩ : ∃ L, Hid (ys.length = L) := ⟨_, rfl⟩
  rw [unhide hL] at ev hyl
  subst ev
  clear hG HC d0 d1 d2 d3 HBX2
  go_wp2_with fail
  go_loopg [13] L (fun gg t13 wi => ∃ (i : Nat), Hid (i + gg = L) ∧ t13 = .int .i64 (i : Int) ∧ wi = X3)
  case atStart => exact ⟨0, by unfold Hid; omega, rfl, rfl⟩
  case round =>
    obtain ⟨i, hi, rfl, hX⟩ := hrel
    obtain rfl := hX.symm
    clear hX
    have i0 : (0 : Int) ≤ (i : Int) := by omega
    by_cases hlt : i < L
    · have i1 : (i : Int) < (L : Int) := by omega
      obtain ⟨y, hy⟩ : ∃ y, ys[i]? = some y := ⟨_, List.getElem?_eq_getElem (by rw [unhide hL]; exact hlt)⟩
      obtain ⟨y0, y1, y2⟩ := (unhide HF).nx y (by rw [unhide hys]; exact List.mem_of_getElem? hy)
      rw [unhide hNN] at y1
      rw [unhide hT, unhide hU, unhide hBH] at y2
      obtain ⟨gb, go, gc, eg, _, gk1⟩ := (unhide HYR).at hy
      rw [unhide hL] at eg
      cases eg
      obtain ⟨yn, rfl⟩ : ∃ yn : Nat, y = (yn : Int) := ⟨y.toNat, by omega⟩
      rw [Int.toNat_natCast] at y2
      obtain ⟨_, _, _, eg, _, gk2⟩ := (unhide HHR).at y2
      rw [hl] at eg
      cases eg
      have g1 := World.block_lt_of_cell? _ _ gk1
      have g2 := World.block_lt_of_cell? _ _ gk2
      have y3 : ¬ (N : Int) ≤ (yn : Int) := by omega
      have y4 : ¬ (yn : Int) < 0 := by omega
      clear hy y2
      go_wp2_with fail
      go_roundg (gk - 1)
      case measure => have := unhide hi; omega
      case rel => exact ⟨i + 1, by have := unhide hi; unfold Hid; omega, by go_num, rfl⟩
    · have hi1 : ¬ (i : Int) < (L : Int) := by omega
      go_wp2_with fail
      clear hi1 i0
      go_loopg [14] H (fun gg t14 wi => ∃ (j : Nat), Hid (j + gg = H) ∧ t14 = .int .i64 (j : Int) ∧ Hid (Below X3.heap.size X3 wi))
      case atStart => exact ⟨0, by unfold Hid; omega, rfl, Below.refl _ _⟩
      case round =>
        obtain ⟨j, hj, rfl, hB⟩ := hrel
        have j0 : (0 : Int) ≤ (j : Int) := by omega
        have e4 := (unhide hB).cell (p := ⟨w.heap.size, 4, none⟩) lx3 |>.trans d4
        have lx4 := World.block_lt_of_cell? _ _ e4
        have HBw : Hid (Below w.heap.size w wr) := (unhide HB3).trans ((unhide hB).mono (unhide HB3).size)
        by_cases hjl : j < H
        · have j1 : (j : Int) < (H : Int) := by omega
          obtain ⟨k, hk⟩ : ∃ k, f.hs[j]? = some k := ⟨_, List.getElem?_eq_getElem (by rw [unhide hHH]; exact hjl)⟩
          obtain ⟨qb, qo, qc, eq, _, _, lq, hq⟩ := Rx.elem zH (unhide HX).2.2.2.2 hk
          simp only at eq
          rw [unhide hHH] at eq
          cases eq
          have q0 := (unhide HBw).cell (p := ⟨qb, qo + j * 4 + 0, none⟩) lq |>.trans (hq 0 _ rfl)
          have q1 := (unhide HBw).cell (p := ⟨qb, qo + j * 4 + 1, none⟩) lq |>.trans (hq 1 _ rfl)
          have q2 := (unhide HBw).cell (p := ⟨qb, qo + j * 4 + 2, none⟩) lq |>.trans (hq 2 _ rfl)
          have q3 := (unhide HBw).cell (p := ⟨qb, qo + j * 4 + 3, none⟩) lq |>.trans (hq 3 _ rfl)
          rw [Nat.add_zero] at q0
          have lqw := World.block_lt_of_cell? _ _ q0
          have hd := (unhide HF).hd k (List.mem_of_getElem? hk)
          have hko := unhide HOK k (List.mem_of_getElem? hk)
          obtain ⟨fr, to, tg, hg⟩ := k
          simp only at q0 q1 q2 q3 hd hko
          rw [unhide hT, unhide hKP, unhide hNN] at hd
          have HBn : Hid (Below X3.heap.size X3 (wr.alloc (.cells #[.int .i64 fr, .int .i64 to, .int .i64 tg, .int .i64 hg] 65))) := (unhide hB).alloc (unhide hB).size _
          have nc := fun j z (hz : #[Value.int .i64 fr, .int .i64 to, .int .i64 tg, .int .i64 hg].toList[j]? = some z) => new_cells wr #[.int .i64 fr, .int .i64 to, .int .i64 tg, .int .i64 hg] 65 j z hz
          obtain ⟨Wn, eWn⟩ : ∃ Wn, Wn = wr.alloc (.cells #[.int .i64 fr, .int .i64 to, .int .i64 tg, .int .i64 hg] 65) := ⟨_, rfl⟩
          have r0 : Wn.cell? ⟨wr.heap.size, 0, none⟩ = some (.int .i64 fr) := by have := nc 0 _ rfl; rw [Go.WideShapes.add_plain] at this; rw [eWn]; exact this
          have r1 : Wn.cell? ⟨wr.heap.size, 1, none⟩ = some (.int .i64 to) := by have := nc 1 _ rfl; rw [Go.WideShapes.add_plain] at this; rw [eWn]; exact this
          have r2 : Wn.cell? ⟨wr.heap.size, 2, none⟩ = some (.int .i64 tg) := by have := nc 2 _ rfl; rw [Go.WideShapes.add_plain] at this; rw [eWn]; exact this
          have r3 : Wn.cell? ⟨wr.heap.size, 3, none⟩ = some (.int .i64 hg) := by have := nc 3 _ rfl; rw [Go.WideShapes.add_plain] at this; rw [eWn]; exact this
          have lr := World.block_lt_of_cell? _ _ r0
          rw [← eWn] at HBn
          have HBN : Hid (∀ n, Below X3.heap.size X3 (Wn.drewN n)) := fun n => Go.Proofs.YtbphddocgdihjaaDoor.Below.drewN (unhide HBn) n
          have hwg : IntKind.i64.wrap (hg + 1) = hg + 1 := by rw [IntKind.wrap_i64]; omega
          have hwk : IntKind.i64.wrap (h - T) = kp := hw1
          have HHd := hide hd
          clear hq nc hk hd
          go_wp2_with fail
          rw [← eWn]
          clear eWn q0 q1 q2 q3
          by_cases ha : fr ≤ (p : Int)
          · by_cases hb' : (p : Int) < to
            · obtain ⟨z1, z2, z3, z4⟩ := unhide HHd ha hb'
              obtain ⟨tn, rfl⟩ : ∃ tn : Nat, tg = (tn : Int) := ⟨tg.toNat, by omega⟩
              rw [Int.toNat_natCast] at z4
              obtain ⟨_, _, _, eg, _, gk2⟩ := ((unhide HHR).below (unhide HBn) (Nat.le_refl _)).at z4
              rw [hl] at eg
              cases eg
              have g2 := World.block_lt_of_cell? _ _ gk2
              have z5 : ¬ kp < hg := by omega
              have z6 : ¬ (N : Int) ≤ (tn : Int) := by omega
              have z7 : ¬ (tn : Int) < 0 := by omega
              clear z4
              go_quiet (fail)
              go_wp2_with fail
              go_roundg (gk - 1)
              case measure => have := unhide hj; omega
              case rel => exact ⟨j + 1, by have := unhide hj; unfold Hid; omega, by go_num, unhide HBN _⟩
            · go_quiet (fail)
              go_wp2_with fail
              go_roundg (gk - 1)
              case measure => have := unhide hj; omega
              case rel => exact ⟨j + 1, by have := unhide hj; unfold Hid; omega, by go_num, unhide HBN _⟩
          · go_quiet (fail)
            go_wp2_with fail
            go_roundg (gk - 1)
            case measure => have := unhide hj; omega
            case rel => exact ⟨j + 1, by have := unhide hj; unfold Hid; omega, by go_num, unhide HBN _⟩
        · have j1 : ¬ (j : Int) < (H : Int) := by omega
          go_wp2_with fail
          go_ret
          exact ⟨rfl, unhide HBw⟩
end Go.Proofs.YtbphddocgdihjaaDoor
