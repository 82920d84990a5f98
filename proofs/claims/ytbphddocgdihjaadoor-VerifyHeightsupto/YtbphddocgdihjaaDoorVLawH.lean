/-
  VerifyHeights holds.
-/
import Derived.Test.YtbphddocgdihjaaDoorVWork2
namespace Go.Proofs.YtbphddocgdihjaaDoor
open Go.RowKit
set_option linter.unusedVariables false
set_option linter.unusedSimpArgs false
/-- The greatest so far. -/
def tp (l : List Int) : Int := l.foldl max 0
theorem tp_push {l : List Int} {j : Nat} {x : Int} (h : l[j]? = some x) : tp (l.take (j + 1)) = max (tp (l.take j)) x := by
  rw [take_push h]; simp [tp, List.foldl_append]
theorem tp_mxl {l : List Int} (h : l[0]? = some 0) : tp l = mxl l := by
  cases l with
  | nil => simp at h
  | cons x r =>
    simp at h
    subst h
    simp [tp, mxl]
theorem VpR.er {p : Pg} {L : Option (List (List Int))} {k a er : Int} (h : VpR p L k a er) : (er ≠ 0 ∧ L = none) ∨ (ckF p = none ∧ k = 0 ∧ a = 0 ∧ er = 0 ∧ ∃ Ls, L = some Ls ∧ Ls.length = p.funcs.length ∧ ∀ (i : Nat) (f : Fc) (l : List Int), p.funcs[i]? = some f → Ls[i]? = some l → FnR f (some l) 0 0) := by
  rcases h with ⟨y, _, _, h1, h2⟩ | ⟨_, i, f, _, _, h1, h2, _⟩ | h
  · exact .inl ⟨h2, h1⟩
  · exact .inl ⟨h2, h1⟩
  · exact .inr h
set_option maxRecDepth 100000 in
set_option maxHeartbeats 6400000 in
theorem heightsLaw {w : World} {pv : Value} {p : Pg} (hp : PgV w pv p) (hok : OkP p) (hg : Laid w) :
    Calls Tryd.prog 3 #[pv] w fun e w' => e = .returned (.bool true) ∧ Below w.heap.size w w' := by
  have gl : 0 < w.heap.size := World.block_lt_of_cell? _ _ hg
  have HPV := hide hp
  obtain ⟨cv, fv, rfl, hc, hf⟩ := hp
  obtain ⟨_, ca, ccap, rfl, _, _, _⟩ := hc
  obtain ⟨fa, fcap, rfl, hfl, hfm, hat⟩ := hf.at
  obtain ⟨NC, hNC⟩ : ∃ n, Hid (p.consts.length = n) := ⟨_, rfl⟩
  obtain ⟨NF, hNF⟩ : ∃ n, Hid (p.funcs.length = n) := ⟨_, rfl⟩
  rw [unhide hNF] at hfl
  rw [unhide hNC, unhide hNF] at HPV
  rw [unhide hNC, unhide hNF]
  obtain ⟨W1, eW1⟩ : ∃ W1, W1 = w.alloc (.cells #[.slice ca NC ccap, .slice fa NF fcap] 25) := ⟨_, rfl⟩
  have b1 : Below w.heap.size w W1 := by rw [eW1]; exact (Below.refl _ w).alloc (Nat.le_refl _) _
  have r1 : Ro W1 2 (.slice (some ⟨w.heap.size, 0, none⟩) 1 1) 1 [.slice ca NC ccap, .slice fa NF fcap] := by rw [eW1]; exact B2.new _ _ _ _
  have HW := hide (works_any ((b1.cell (p := ⟨0, 0, none⟩) gl).trans hg))
  have HB1 := hide b1
  have HR1 := hide r1
  have HAT := hide hat
  have HOK := hide hok
  have HLG := hide hg
  clear b1 r1 hat hf hok hg
  go_enter Tryd.func3, Tryd.ntmps3
  go_wp2_with fail
  rw [← eW1]
  refine (unhide HW).mono ?_
  rintro e W2 ⟨rfl, hb2⟩
  have HB2 : Hid (Below w.heap.size w W2) := (unhide HB1).trans (hb2.mono (unhide HB1).size)
  have r2 := (unhide HR1).keep (fun g hg => hb2.block g ((unhide HR1).lt g hg))
  obtain ⟨d0, d1⟩ := B2.cells r2
  have ld := World.block_lt_of_cell? _ _ d0
  have HC := hide (program_any ((unhide HPV).below (unhide HB2) (Nat.le_refl _)) (unhide HOK) (((unhide HB2).cell (p := ⟨0, 0, none⟩) gl).trans (unhide HLG)))
  have HR2 := hide r2
  clear hb2 r2 HW eW1
  go_wp2_with fail
  refine (unhide HC).mono ?_
  rintro e W3 ⟨fa', L, k, a, er, rfl, hV, hB3, hn, hs⟩
  have HB3 : Hid (Below w.heap.size w W3) := (unhide HB2).trans (hB3.mono (unhide HB2).size)
  have r3 := (unhide HR2).keep (fun g hg => hB3.block g ((unhide HR2).lt g hg))
  obtain ⟨d0, d1⟩ := B2.cells r3
  have ld := World.block_lt_of_cell? _ _ d0
  rcases hV.er with ⟨her, rfl⟩ | ⟨hck, rfl, rfl, rfl, Ls, rfl, hLl, hFn⟩
  · have hf0 := hn rfl
    subst hf0
    have heb : (er == 0) = false := by simpa using her
    have HE : Hid (∀ o1 o2, Below w.heap.size w ((W3.alloc o1).alloc o2)) := fun o1 o2 => ((unhide HB3).alloc (unhide HB3).size o1).alloc (by have := (unhide HB3).size; simp; omega) o2
    clear hV hB3 hn hs r3 HC
    go_wp2_with fail
    go_ret
    exact ⟨rfl, unhide HE _ _⟩
  · obtain ⟨hv, mv, rfl, vs, R1, R2, R3, R4, R5⟩ := hs _ rfl
    obtain ⟨ha, hcp, eh, _, _⟩ := R1.shape
    obtain ⟨ma, mcp, em, _, _⟩ := R3.shape
    rw [hLl, unhide hNF] at eh em
    have hNF1 : 0 < NF := by rw [← unhide hNF]; exact (ckF_none.1 hck).2.1
    have hNF2 : NF ≤ 128 := by rw [← unhide hNF]; exact (ckF_none.1 hck).2.2.1
    obtain ⟨hb, ho, hc', eh2, _, _, lhb, kh⟩ := R1.full (by rw [hLl, unhide hNF]; exact hNF1)
    obtain ⟨mb, mo, mc', em2, _, _, lmb, km⟩ := R3.full (by rw [hLl, unhide hNF]; exact hNF1)
    rw [hLl, unhide hNF] at eh2 em2
    rw [eh] at eh2
    rw [em] at em2
    cases eh2
    cases em2
    subst eh em
    obtain ⟨W4, eW4⟩ : ∃ W4, W4 = (W3.alloc (.cells #[.slice (some ⟨hb, ho, none⟩) NF hcp, .slice (some ⟨mb, mo, none⟩) NF mcp] 30)).alloc (.cells #[.int .i64 0, .int .i64 0] 32) := ⟨_, rfl⟩
    have F4 : Below W3.heap.size W3 W4 := by rw [eW4]; exact ((Below.refl _ _).alloc (Nat.le_refl _) _).alloc (by simp) _
    have q3 : Ro W4 2 (.slice (some ⟨W3.heap.size, 0, none⟩) 1 1) 1 [.slice (some ⟨hb, ho, none⟩) NF hcp, .slice (some ⟨mb, mo, none⟩) NF mcp] := by
      rw [eW4]; exact (B2.new W3 _ _ _).fr (S := fun _ => False) ((Fr.refl _ _).alloc _) (fun _ _ e => e)
    have q1 := r3.keep (fun g hg => F4.block g (r3.lt g hg))
    have HQ1 := hide q1
    have HQ3 := hide q3
    have HB4 : Hid (Below w.heap.size w W4) := (unhide HB3).trans (F4.mono (unhide HB3).size)
    have HKH : Hid (∀ j, j < NF → W4.cell? ⟨hb, ho + j, none⟩ = vs[j]?) := fun j hj => (F4.cell (p := ⟨hb, ho + j, none⟩) lhb).trans (kh j (by rw [hLl, unhide hNF]; omega))
    have HKM : Hid (∀ j l, Ls[j]? = some l → W4.cell? ⟨mb, mo + j, none⟩ = some (.int .i64 (mxl l))) := fun j l hl => by
      have hj := (List.getElem?_eq_some_iff.1 hl).1
      refine (F4.cell (p := ⟨mb, mo + j, none⟩) lmb).trans ((km j (by omega)).trans ?_)
      rw [flt_map, List.getElem?_map, List.getElem?_map, hl]
      rfl
    have HRU : Hid (∀ (i : Nat) (l : List Int) (u : Value), Ls[i]? = some l → vs[i]? = some u → Ro W4 1 u l.length (flt enN l)) := fun i l u h1 h2 => (R2 i l u h1 h2).1.keep (fun g hg => F4.block g ((R2 i l u h1 h2).1.lt g hg))
    have hvl := R1.1
    rw [hLl, unhide hNF, Nat.mul_one] at hvl
    have HVL := hide hvl
    have HLL := hide hLl
    have HFN := hide hFn
    have HCK := hide hck
    clear hV hB3 hn hs r3 HC F4 q1 q3 kh km R1 R2 R3 R4 R5 hvl hLl hFn hck
    have lhb4 : hb < W4.heap.size := by rw [eW4]; simp; omega
    have lmb4 : mb < W4.heap.size := by rw [eW4]; simp; omega
    go_wp2_with fail
    rw [← eW4]
    clear eW4 lhb lmb d0 d1 ld
    go_loopg [6] NF (fun gg t6 wi => ∃ (i : Nat), Hid (i + gg = NF) ∧ t6 = .int .i64 (i : Int) ∧ Hid (Below W4.heap.size W4 wi))
    case atStart => exact ⟨0, by unfold Hid; omega, rfl, Below.refl _ _⟩
    case round =>
      obtain ⟨i, hi, rfl, hB⟩ := hrel
      have i0 : (0 : Int) ≤ (i : Int) := by omega
      have e1 := (unhide hB).cell (p := ⟨w.heap.size, 1, none⟩) ((unhide HQ1).lt _ rfl) |>.trans (B2.cells (unhide HQ1)).2
      have h0 := (unhide hB).cell (p := ⟨W3.heap.size, 0, none⟩) ((unhide HQ3).lt _ rfl) |>.trans (B2.cells (unhide HQ3)).1
      have h1 := (unhide hB).cell (p := ⟨W3.heap.size, 1, none⟩) ((unhide HQ3).lt _ rfl) |>.trans (B2.cells (unhide HQ3)).2
      have lb := World.block_lt_of_cell? _ _ e1
      have lh := World.block_lt_of_cell? _ _ h0
      have HBw : Hid (Below w.heap.size w wr) := (unhide HB4).trans ((unhide hB).mono (unhide HB4).size)
      by_cases hlt : i < NF
      · have i1 : (i : Int) < (NF : Int) := by omega
        obtain ⟨f, hf⟩ : ∃ f, p.funcs[i]? = some f := ⟨_, List.getElem?_eq_getElem (by rw [unhide hNF]; exact hlt)⟩
        obtain ⟨l, hl⟩ : ∃ l, Ls[i]? = some l := ⟨_, List.getElem?_eq_getElem (by rw [unhide HLL, unhide hNF]; exact hlt)⟩
        obtain ⟨u, hu⟩ : ∃ u, vs[i]? = some u := ⟨_, List.getElem?_eq_getElem (by rw [unhide HVL]; exact hlt)⟩
        obtain ⟨gb, go, x, rfl, lgb, hx, cs⟩ := unhide HAT i f hf
        have k0 := (unhide HBw).cell (p := ⟨gb, go + i * 5 + 0, none⟩) lgb |>.trans (cs 0 _ rfl)
        have k1 := (unhide HBw).cell (p := ⟨gb, go + i * 5 + 1, none⟩) lgb |>.trans (cs 1 _ rfl)
        have k2 := (unhide HBw).cell (p := ⟨gb, go + i * 5 + 2, none⟩) lgb |>.trans (cs 2 _ rfl)
        have k3 := (unhide HBw).cell (p := ⟨gb, go + i * 5 + 3, none⟩) lgb |>.trans (cs 3 _ rfl)
        have k4 := (unhide HBw).cell (p := ⟨gb, go + i * 5 + 4, none⟩) lgb |>.trans (cs 4 _ rfl)
        rw [Nat.add_zero] at k0
        have lg := World.block_lt_of_cell? _ _ k0
        have hfn := unhide HFN i f l hf hl
        have hof := OkF.of (unhide HCK) hf
        have hru := unhide HRU i l u hl hu
        have hruw := hru.keep (fun g hg => (unhide hB).block g (hru.lt g hg))
        have u0 := ((unhide hB).cell (p := ⟨hb, ho + i, none⟩) lhb4).trans ((unhide HKH i hlt).trans hu)
        have lu := World.block_lt_of_cell? _ _ u0
        have m0 := ((unhide hB).cell (p := ⟨mb, mo + i, none⟩) lmb4).trans (unhide HKM i l hl)
        have lm := World.block_lt_of_cell? _ _ m0
        obtain ⟨ua, uc, eu, _, hum⟩ := hruw.shape
        obtain ⟨ln, hln⟩ : ∃ ln, Hid (l.length = ln) := ⟨_, rfl⟩
        rw [unhide hln] at eu
        subst eu
        have HFA := hide (fitsAll_ok (w := wr.drew) ((hx.below (unhide HBw) (Nat.le_refl _)).below (B := wr.heap.size) (Go.Proofs.YtbphddocgdihjaaDoor.Below.drewN (Below.refl _ wr) 1) (Nat.le_refl _)) (Rx.of_ro (hruw.fr (S := fun _ => False) (Fr.refl _ wr).drew (fun _ _ e => e))) hof hfn)
        have hz0 : l[0]? = some 0 := (fitO_of hof hfn).2.1
        have HTM := hide (tp_mxl hz0)
        have HRW := hide hruw
        obtain ⟨nm, pr, lcl, cv, hv0⟩ := x
        simp only at k0 k1 k2 k3 k4 HFA
        have hcvs : ∃ a c, cv = .slice a f.code.length c := by obtain ⟨_, a, c, e, _⟩ := hx.2.2.2.1; exact ⟨a, c, e⟩
        have hhvs : ∃ a c, hv0 = .slice a f.hs.length c := by obtain ⟨_, a, c, e, _⟩ := hx.2.2.2.2; exact ⟨a, c, e⟩
        obtain ⟨ca3, cc3, rfl⟩ := hcvs
        obtain ⟨ha3, hc3, rfl⟩ := hhvs
        clear cs hx hfn hof hru hruw hf hl hu hz0
        go_wp2_with fail
        refine wp_region_held_drew (S := (fun wx => Below wr.heap.size wr wx)) (by kernel_rfl) (Go.Proofs.YtbphddocgdihjaaDoor.Below.drewN (Below.refl _ wr) 1) (fun hHeld => ?_)
        refine wpAnyH_take (i := 0) (oi := _) (v := .pointer (some ⟨w.heap.size, 1, none⟩)) rfl (by kernel_rfl) (by kernel_rfl) (by kernel_rfl) (fun _ _ _ h => h) (Or.inl ⟨by rfl, (by intro wz hSw; go_simp)⟩) (by assumption) ?_
        go_simp
        refine wpAnyH_take (i := 1) (oi := _) (v := .slice (some ⟨gb, go, none⟩) NF fcap) rfl (by kernel_rfl) (by kernel_rfl) (by kernel_rfl) (fun _ _ _ h => h) (Or.inl ⟨by rfl, (by intro wz hSw; have s0 := (hSw.cell (p := ⟨w.heap.size, 1, none⟩) lb).trans e1; have s1 := Nat.lt_of_lt_of_le lb hSw.size; go_simp)⟩) (by assumption) ?_
        go_simp
        refine wpAnyH_take (i := 2) (oi := _) (v := .int .i64 (i : Int)) rfl (by kernel_rfl) (by kernel_rfl) (by kernel_rfl) (fun _ _ _ h => h) (Or.inl ⟨by rfl, (by intro wz hSw; go_simp)⟩) (by assumption) ?_
        go_simp
        refine wpAnyH_take (i := 3) (oi := _) (v := .pointer (some ⟨gb, go + i * 5, none⟩)) rfl (by kernel_rfl) (by kernel_rfl) (by kernel_rfl) (fun _ _ _ h => h) (Or.inl ⟨by rfl, (by intro wz hSw; go_simp)⟩) (by assumption) ?_
        go_simp
        refine wpAnyH_take (i := 4) (oi := _) (v := .agg #[.string nm, .int .i64 pr, .int .i64 lcl, .slice ca3 f.code.length cc3, .slice ha3 f.hs.length hc3]) rfl (by kernel_rfl) (by kernel_rfl) (by kernel_rfl) (fun _ _ _ h => h) (Or.inl ⟨by rfl, (by intro wz hSw; have q0 := (hSw.cell (p := ⟨gb, go + i * 5, none⟩) lg).trans k0; have q1 := (hSw.cell (p := ⟨gb, go + i * 5 + 1, none⟩) lg).trans k1; have q2 := (hSw.cell (p := ⟨gb, go + i * 5 + 2, none⟩) lg).trans k2; have q3 := (hSw.cell (p := ⟨gb, go + i * 5 + 3, none⟩) lg).trans k3; have q4 := (hSw.cell (p := ⟨gb, go + i * 5 + 4, none⟩) lg).trans k4; have s1 := Nat.lt_of_lt_of_le lg hSw.size; go_simp)⟩) (by assumption) ?_
        go_simp
        refine wpAnyH_take (i := 5) (oi := _) (v := .pointer (some ⟨W3.heap.size, 0, none⟩)) rfl (by kernel_rfl) (by kernel_rfl) (by kernel_rfl) (fun _ _ _ h => h) (Or.inl ⟨by rfl, (by intro wz hSw; go_simp)⟩) (by assumption) ?_
        go_simp
        refine wpAnyH_take (i := 6) (oi := _) (v := .slice (some ⟨hb, ho, none⟩) NF hcp) rfl (by kernel_rfl) (by kernel_rfl) (by kernel_rfl) (fun _ _ _ h => h) (Or.inl ⟨by rfl, (by intro wz hSw; have s0 := (hSw.cell (p := ⟨W3.heap.size, 0, none⟩) lh).trans h0; have s1 := Nat.lt_of_lt_of_le lh hSw.size; go_simp)⟩) (by assumption) ?_
        go_simp
        refine wpAnyH_take (i := 7) (oi := _) (v := .int .i64 (i : Int)) rfl (by kernel_rfl) (by kernel_rfl) (by kernel_rfl) (fun _ _ _ h => h) (Or.inl ⟨by rfl, (by intro wz hSw; go_simp)⟩) (by assumption) ?_
        go_simp
        refine wpAnyH_take (i := 8) (oi := _) (v := .pointer (some ⟨hb, ho + i, none⟩)) rfl (by kernel_rfl) (by kernel_rfl) (by kernel_rfl) (fun _ _ _ h => h) (Or.inl ⟨by rfl, (by intro wz hSw; go_simp)⟩) (by assumption) ?_
        go_simp
        refine wpAnyH_take (i := 9) (oi := _) (v := .slice ua ln uc) rfl (by kernel_rfl) (by kernel_rfl) (by kernel_rfl) (fun _ _ _ h => h) (Or.inl ⟨by rfl, (by intro wz hSw; have s0 := (hSw.cell (p := ⟨hb, ho + i, none⟩) lu).trans u0; have s1 := Nat.lt_of_lt_of_le lu hSw.size; go_simp)⟩) (by assumption) ?_
        go_simp
        refine wpAnyH_ready (rs := [10]) (by kernel_rfl) (by simp) ?_
        refine AllReadyH.cons (o := _) rfl (fun K hK => ?_) AllReadyH.nil
        go_simp
        refine (unhide HFA).mono ?_
        rintro e W6 ⟨rfl, hb6⟩
        have hS6 : Below wr.heap.size wr W6 := ⟨hb6.os, hb6.tape, hb6.output, hb6.size, hb6.block⟩
        refine hK.out _ _ (hS6) (fun hHeld10x => ?_)
        clear hK K
        go_simp
        refine wpAnyH_take (i := 11) (oi := _) (v := .bool false) rfl (by kernel_rfl) (by kernel_rfl) (by kernel_rfl) (fun _ _ _ h => h) (Or.inl ⟨by rfl, (by intro wz hSw; go_simp)⟩) (by assumption) ?_
        go_simp
        refine wpAnyH_done (by kernel_rfl) ?_ _
        have HB6 : Hid (Below W4.heap.size W4 W6) := (unhide hB).trans (hS6.mono (unhide hB).size)
        have h0 := hS6.cell (p := ⟨W3.heap.size, 0, none⟩) lh |>.trans h0
        have h1 := hS6.cell (p := ⟨W3.heap.size, 1, none⟩) lh |>.trans h1
        have u0 := hS6.cell (p := ⟨hb, ho + i, none⟩) lu |>.trans u0
        have m0 := hS6.cell (p := ⟨mb, mo + i, none⟩) lm |>.trans m0
        have lh := Nat.lt_of_lt_of_le lh hS6.size
        have lu := Nat.lt_of_lt_of_le lu hS6.size
        have lm := Nat.lt_of_lt_of_le lm hS6.size
        have hrn : Rn W6 (.slice ua ln uc) l := Rx.of_ro ((unhide HRW).keep (fun g hg => hS6.block g ((unhide HRW).lt g hg)))
        have HRN := hide hrn
        have hlm : ln ≤ 9223372036854775807 := by obtain ⟨_, _, e, h2, h3⟩ := (unhide HRW).shape; rw [unhide hln] at h2; unfold maxLen at h3; omega
        rw [← unhide HTM] at m0
        clear hS6 hb6 hHeld hrn k0 k1 k2 k3 k4 lg lb e1
        obtain ⟨G, hG⟩ : ∃ G, Hid (gk = G) := ⟨_, rfl⟩
        rw [unhide hG] at hi
        go_wp2_with fail
        go_loopg [7, 8] ln (fun gg t7 t8 wi => ∃ (j : Nat), Hid (j + gg = ln) ∧ t7 = .int .i64 (tp (l.take j)) ∧ t8 = .int .i64 (j : Int) ∧ wi = W6)
        case atStart => exact ⟨0, by unfold Hid; omega, by simp [tp], rfl, rfl⟩
        case round =>
          obtain ⟨j, hj, rfl, rfl, hX⟩ := hrel
          obtain rfl := hX.symm
          clear hX
          have j0 : (0 : Int) ≤ (j : Int) := by omega
          by_cases hjl : j < ln
          · have j1 : (j : Int) < (ln : Int) := by omega
            obtain ⟨y, hy⟩ : ∃ y, l[j]? = some y := ⟨_, List.getElem?_eq_getElem (by rw [unhide hln]; exact hjl)⟩
            obtain ⟨yb, yo, yc, ey, _, ky⟩ := (unhide HRN).at hy
            rw [unhide hln] at ey
            cases ey
            have ly := World.block_lt_of_cell? _ _ ky
            have hps := tp_push hy
            obtain ⟨tv, htv⟩ : ∃ tv, Hid (tp (l.take j) = tv) := ⟨_, rfl⟩
            rw [unhide htv] at hps ⊢
            have HPS := hide hps
            clear hy hps
            by_cases hgt : tv < y
            · go_wp2_with fail
              go_roundg (gk - 1)
              case measure => have := unhide hj; omega
              case rel => exact ⟨j + 1, by have := unhide hj; unfold Hid; omega, by rw [unhide HPS]; congr 1; omega, by go_num, rfl⟩
            · go_wp2_with fail
              go_roundg (gk - 1)
              case measure => have := unhide hj; omega
              case rel => exact ⟨j + 1, by have := unhide hj; unfold Hid; omega, by rw [unhide HPS]; congr 1; omega, by go_num, rfl⟩
          · have j1 : ¬ (j : Int) < (ln : Int) := by omega
            rw [List.take_of_length_le (by rw [unhide hln]; omega)]
            obtain ⟨tv, htv⟩ : ∃ tv, Hid (tp l = tv) := ⟨_, rfl⟩
            rw [unhide htv] at m0 ⊢
            go_wp2_with fail
            go_roundg (G - 1)
            case measure => have := unhide hG; have := unhide hi; omega
            case rel => exact ⟨i + 1, by have := unhide hi; unfold Hid; omega, by go_num, HB6⟩
      · have i1 : ¬ (i : Int) < (NF : Int) := by omega
        go_wp2_with fail
        go_ret
        exact ⟨rfl, unhide HBw⟩
end Go.Proofs.YtbphddocgdihjaaDoor
