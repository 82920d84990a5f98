/-
  The document's Most and Program.
-/
import Derived.Test.YtbkfnmkfbdoadaaGreatDoorTFun
import Derived.Test.YtbkfnmkfbdoadaaGreatDoorVPrg
import Derived.Test.YtbkfnmkfbdoadaaGreatDoorVTab2
import Derived.Test.YtbkfnmkfbdoadaaGreatDoorRCheck
namespace Go.Proofs.YtbkfnmkfbdoadaaGreatDoor
open Go.RowKit
set_option linter.unusedVariables false
set_option linter.unusedSimpArgs false
theorem mxl_take1 {l : List Int} {x : Int} (h : l[0]? = some x) : mxl (l.take 1) = x := by
  cases l with
  | nil => simp at h
  | cons y r => simp at h; subst h; rfl
set_option maxRecDepth 100000 in
set_option maxHeartbeats 3200000 in
theorem most_any {w : World} {v : Value} {l : List Int} (h : Rn w v l) (h0 : 0 < l.length) (hge : ∀ x ∈ l, 0 ≤ x) :
    Calls Tryz.prog 17 #[v] w fun e w' => e = .returned (.int .i64 (mxl l)) ∧ w' = w := by
  have HU := hide (fun i p (hp : l[i]? = some p) => h.at hp)
  obtain ⟨ua, uc, rfl, _, um⟩ := h.shape
  obtain ⟨N, hN⟩ : ∃ L, Hid (l.length = L) := ⟨_, rfl⟩
  have hNm : N ≤ maxLen := by rw [← unhide hN]; omega
  unfold maxLen at hNm
  have HGE := hide hge
  have HN0 : Hid (0 < N) := by rw [← unhide hN]; exact h0
  rw [unhide hN] at HU ⊢
  clear h um h0 hge
  go_enter Tryz.func17, Tryz.ntmps17
  go_wp2_with fail
  go_loopg [3, 4] N (fun gg t3 t4 wr => ∃ (i : Nat) (m : Int), Hid (i + gg = N) ∧ t4 = .int .i64 (i : Int) ∧ t3 = .int .i64 m ∧ wr = w ∧ Hid ((i = 0 ∧ m = 0) ∨ (0 < i ∧ m = mxl (l.take i) ∧ 0 ≤ m)))
  case atStart => exact ⟨0, 0, by unfold Hid; omega, rfl, rfl, rfl, .inl ⟨rfl, rfl⟩⟩
  case round =>
    obtain ⟨i, m, hi, rfl, rfl, hX, hm⟩ := hrel
    obtain rfl := hX.symm
    clear hX
    by_cases hlt : i < N
    · obtain ⟨x, hx⟩ : ∃ x, l[i]? = some x := ⟨_, List.getElem?_eq_getElem (by rw [unhide hN]; exact hlt)⟩
      obtain ⟨b, off, cap, e, lb, hc⟩ := unhide HU i x hx
      have e2 : ua = some ⟨b, off, none⟩ := by injection e
      subst e2
      have x0 := unhide HGE x (List.mem_of_getElem? hx)
      have i0 : (0 : Int) ≤ (i : Int) := by omega
      have i1 : (i : Int) < (N : Int) := by omega
      have HM : Hid (∀ m', m' = max m x → (0 < i + 1 ∧ m' = mxl (l.take (i + 1)) ∧ 0 ≤ m')) := fun m' e => by
        rcases unhide hm with ⟨rfl, rfl⟩ | ⟨h1, h2, h3⟩
        · refine ⟨by omega, ?_, by omega⟩
          rw [mxl_take1 hx, e]; omega
        · refine ⟨by omega, ?_, by omega⟩
          rw [mxl_push h1 hx, ← h2, e]
      clear hx e
      by_cases hgt : m < x
      · have HM2 := hide (unhide HM x (by omega))
        go_wp2_with fail
        go_roundg (gk - 1)
        case measure => have := unhide hi; omega
        case rel => exact ⟨i + 1, x, by have := unhide hi; unfold Hid; omega, by go_num, rfl, rfl, .inr (unhide HM2)⟩
      · have HM2 := hide (unhide HM m (by omega))
        go_wp2_with fail
        go_roundg (gk - 1)
        case measure => have := unhide hi; omega
        case rel => exact ⟨i + 1, m, by have := unhide hi; unfold Hid; omega, by go_num, rfl, rfl, .inr (unhide HM2)⟩
    · have hiN : i = N := by have := unhide hi; omega
      have i1 : ¬ (i : Int) < (N : Int) := by omega
      have HE : Hid (m = mxl l) := by
        rcases unhide hm with ⟨h1, _⟩ | ⟨_, h2, _⟩
        · have := unhide HN0; omega
        · unfold Hid; rw [h2, hiN, List.take_of_length_le (by rw [unhide hN]; exact Nat.le_refl _)]
      clear hiN
      go_wp2_with fail
      go_ret
      exact ⟨by rw [← unhide HE]; rfl, rfl⟩
set_option maxRecDepth 100000 in
set_option maxHeartbeats 6400000 in
theorem tprogram_any {w : World} {pv : Value} {p : Pg} (hp : PgV w pv p) (hC : p.consts.length ≤ 9000000000000) (hokr : ∀ (i : Nat) (f : Fc), p.funcs[i]? = some f → f.code.length ≤ 9000000000000 ∧ f.name.size ≤ 9223372036854775807 ∧ ∀ q ∈ f.code, I64 q.2) :
    Calls Tryz.prog 5 #[pv] w fun e w' => ∃ fa L k a er, e = .returned (.tuple #[fa, .agg #[.int .i64 k, .int .i64 a], .int .i64 er]) ∧ VpR p L k a er ∧ Below w.heap.size w w' ∧ (L = none → fa = .agg #[.slice none 0 0, .slice none 0 0]) ∧ ∀ Ls, L = some Ls → ∃ hv mv, fa = .agg #[hv, mv] ∧ FcR w.heap.size w' hv mv Ls := by
  have HPV := hide hp
  obtain ⟨cv, fv, rfl, hc, hf⟩ := hp
  obtain ⟨_, ca, ccap, rfl, _, _, _⟩ := hc
  have HFS := hide hf
  obtain ⟨fa, fcap, rfl, hfl, hfm, hat⟩ := hf.at
  obtain ⟨NC, hNC⟩ : ∃ n, Hid (p.consts.length = n) := ⟨_, rfl⟩
  obtain ⟨NF, hNF⟩ : ∃ n, Hid (p.funcs.length = n) := ⟨_, rfl⟩
  rw [unhide hNF] at hfl
  unfold maxLen at hfm
  rw [unhide hNC, unhide hNF] at HPV
  rw [unhide hNC, unhide hNF]
  obtain ⟨W3, eW3⟩ : ∃ W3, W3 = (((w.alloc (.cells #[.slice ca NC ccap, .slice fa NF fcap] 25)).alloc (.cells #[.slice none 0 0, .slice none 0 0] 29)).alloc (.cells #[.int .i64 0, .int .i64 0] 31)).alloc (.cells #[.slice none 0 0, .slice none 0 0] 29) := ⟨_, rfl⟩
  have t4 : Below w.heap.size w W3 := by rw [eW3]; exact ((((Below.refl _ w).alloc (Nat.le_refl _) _).alloc (by simp only [World.size_alloc]; omega) _).alloc (by simp only [World.size_alloc]; omega) _).alloc (by simp only [World.size_alloc]; omega) _
  have t5 : W3.heap.size = w.heap.size + 4 := by rw [eW3]; simp
  have hb0 : W3.cell? ⟨w.heap.size, 0, none⟩ = some (.slice ca NC ccap) := by
    have n0 := new_cells w #[.slice ca NC ccap, .slice fa NF fcap] 25 0 _ rfl
    rw [Go.WideShapes.add_plain] at n0
    rw [eW3]; exact (((((Below.refl (w.heap.size + 1) (w.alloc (.cells #[.slice ca NC ccap, .slice fa NF fcap] 25))).alloc (by simp) _).alloc (by simp) _).alloc (by simp) _).cell (p := ⟨w.heap.size, 0, none⟩) (by simp)).trans n0
  have hb1 : W3.cell? ⟨w.heap.size, 1, none⟩ = some (.slice fa NF fcap) := by
    have n0 := new_cells w #[.slice ca NC ccap, .slice fa NF fcap] 25 1 _ rfl
    rw [Go.WideShapes.add_plain] at n0
    rw [eW3]; exact (((((Below.refl (w.heap.size + 1) (w.alloc (.cells #[.slice ca NC ccap, .slice fa NF fcap] 25))).alloc (by simp) _).alloc (by simp) _).alloc (by simp) _).cell (p := ⟨w.heap.size, 1, none⟩) (by simp)).trans n0
  have HC := hide (rCheck_any ((unhide HPV).below t4 (Nat.le_refl _)) hC hokr)
  have HB3 := hide t4
  have HAT := hide hat
  clear t4 hat hf hC hokr hb0 hb1
  go_enter Tryz.func5, Tryz.ntmps5
  go_wp2_with fail
  rw [← eW3]
  refine (unhide HC).mono ?_
  rintro e W4 ⟨rfl, hb4⟩
  obtain ⟨W3a, eW3a⟩ : ∃ x, x = ((w.alloc (.cells #[.slice ca NC ccap, .slice fa NF fcap] 25)).alloc (.cells #[.slice none 0 0, .slice none 0 0] 29)).alloc (.cells #[.int .i64 0, .int .i64 0] 31) := ⟨_, rfl⟩
  rw [← eW3a] at eW3
  have r2a : Ro W3a 2 (.slice (some ⟨w.heap.size + 1, 0, none⟩) 1 1) 1 [.slice none 0 0, .slice none 0 0] := by
    rw [eW3a]; exact (B2.new' (w.alloc (.cells #[.slice ca NC ccap, .slice fa NF fcap] 25)) _ _ _ (by simp)).fr (S := fun _ => False) ((Fr.refl _ _).alloc _) (fun _ _ e => e)
  have r3a : Ro W3a 2 (.slice (some ⟨w.heap.size + 1 + 1, 0, none⟩) 1 1) 1 [.int .i64 0, .int .i64 0] := by
    rw [eW3a]; exact B2.new' _ _ _ _ (by simp)
  have r1a : Ro W3a 2 (.slice (some ⟨w.heap.size, 0, none⟩) 1 1) 1 [.slice ca NC ccap, .slice fa NF fcap] := by
    rw [eW3a]; exact ((B2.new w _ _ _).fr (S := fun _ => False) ((Fr.refl _ _).alloc _) (fun _ _ e => e)).fr (S := fun _ => False) ((Fr.refl _ _).alloc _) (fun _ _ e => e)
  have fA : Fr (fun _ => False) W3a W3 := by rw [eW3]; exact (Fr.refl _ _).alloc _
  have r1 := r1a.fr fA (fun _ _ e => e)
  have r2 := r2a.fr fA (fun _ _ e => e)
  have r3 := r3a.fr fA (fun _ _ e => e)
  have rn : Ro W3 2 (.slice (some ⟨w.heap.size + 1 + 1 + 1, 0, none⟩) 1 1) 1 [.slice none 0 0, .slice none 0 0] := by
    rw [eW3]; exact B2.new' W3a _ _ _ (by rw [eW3a]; simp)
  have R1 := hide (r1.keep (fun g hg => hb4.block g (r1.lt g hg)))
  have R2 := hide (r2.keep (fun g hg => hb4.block g (r2.lt g hg)))
  have R3 := hide (r3.keep (fun g hg => hb4.block g (r3.lt g hg)))
  have RN := hide (rn.keep (fun g hg => hb4.block g (rn.lt g hg)))
  have HB4 : Hid (Below w.heap.size w W4) := (unhide HB3).trans (hb4.mono (unhide HB3).size)
  have hs4 := hb4.size
  rw [t5] at hs4
  clear r1 r2 r3 rn r1a r2a r3a fA hb4 HC eW3 eW3a
  cases hck : ckF p with
  | some o =>
    obtain ⟨k, a, y⟩ := o
    have hy := ckF_ne hck
    have HV : Hid (VpR p none k a y) := .inl ⟨y, hck, rfl, rfl, hy⟩
    obtain ⟨W5, eW5⟩ : ∃ W5, W5 = W4.alloc (.cells #[.int .i64 k, .int .i64 a] 31) := ⟨_, rfl⟩
    have f5 : Fr (fun _ => False) W4 W5 := by rw [eW5]; exact (Fr.refl _ _).alloc _
    have q5 : Ro W5 2 (.slice (some ⟨W4.heap.size, 0, none⟩) 1 1) 1 [.int .i64 k, .int .i64 a] := by rw [eW5]; exact B2.new _ _ _ _
    have q2 := (unhide R2).fr f5 (fun _ _ e => e)
    have q3 := (unhide R3).fr f5 (fun _ _ e => e)
    have qn := (unhide RN).fr f5 (fun _ _ e => e)
    have HB5 : Hid (Below w.heap.size w W5) := (unhide HB4).trans (f5.below (unhide HB4).size (fun _ _ e => e))
    obtain ⟨g0, g1⟩ := B2.cells q5
    obtain ⟨m0, m1⟩ := B2.cells q2
    obtain ⟨n0, n1⟩ := B2.cells q3
    obtain ⟨e0, e1⟩ := B2.cells qn
    have ln := World.block_lt_of_cell? _ _ e0
    have b14 := (B2.cells (unhide R1)).2
    have z20 := q2.free rfl 0
    have z21 := q2.free rfl 1
    have z30 := q3.free rfl 0
    have z31 := q3.free rfl 1
    have l5 := World.block_lt_of_cell? _ _ g0
    have l2 := World.block_lt_of_cell? _ _ m0
    have l3 := World.block_lt_of_cell? _ _ n0
    have d2 : Hid (¬ W4.heap.size = w.heap.size + 1) := by unfold Hid; omega
    have d3 : Hid (¬ W4.heap.size = w.heap.size + 1 + 1) := by unfold Hid; omega
    have hyb : (y == 0) = false := by simpa using hy
    have Q2 := hide q2
    have Q3 := hide q3
    have hSt1 : Fr (fun k => k = w.heap.size + 1 ∨ k = w.heap.size + 1 + 1) W5 (W5.drew.setCells (w.heap.size + 1) 0 [.slice none 0 0, .slice none 0 0]) := (Fr.refl (fun k => k = w.heap.size + 1 ∨ k = w.heap.size + 1 + 1) W5).drew.step (setcells_fr _ _ _ _) (fun _ _ e => .inl e)
    have hSt2 : Fr (fun k => k = w.heap.size + 1 ∨ k = w.heap.size + 1 + 1) W5 ((W5.drew.setCells (w.heap.size + 1) 0 [.slice none 0 0, .slice none 0 0]).setCells (w.heap.size + 1 + 1) 0 [.int .i64 k, .int .i64 a]) := hSt1.step (setcells_fr _ _ _ _) (fun _ _ e => .inr e)
    clear f5 q5 q2 q3 qn hck HFS HAT b14
    simp only [rsV]
    go_wp2_with fail
    rw [← eW5]
    clear eW5
    refine wp_region_held_drew (S := (fun wx => Fr (fun k => k = w.heap.size + 1 ∨ k = w.heap.size + 1 + 1) W5 wx)) (by kernel_rfl) ((Fr.refl _ W5).drew) (fun hHeld => ?_)
    refine wpAnyH_take (i := 0) (oi := _) (v := .agg #[.slice none 0 0, .slice none 0 0]) rfl (by kernel_rfl) (by kernel_rfl) (by kernel_rfl) (fun _ _ _ h => h) (Or.inl ⟨by rfl, (by intro wz hSw; have q0 := (hSw.cell (a := ⟨w.heap.size + 1 + 1 + 1, 0, none⟩) ln (fun e => e.elim (fun q => by have q2 : w.heap.size + 1 + 1 + 1 = w.heap.size + 1 := q; omega) (fun q => by have q2 : w.heap.size + 1 + 1 + 1 = w.heap.size + 1 + 1 := q; omega))).trans e0; have q1 := (hSw.cell (a := ⟨w.heap.size + 1 + 1 + 1, 1, none⟩) ln (fun e => e.elim (fun q => by have q2 : w.heap.size + 1 + 1 + 1 = w.heap.size + 1 := q; omega) (fun q => by have q2 : w.heap.size + 1 + 1 + 1 = w.heap.size + 1 + 1 := q; omega))).trans e1; have l52 := Nat.lt_of_lt_of_le ln hSw.size; go_simp)⟩) (by assumption) ?_
    go_simp
    refine wpAnyH_take (i := 1) (oi := _) (v := .agg #[.int .i64 k, .int .i64 a]) rfl (by kernel_rfl) (by kernel_rfl) (by kernel_rfl) (fun _ _ _ h => h) (Or.inl ⟨by rfl, (by intro wz hSw; have q0 := (hSw.cell (a := ⟨W4.heap.size, 0, none⟩) l5 (fun e => e.elim (fun q => unhide d2 q) (fun q => unhide d3 q))).trans g0; have q1 := (hSw.cell (a := ⟨W4.heap.size, 1, none⟩) l5 (fun e => e.elim (fun q => unhide d2 q) (fun q => unhide d3 q))).trans g1; have l52 := Nat.lt_of_lt_of_le l5 hSw.size; go_simp)⟩) (by assumption) ?_
    go_simp
    refine wpAnyH_take (i := 2) (oi := _) (v := .int .i64 y) rfl (by kernel_rfl) (by kernel_rfl) (by kernel_rfl) (fun _ _ _ h => h) (Or.inl ⟨by rfl, (by intro wz hSw; go_simp)⟩) (by assumption) ?_
    go_simp
    refine wpAnyH_ready (rs := [3]) (by kernel_rfl) (by simp) ?_
    refine AllReadyH.cons (o := _) rfl (fun K hK => ?_) AllReadyH.nil
    go_simp
    refine hK.out _ _ (hSt1) (fun hHeld3x => ?_)
    clear hK K
    refine wpAnyH_ready (rs := [4]) (by kernel_rfl) (by simp) ?_
    refine AllReadyH.cons (o := _) rfl (fun K hK => ?_) AllReadyH.nil
    go_simp
    refine hK.out _ _ (hSt2) (fun hHeld4x => ?_)
    clear hK K
    refine wpAnyH_take (i := 5) (oi := _) (v := .int .i64 y) rfl (by kernel_rfl) (by kernel_rfl) (by kernel_rfl) (fun _ _ _ h => h) (Or.inl ⟨by rfl, (by intro wz hSw; go_simp)⟩) (by assumption) ?_
    go_simp
    refine wpAnyH_done (by kernel_rfl) ?_ _
    obtain ⟨WE, eWE⟩ : ∃ WE, WE = ((W5.setCells (w.heap.size + 1) 0 [.slice none 0 0, .slice none 0 0]).setCells (w.heap.size + 1 + 1) 0 [.int .i64 k, .int .i64 a]).drew := ⟨_, rfl⟩
    change Exit.then _ _ _ _ (((W5.setCells (w.heap.size + 1) 0 [.slice none 0 0, .slice none 0 0]).setCells (w.heap.size + 1 + 1) 0 [.int .i64 k, .int .i64 a]).drew)
    obtain ⟨E2, E3, BE⟩ := two_put (unhide Q2) (unhide Q3) (by omega) (unhide HB5) (by omega) (by omega) (.slice none 0 0) (.slice none 0 0) (.int .i64 k) (.int .i64 a)
    rw [← eWE] at E2 E3 BE ⊢
    have HE2 := hide E2
    have HE3 := hide E3
    clear eWE E2 E3 hSt1 hSt2 g0 g1 m0 m1 n0 n1 e0 e1 ln z20 z21 z30 z31 l5 l2 l3 hHeld
    go_wp2_with fail
    (try simp only [Exit.inBlock, Exit.then])
    refine bodyPost_ret (results_mix rfl _ _ _ rfl rfl (load30 (unhide HE2)) (load32 (unhide HE3))) rfl ?_
    exact ⟨_, none, _, _, _, rfl, unhide HV, BE, fun _ => rfl, fun Ls e => by cases e⟩
  | none =>
    obtain ⟨W5, eW5⟩ : ∃ W5, W5 = W4.alloc (.cells #[.int .i64 0, .int .i64 0] 31) := ⟨_, rfl⟩
    have f5 : Fr (fun _ => False) W4 W5 := by rw [eW5]; exact (Fr.refl _ _).alloc _
    have hFS := FS.first W5
    obtain ⟨W6, eW6⟩ : ∃ W6, W6 = W5.alloc (.cells #[.slice none 0 0, .slice none 0 0] 29) := ⟨_, rfl⟩
    obtain ⟨qb, eqb⟩ : ∃ qb, qb = W5.heap.size := ⟨_, rfl⟩
    rw [← eW6, ← eqb] at hFS
    have q1 := (unhide R1).fr f5 (fun _ _ e => e)
    have q2 := (unhide R2).fr f5 (fun _ _ e => e)
    have q3 := (unhide R3).fr f5 (fun _ _ e => e)
    have qn := (unhide RN).fr f5 (fun _ _ e => e)
    have hs5 : W5.heap.size = W4.heap.size + 1 := by rw [eW5]; simp
    have HB5 : Hid (Below w.heap.size w W5) := (unhide HB4).trans (f5.below (unhide HB4).size (fun _ _ e => e))
    have Q1 := hide q1
    have Q2 := hide q2
    have Q3 := hide q3
    have QN := hide qn
    have HFS6 := hide hFS
    have b1 := hFS.bl.cell (p := ⟨w.heap.size, 1, none⟩) (q1.lt _ rfl) |>.trans (B2.cells q1).2
    have lb1 := World.block_lt_of_cell? _ _ b1
    have b14 := (B2.cells (unhide R1)).2
    have lb14 := World.block_lt_of_cell? _ _ b14
    have HCK := hide hck
    have hNFm : NF ≤ 128 := by rw [← unhide hNF]; exact (ckF_none.1 hck).2.2.1
    clear f5 q1 q2 q3 qn hFS hck R1 R2 R3 RN
    simp only [rsV]
    rw [eW5] at eqb eW6
    simp only [World.size_alloc] at eqb
    go_wp2_with fail
    rw [← eqb, ← eW6]
    clear b14 lb14 eW5 eqb eW6 b1 lb1
    go_loopg [9] NF (fun gg t26 wi => ∃ (i : Nat), Hid (i + gg = NF) ∧ t26 = .int .i64 (i : Int) ∧ Hid (∃ hv mv vs L, FS W5 qb hv mv vs L L wi ∧ L.length = i ∧ ∀ (j : Nat) (f : Fc) (l : List Int), p.funcs[j]? = some f → L[j]? = some l → FnR f (some l) 0 0))
    case atStart => exact ⟨0, by unfold Hid; omega, rfl, _, _, _, _, unhide HFS6, rfl, fun j f l _ h => by simp at h⟩
    case round =>
      obtain ⟨i, hi, rfl, hF⟩ := hrel
      obtain ⟨hv, mv, vs, L, hF1, hL, hFn⟩ := unhide hF
      have HF1 := hide hF1
      have HLL := hide hL
      have HFN := hide hFn
      have hB5w : Below W5.heap.size W5 wr := hF1.bl
      have HBW : Hid (Below w.heap.size w wr) := (unhide HB5).trans (hB5w.mono (unhide HB5).size)
      have i0 : (0 : Int) ≤ (i : Int) := by omega
      clear hF hF1 hL hFn HFS6
      by_cases hlt : i < NF
      · have i1 : (i : Int) < (NF : Int) := by omega
        obtain ⟨f, hf⟩ : ∃ f, p.funcs[i]? = some f := ⟨_, List.getElem?_eq_getElem (by rw [unhide hNF]; exact hlt)⟩
        obtain ⟨b, off, x, rfl, hb, hx, cs⟩ := unhide HAT i f hf
        have k0 := (unhide HBW).cell (p := ⟨b, off + i * 5 + 0, none⟩) hb |>.trans (cs 0 _ rfl)
        have k1 := (unhide HBW).cell (p := ⟨b, off + i * 5 + 1, none⟩) hb |>.trans (cs 1 _ rfl)
        have k2 := (unhide HBW).cell (p := ⟨b, off + i * 5 + 2, none⟩) hb |>.trans (cs 2 _ rfl)
        have k3 := (unhide HBW).cell (p := ⟨b, off + i * 5 + 3, none⟩) hb |>.trans (cs 3 _ rfl)
        have k4 := (unhide HBW).cell (p := ⟨b, off + i * 5 + 4, none⟩) hb |>.trans (cs 4 _ rfl)
        rw [Nat.add_zero] at k0
        have lk := World.block_lt_of_cell? _ _ k0
        have hok' := OkF.of (unhide HCK) hf
        have HFa := HF1
        have hBa := unhide HBW
        have HCF := hide (tfunction_any hok' (hx.below hBa (Nat.le_refl _)))
        have b1 := (B2.cells ((unhide Q1).keep (fun g hg => hB5w.block g ((unhide Q1).lt g hg)))).2
        have lb1 := World.block_lt_of_cell? _ _ b1
        obtain ⟨_, ca2, cc2, ecv, _, _, _⟩ := hx.2.2.2.1
        obtain ⟨_, ha2, hc2, ehv, _, _, _⟩ := hx.2.2.2.2
        have HI := hide hf
        have HN1 := hide hok'.n1
        obtain ⟨nm, pr, lc, cv', hv'⟩ := x
        simp only at ecv ehv k0 k1 k2 k3 k4 HCF
        subst ecv ehv
        have HFN2 := hide hok'
        clear cs hx hok' hBa hf hB5w
        go_wp2_with fail
        refine (unhide HCF).mono ?_
        rintro e Wb ⟨u, ht, pl, er, rfl, hR, hnone, hsome, hBb⟩
        clear b1 lb1
        have HFb := hide ((unhide HFa).keep hBb)
        have hbw : Below w.heap.size w Wb := (unhide HB5).trans ((unhide HFb).bl.mono (unhide HB5).size)
        have p2 := (unhide Q2).keep (fun g hg => (unhide HFb).bl.block g ((unhide Q2).lt g hg))
        have p3 := (unhide Q3).keep (fun g hg => (unhide HFb).bl.block g ((unhide Q3).lt g hg))
        have pn := (unhide QN).keep (fun g hg => (unhide HFb).bl.block g ((unhide QN).lt g hg))
        cases ht with
        | none =>
          have her : er ≠ 0 := by
            rcases hR with h | h | h
            · rw [h.1]; decide
            · rw [h.1]; decide
            · obtain ⟨_, h1, _⟩ := h.2.2.2.2; cases h1
          have HV : Hid (VpR p none (i : Int) pl er) := .inr (.inl ⟨unhide HCK, i, f, unhide HI, rfl, rfl, her, hR, fun j g hj hg => by
            have hl := unhide HLL
            exact ⟨_, unhide HFN j g _ hg (List.getElem?_eq_getElem (by omega))⟩⟩)
          have hu := hnone rfl
          subst hu
          have hyb : (er == 0) = false := by simpa using her
          obtain ⟨m0, m1⟩ := B2.cells p2
          obtain ⟨n0, n1⟩ := B2.cells p3
          obtain ⟨e0, e1⟩ := B2.cells pn
          have ln := World.block_lt_of_cell? _ _ e0
          have z20 := p2.free rfl 0
          have z21 := p2.free rfl 1
          have z30 := p3.free rfl 0
          have z31 := p3.free rfl 1
          have l2 := World.block_lt_of_cell? _ _ m0
          have l3 := World.block_lt_of_cell? _ _ n0
          obtain ⟨E2, E3, BE, _⟩ := two_put0 p2 p3 (by omega) hbw (by omega) (by omega) (.slice none 0 0) (.slice none 0 0) (.int .i64 (i : Int)) (.int .i64 pl)
          have HE2 := hide E2
          have HE3 := hide E3
          have HBE := hide BE
          clear hR hBb hnone hsome p2 p3 pn E2 E3 BE hbw k0 k1 k2 k3 k4 lk HCF HFa HFb
          go_wp2_with fail
          (try simp only [Exit.inBlock, Exit.then])
          refine bodyPost_ret (results_mix rfl _ _ _ rfl rfl (load30 (unhide HE2)) (load32 (unhide HE3))) rfl ?_
          exact ⟨_, none, _, _, _, rfl, unhide HV, unhide HBE, fun _ => rfl, fun Ls e => by cases e⟩
        | some l =>
          have HRR0 := hide hR
          have hz : er = 0 ∧ pl = 0 ∧ l.length = f.code.length := by
            rcases hR with h | h | h
            · cases h.2.1
            · cases h.2.1
            · obtain ⟨_, h1, h2, _⟩ := h.2.2.2.2; cases h1; exact ⟨h.1, h.2.1, h2⟩
          obtain ⟨rfl, rfl, hll⟩ := hz
          have HRR := HRR0
          clear HRR0
          obtain ⟨hu, huf⟩ := hsome l rfl
          obtain ⟨ua, uc, eu, _, _⟩ := hu.shape
          subst eu
          obtain ⟨ha, hcap, eh, _, _⟩ := (unhide HFb).hr.shape
          obtain ⟨ma, mc, em, _, _⟩ := (unhide HFb).mr.shape
          subst eh em
          obtain ⟨mn, hLn⟩ : ∃ mn, Hid (L.length = mn) := ⟨_, rfl⟩
          have hmb : mn < 1000 := by have := unhide HLL; rw [← unhide hLn]; omega
          have HFb : Hid (FS W5 qb (.slice ha mn hcap) (.slice ma mn mc) vs L L Wb) := by rw [← unhide hLn]; exact HFb
          have c0 := (unhide HFb).c0
          have fz0 := (unhide HFb).fz 0
          have lq := (unhide HFb).lt
          have hHR := (unhide HFb).hr
          have HHR : Hid (Ro (Wb.alloc (.cells #[.slice ua l.length uc] 27)) 1 (.slice ha mn hcap) mn vs) := by
            have := hHR.keep (w' := Wb.alloc (.cells #[.slice ua l.length uc] 27)) (fun g hg => Below.heap_alloc _ _ _ (hHR.lt g hg))
            rw [unhide hLn] at this
            exact this
          have huF : ∀ k, (Value.slice ua l.length uc).ownBlock = some k → W5.heap.size ≤ k ∧ k ≠ qb ∧ (Value.slice ha mn hcap).ownBlock ≠ some k ∧ (Value.slice ma mn mc).ownBlock ≠ some k := fun k hk => by
            have h1 := huf k hk
            have h2 := (unhide HFa).bl.size
            have h3 := (unhide HFa).lt
            exact ⟨by omega, by omega, fun e => by have := (unhide HFa).hr.lt k (by rw [unhide hLn]; exact e); omega, fun e => by have := (unhide HFa).mr.lt k (by rw [unhide hLn]; exact e); omega⟩
          have HU := hide hu
          have HUF := hide huF
          have HUQ : Hid (∀ (j : Nat) (v : Value) (k : Nat), vs[j]? = some v → v.ownBlock = some k → (Value.slice ua l.length uc).ownBlock ≠ some k) := fun j v k hv hk e => by
            have h1 := huf k e
            have h2 := (unhide HFa).rowlt hv hk
            omega
          have hn1 := unhide HN1
          have HN0 : Hid (0 < l.length) := by unfold Hid; omega
          have HGE : Hid (∀ x ∈ l, 0 ≤ x) := fun x hx => by
            obtain ⟨i, hi, rfl⟩ := List.getElem_of_mem hx
            rcases unhide HRR with h | h | h
            · cases h.2.1
            · cases h.2.1
            · obtain ⟨_, h1, _, h3⟩ := h.2.2.2.2
              cases h1
              exact (((h3 i _).1 (List.getElem?_eq_getElem hi)).bd (unhide HFN2)).2.2.1
          clear hR hBb hnone hsome p2 p3 pn hbw k0 k1 k2 k3 k4 lk HCF HFa hu huf huF hHR hll
          have HNC : Hid (∀ j u', [Value.slice ua l.length uc][j]? = some u' → (Wb.alloc (.cells #[.slice ua l.length uc] 27)).cell? ((⟨Wb.heap.size, 0, none⟩ : Addr).add j) = some u') := new_cells Wb #[.slice ua l.length uc] 27
          go_wp2_with (first | (at_builtin; refine wpList_appL rfl _ _ rfl (.slice ha mn hcap) mn vs rfl (unhide HHR) ⟨Wb.heap.size, 0, none⟩ 1 (.slice ua l.length uc) rfl rfl (unhide HNC) (by omega) ?_; intro v4 w4 hr4 hg4 hat4; obtain ⟨va4, vc4, ev4, _, _⟩ := hr4.shape; subst ev4; obtain ⟨y0, yz0, HF6⟩ := (unhide HFb).pushH (l := l) (unhide HU) (unhide HUF) (unhide HUQ) (by rw [unhide hLn]; exact hr4) hg4 (by simpa using hat4); have ly0 := World.block_lt_of_cell? _ _ y0; clear hr4 hg4 hat4))
          obtain ⟨W7, eW7⟩ : ∃ W7, W7 = w4.setCell ⟨qb, 0, none⟩ (.slice va4 (mn + 1) vc4) := ⟨_, rfl⟩
          rw [← eW7] at HF6 ⊢
          obtain ⟨m, hm⟩ : ∃ m, Hid (mxl l = m) := ⟨_, rfl⟩
          have hln2 : L.length + 1 = mn + 1 := by rw [unhide hLn]
          have HF7 := hide ((unhide HF6).keep (Go.Proofs.YtbkfnmkfbdoadaaGreatDoor.Below.drewN (Below.refl _ W7) 1))
          have hul := (unhide HF6).el mn l (.slice ua l.length uc) (by rw [← unhide hLn]; simp) (by have := (unhide HFb).hr.1; rw [Nat.mul_one, unhide hLn] at this; rw [← this]; simp)
          have HMX := hide (most_any (w := W7.drew) (Rx.of_ro (hul.1.fr (S := fun _ => False) (Fr.refl _ W7).drew (fun _ _ e => e))) (unhide HN0) (unhide HGE))
          rw [unhide hm] at HMX
          have hMR := (unhide HF7).mr
          have HMR : Hid (Ro (W7.drew.alloc (.cells #[.int .i64 m] 3)) 1 (.slice ma mn mc) mn (flt enN (L.map mxl))) := by
            have := hMR.keep (w' := W7.drew.alloc (.cells #[.int .i64 m] 3)) (fun g hg => Below.heap_alloc _ _ _ (hMR.lt g hg))
            rw [unhide hLn] at this
            exact this
          have c1 := (unhide HF6).c1
          have lq7 := World.block_lt_of_cell? _ _ c1
          clear eW7 y0 yz0 ly0 c0 fz0 lq hul hMR hln2 HHR HNC HU HUF HFb
          go_wp2_with fail
          refine wp_region_held_drew (S := (fun wx => True)) (by kernel_rfl) (trivial) (fun hHeld => ?_)
          refine wpAnyH_take (i := 0) (oi := _) (v := .pointer (some ⟨qb, 1, none⟩)) rfl (by kernel_rfl) (by kernel_rfl) (by kernel_rfl) (fun _ _ _ h => h) (Or.inl ⟨by rfl, (by intro wz hSw; go_simp)⟩) (by assumption) ?_
          go_simp
          refine wpAnyH_take (i := 2) (oi := _) (v := .slice ua l.length uc) rfl (by kernel_rfl) (by kernel_rfl) (by kernel_rfl) (fun _ _ _ h => h) (Or.inl ⟨by rfl, (by intro wz hSw; go_simp)⟩) (by assumption) ?_
          go_simp
          refine wpAnyH_ready (rs := [1, 3]) (by kernel_rfl) (by simp) ?_
          refine AllReadyH.cons (o := _) rfl (fun K hK => ?_) (AllReadyH.cons (o := _) rfl (fun K hK => ?_) AllReadyH.nil)
          · go_simp
            refine hK.out _ _ (trivial) (fun hHeld1x => ?_)
            clear hK K
            go_simp
            refine wpAnyH_ready (rs := [3]) (by kernel_rfl) (by simp) ?_
            refine AllReadyH.cons (o := _) rfl (fun K hK => ?_) AllReadyH.nil
            go_simp
            refine (unhide HMX).mono ?_
            rintro e Wm ⟨rfl, eWm⟩
            subst eWm
            refine hK.out _ _ (trivial) (fun hHeld3x => ?_)
            clear hK K
            go_simp
            refine wpAnyH_ready (rs := [4]) (by kernel_rfl) (by simp) ?_
            refine AllReadyH.cons (o := _) rfl (fun K hK => ?_) AllReadyH.nil
            go_simp
            refine hK.out _ _ (trivial) (fun hHeld4x => ?_)
            clear hK K
            go_simp
            refine wpAnyH_ready (rs := [5]) (by kernel_rfl) (by simp) ?_
            refine AllReadyH.cons (o := _) rfl (fun K hK => ?_) AllReadyH.nil
            refine step_appM rfl _ _ rfl (.slice ma mn mc) mn (flt enN (L.map mxl)) rfl (unhide HMR) ⟨W7.heap.size, 0, none⟩ 1 m rfl (by exact new_cells W7.drew #[_] 3) (by omega) ?_
            intro v5 w5 hr5 hg5 hat5
            obtain ⟨va5, vc5, ev5, _, _⟩ := hr5.shape
            subst ev5
            obtain ⟨y1, yz, HF8⟩ := (unhide HF7).pushM (l := l) (by rw [unhide hLn, unhide hm]; exact hr5) hg5 (by simpa using hat5)
            have ly := World.block_lt_of_cell? _ _ y1
            clear hr5 hg5 hat5
            refine hK.out _ _ (trivial) (fun hHeld5x => ?_)
            clear hK K
            go_simp
            refine wpAnyH_take (i := 6) (oi := _) (v := .pointer (some ⟨qb, 1, none⟩)) rfl (by kernel_rfl) (by kernel_rfl) (by kernel_rfl) (fun _ _ _ h => h) (Or.inl ⟨by rfl, (by intro wz hSw; go_simp)⟩) (by assumption) ?_
            go_simp
            refine wpAnyH_ready (rs := [7]) (by kernel_rfl) (by simp) ?_
            refine AllReadyH.cons (o := _) rfl (fun K hK => ?_) AllReadyH.nil
            go_simp
            refine hK.out _ _ (trivial) (fun hHeld7x => ?_)
            clear hK K
            refine wpAnyH_done (by kernel_rfl) ?_ _
            clear y1 yz ly
            obtain ⟨W9, eW9⟩ : ∃ W9, W9 = w5.setCell ⟨qb, 1, none⟩ (.slice va5 (mn + 1) vc5) := ⟨_, rfl⟩
            rw [← eW9] at HF8 ⊢
            have HR : Hid (∃ hv mv vs L, FS W5 qb hv mv vs L L W9 ∧ L.length = i + 1 ∧ ∀ (j : Nat) (f : Fc) (l : List Int), p.funcs[j]? = some f → L[j]? = some l → FnR f (some l) 0 0) := by
              refine ⟨_, _, _, L ++ [l], unhide HF8, by rw [List.length_append, unhide HLL]; rfl, fun j f' l' hf' hl' => ?_⟩
              have hln := unhide HLL
              by_cases hj : j < i
              · rw [List.getElem?_append_left (by omega)] at hl'
                exact unhide HFN j f' l' hf' hl'
              · rw [List.getElem?_append_right (by omega)] at hl'
                have e1 : j - L.length = 0 := by
                  have := (List.getElem?_eq_some_iff.1 hl').1
                  simp at this; omega
                rw [e1] at hl'
                simp at hl'
                subst hl'
                have e2 : j = i := by omega
                subst e2
                rw [unhide HI] at hf'
                cases hf'
                exact unhide HRR
            clear eW9
            go_wp2_with fail
            go_roundg (gk - 1)
            case measure => have := unhide hi; omega
            case rel => exact ⟨i + 1, by have := unhide hi; unfold Hid; omega, by go_num, HR⟩
          · go_simp
            refine (unhide HMX).mono ?_
            rintro e Wm ⟨rfl, eWm⟩
            subst eWm
            refine hK.out _ _ (trivial) (fun hHeld3x => ?_)
            clear hK K
            go_simp
            refine wpAnyH_ready (rs := [1, 4]) (by kernel_rfl) (by simp) ?_
            refine AllReadyH.cons (o := _) rfl (fun K hK => ?_) (AllReadyH.cons (o := _) rfl (fun K hK => ?_) AllReadyH.nil)
            · go_simp
              refine hK.out _ _ (trivial) (fun hHeld1x => ?_)
              clear hK K
              go_simp
              refine wpAnyH_ready (rs := [4]) (by kernel_rfl) (by simp) ?_
              refine AllReadyH.cons (o := _) rfl (fun K hK => ?_) AllReadyH.nil
              go_simp
              refine hK.out _ _ (trivial) (fun hHeld4x => ?_)
              clear hK K
              go_simp
              refine wpAnyH_ready (rs := [5]) (by kernel_rfl) (by simp) ?_
              refine AllReadyH.cons (o := _) rfl (fun K hK => ?_) AllReadyH.nil
              refine step_appM rfl _ _ rfl (.slice ma mn mc) mn (flt enN (L.map mxl)) rfl (unhide HMR) ⟨W7.heap.size, 0, none⟩ 1 m rfl (by exact new_cells W7.drew #[_] 3) (by omega) ?_
              intro v5 w5 hr5 hg5 hat5
              obtain ⟨va5, vc5, ev5, _, _⟩ := hr5.shape
              subst ev5
              obtain ⟨y1, yz, HF8⟩ := (unhide HF7).pushM (l := l) (by rw [unhide hLn, unhide hm]; exact hr5) hg5 (by simpa using hat5)
              have ly := World.block_lt_of_cell? _ _ y1
              clear hr5 hg5 hat5
              refine hK.out _ _ (trivial) (fun hHeld5x => ?_)
              clear hK K
              go_simp
              refine wpAnyH_take (i := 6) (oi := _) (v := .pointer (some ⟨qb, 1, none⟩)) rfl (by kernel_rfl) (by kernel_rfl) (by kernel_rfl) (fun _ _ _ h => h) (Or.inl ⟨by rfl, (by intro wz hSw; go_simp)⟩) (by assumption) ?_
              go_simp
              refine wpAnyH_ready (rs := [7]) (by kernel_rfl) (by simp) ?_
              refine AllReadyH.cons (o := _) rfl (fun K hK => ?_) AllReadyH.nil
              go_simp
              refine hK.out _ _ (trivial) (fun hHeld7x => ?_)
              clear hK K
              refine wpAnyH_done (by kernel_rfl) ?_ _
              clear y1 yz ly
              obtain ⟨W9, eW9⟩ : ∃ W9, W9 = w5.setCell ⟨qb, 1, none⟩ (.slice va5 (mn + 1) vc5) := ⟨_, rfl⟩
              rw [← eW9] at HF8 ⊢
              have HR : Hid (∃ hv mv vs L, FS W5 qb hv mv vs L L W9 ∧ L.length = i + 1 ∧ ∀ (j : Nat) (f : Fc) (l : List Int), p.funcs[j]? = some f → L[j]? = some l → FnR f (some l) 0 0) := by
                refine ⟨_, _, _, L ++ [l], unhide HF8, by rw [List.length_append, unhide HLL]; rfl, fun j f' l' hf' hl' => ?_⟩
                have hln := unhide HLL
                by_cases hj : j < i
                · rw [List.getElem?_append_left (by omega)] at hl'
                  exact unhide HFN j f' l' hf' hl'
                · rw [List.getElem?_append_right (by omega)] at hl'
                  have e1 : j - L.length = 0 := by
                    have := (List.getElem?_eq_some_iff.1 hl').1
                    simp at this; omega
                  rw [e1] at hl'
                  simp at hl'
                  subst hl'
                  have e2 : j = i := by omega
                  subst e2
                  rw [unhide HI] at hf'
                  cases hf'
                  exact unhide HRR
              clear eW9
              go_wp2_with fail
              go_roundg (gk - 1)
              case measure => have := unhide hi; omega
              case rel => exact ⟨i + 1, by have := unhide hi; unfold Hid; omega, by go_num, HR⟩
            · go_simp
              refine hK.out _ _ (trivial) (fun hHeld4x => ?_)
              clear hK K
              go_simp
              refine wpAnyH_ready (rs := [1]) (by kernel_rfl) (by simp) ?_
              refine AllReadyH.cons (o := _) rfl (fun K hK => ?_) AllReadyH.nil
              go_simp
              refine hK.out _ _ (trivial) (fun hHeld1x => ?_)
              clear hK K
              go_simp
              refine wpAnyH_ready (rs := [5]) (by kernel_rfl) (by simp) ?_
              refine AllReadyH.cons (o := _) rfl (fun K hK => ?_) AllReadyH.nil
              refine step_appM rfl _ _ rfl (.slice ma mn mc) mn (flt enN (L.map mxl)) rfl (unhide HMR) ⟨W7.heap.size, 0, none⟩ 1 m rfl (by exact new_cells W7.drew #[_] 3) (by omega) ?_
              intro v5 w5 hr5 hg5 hat5
              obtain ⟨va5, vc5, ev5, _, _⟩ := hr5.shape
              subst ev5
              obtain ⟨y1, yz, HF8⟩ := (unhide HF7).pushM (l := l) (by rw [unhide hLn, unhide hm]; exact hr5) hg5 (by simpa using hat5)
              have ly := World.block_lt_of_cell? _ _ y1
              clear hr5 hg5 hat5
              refine hK.out _ _ (trivial) (fun hHeld5x => ?_)
              clear hK K
              go_simp
              refine wpAnyH_take (i := 6) (oi := _) (v := .pointer (some ⟨qb, 1, none⟩)) rfl (by kernel_rfl) (by kernel_rfl) (by kernel_rfl) (fun _ _ _ h => h) (Or.inl ⟨by rfl, (by intro wz hSw; go_simp)⟩) (by assumption) ?_
              go_simp
              refine wpAnyH_ready (rs := [7]) (by kernel_rfl) (by simp) ?_
              refine AllReadyH.cons (o := _) rfl (fun K hK => ?_) AllReadyH.nil
              go_simp
              refine hK.out _ _ (trivial) (fun hHeld7x => ?_)
              clear hK K
              refine wpAnyH_done (by kernel_rfl) ?_ _
              clear y1 yz ly
              obtain ⟨W9, eW9⟩ : ∃ W9, W9 = w5.setCell ⟨qb, 1, none⟩ (.slice va5 (mn + 1) vc5) := ⟨_, rfl⟩
              rw [← eW9] at HF8 ⊢
              have HR : Hid (∃ hv mv vs L, FS W5 qb hv mv vs L L W9 ∧ L.length = i + 1 ∧ ∀ (j : Nat) (f : Fc) (l : List Int), p.funcs[j]? = some f → L[j]? = some l → FnR f (some l) 0 0) := by
                refine ⟨_, _, _, L ++ [l], unhide HF8, by rw [List.length_append, unhide HLL]; rfl, fun j f' l' hf' hl' => ?_⟩
                have hln := unhide HLL
                by_cases hj : j < i
                · rw [List.getElem?_append_left (by omega)] at hl'
                  exact unhide HFN j f' l' hf' hl'
                · rw [List.getElem?_append_right (by omega)] at hl'
                  have e1 : j - L.length = 0 := by
                    have := (List.getElem?_eq_some_iff.1 hl').1
                    simp at this; omega
                  rw [e1] at hl'
                  simp at hl'
                  subst hl'
                  have e2 : j = i := by omega
                  subst e2
                  rw [unhide HI] at hf'
                  cases hf'
                  exact unhide HRR
              clear eW9
              go_wp2_with fail
              go_roundg (gk - 1)
              case measure => have := unhide hi; omega
              case rel => exact ⟨i + 1, by have := unhide hi; unfold Hid; omega, by go_num, HR⟩
      · have hiN : i = NF := by have := unhide hi; omega
        subst hiN
        have hi1 : ¬ (i : Int) < (i : Int) := by omega
        have HV : Hid (VpR p (some L) 0 0 0) := .inr (.inr ⟨unhide HCK, rfl, rfl, rfl, L, rfl, by rw [unhide HLL, unhide hNF], unhide HFN⟩)
        have p2 := (unhide Q2).keep (fun g hg => hB5w.block g ((unhide Q2).lt g hg))
        have p3 := (unhide Q3).keep (fun g hg => hB5w.block g ((unhide Q3).lt g hg))
        obtain ⟨m0, m1⟩ := B2.cells p2
        obtain ⟨n0, n1⟩ := B2.cells p3
        have z20 := p2.free rfl 0
        have z21 := p2.free rfl 1
        have z30 := p3.free rfl 0
        have z31 := p3.free rfl 1
        have l2 := World.block_lt_of_cell? _ _ m0
        have l3 := World.block_lt_of_cell? _ _ n0
        have b1 := (B2.cells ((unhide Q1).keep (fun g hg => hB5w.block g ((unhide Q1).lt g hg)))).2
        have lb1 := World.block_lt_of_cell? _ _ b1
        have c0 := (unhide HF1).c0
        have c1 := (unhide HF1).c1
        have lq := (unhide HF1).lt
        obtain ⟨E2, E3, BE, FE⟩ := two_put0 p2 p3 (by omega) (unhide HBW) (by omega) (by omega) hv mv (.int .i64 0) (.int .i64 0)
        have HE2 := hide E2
        have HE3 := hide E3
        have HBE := hide BE
        have hno : ∀ k, W5.heap.size ≤ k → ¬ (k = w.heap.size + 1 ∨ k = w.heap.size + 1 + 1) := fun k hk e => by omega
        have hB5s := (unhide HB5).size
        have HFC : Hid (FcR w.heap.size ((wr.setCells (w.heap.size + 1) 0 [hv, mv]).setCells (w.heap.size + 1 + 1) 0 [.int .i64 0, .int .i64 0]) hv mv L) := ⟨vs, (unhide HF1).hr.fr FE (fun k hk => hno k ((unhide HF1).ho k hk).1), fun j l u h1 h2 => ⟨((unhide HF1).el j l u h1 h2).1.fr FE (fun k hk => hno k (((unhide HF1).el j l u h1 h2).2 k hk).1), fun k hk => Nat.le_trans hB5s (((unhide HF1).el j l u h1 h2).2 k hk).1⟩, (unhide HF1).mr.fr FE (fun k hk => hno k ((unhide HF1).mo k hk).1), fun k hk => Nat.le_trans hB5s ((unhide HF1).ho k hk).1, fun k hk => Nat.le_trans hB5s ((unhide HF1).mo k hk).1⟩
        obtain ⟨ha, hcap, eh, _, _⟩ := (unhide HF1).hr.shape
        obtain ⟨ma, mc, em, _, _⟩ := (unhide HF1).mr.shape
        subst eh em
        clear p2 p3 E2 E3 BE FE hno hB5w
        go_wp2_with fail
        (try simp only [Exit.inBlock, Exit.then])
        refine bodyPost_ret (results_mix rfl _ _ _ rfl rfl (load30 (unhide HE2)) (load32 (unhide HE3))) rfl ?_
        exact ⟨_, some L, _, _, _, rfl, unhide HV, unhide HBE, (fun e => by cases e), fun Ls e => by cases e; exact ⟨_, _, rfl, unhide HFC⟩⟩
end Go.Proofs.YtbkfnmkfbdoadaaGreatDoor
