/-
  VerifyApart holds.
-/
import Derived.Test.YtbphddocgdihjaaDoorVApt0
namespace Go.Proofs.YtbphddocgdihjaaDoor
open Go.RowKit
set_option linter.unusedVariables false
set_option linter.unusedSimpArgs false
/-- Facts that can be read. -/
def FcV (w : World) (hv mv : Value) (Ls : List (List Int)) : Prop :=
  ∃ vs, Rx w 1 hv Ls.length vs ∧ (∀ (j : Nat) (l : List Int) (u : Value), Ls[j]? = some l → vs[j]? = some u → Rn w u l) ∧ Rx w 1 mv Ls.length (flt enN (Ls.map mxl))
theorem FcR.v {B : Nat} {w : World} {hv mv : Value} {Ls : List (List Int)} (h : FcR B w hv mv Ls) : FcV w hv mv Ls := by
  obtain ⟨vs, R1, R2, R3, _, _⟩ := h
  exact ⟨vs, Rx.of_ro R1, fun j l u h1 h2 => Rx.of_ro (R2 j l u h1 h2).1, by simpa using Rx.of_ro R3⟩
theorem FcV.below {w w' : World} {hv mv : Value} {Ls : List (List Int)} {B : Nat} (h : FcV w hv mv Ls) (f : Below B w w') (hB : w.heap.size ≤ B) : FcV w' hv mv Ls := by
  obtain ⟨vs, R1, R2, R3⟩ := h
  exact ⟨vs, R1.below f hB, fun j l u h1 h2 => (R2 j l u h1 h2).below f hB, R3.below f hB⟩
/-- What lies at a place of them. -/
theorem FcV.at {w : World} {hv mv : Value} {Ls : List (List Int)} (h : FcV w hv mv Ls) {i : Nat} {l : List Int} (hl : Ls[i]? = some l) :
    ∃ hb ho hc mb mo mc ua uc, hv = .slice (some ⟨hb, ho, none⟩) Ls.length hc ∧ mv = .slice (some ⟨mb, mo, none⟩) Ls.length mc ∧ w.cell? ⟨hb, ho + i, none⟩ = some (.slice ua l.length uc) ∧ w.cell? ⟨mb, mo + i, none⟩ = some (.int .i64 (mxl l)) ∧ Rn w (.slice ua l.length uc) l := by
  obtain ⟨vs, ⟨hvl, a1, c1, e1, _, _, k1⟩, R2, ⟨_, a2, c2, e2, _, _, k2⟩⟩ := h
  have hi := (List.getElem?_eq_some_iff.1 hl).1
  obtain ⟨b1, o1, rfl, _, q1⟩ := k1 (by omega)
  obtain ⟨b2, o2, rfl, _, q2⟩ := k2 (by omega)
  obtain ⟨u, hu⟩ : ∃ u, vs[i]? = some u := ⟨_, List.getElem?_eq_getElem (by omega)⟩
  have hr := R2 i l u hl hu
  obtain ⟨ua, uc, rfl, _, _⟩ := hr.shape
  refine ⟨b1, o1, c1, b2, o2, c2, ua, uc, e1, e2, (q1 i (by omega)).trans hu, (q2 i (by omega)).trans ?_, hr⟩
  rw [flt_map, List.getElem?_map, List.getElem?_map, hl]
  rfl
theorem FcV.shape {w : World} {hv mv : Value} {Ls : List (List Int)} (h : FcV w hv mv Ls) : ∃ a c b d, hv = .slice a Ls.length c ∧ mv = .slice b Ls.length d ∧ Ls.length ≤ maxLen := by
  obtain ⟨vs, ⟨_, a1, c1, e1, l1, m1, _⟩, _, ⟨_, a2, c2, e2, _, _, _⟩⟩ := h
  exact ⟨a1, c1, a2, c2, e1, e2, by omega⟩
set_option maxRecDepth 100000 in
set_option maxHeartbeats 6400000 in
theorem others_any {w : World} {hv mv hv2 mv2 : Value} {Ls Ls2 : List (List Int)} {k : Nat} (h : FcV w hv mv Ls) (h2 : FcV w hv2 mv2 Ls2) (hl : Ls2.length = Ls.length) (heq : ∀ (i : Nat) (l : List Int), i ≠ k → Ls[i]? = some l → Ls2[i]? = some l) :
    Calls Tryd.prog 13 #[.agg #[hv, mv], .agg #[hv2, mv2], .int .i64 (k : Int)] w fun e w' => e = .returned (.bool true) ∧ Below w.heap.size w w' := by
  have HF := hide h
  have HF2 := hide h2
  have HEQ := hide heq
  have HLN := hide hl
  obtain ⟨ha, hc, ma, mc, rfl, rfl, hm⟩ := h.shape
  obtain ⟨ha2, hc2, ma2, mc2, rfl, rfl, _⟩ := h2.shape
  obtain ⟨NF, hNF⟩ : ∃ n, Hid (Ls.length = n) := ⟨_, rfl⟩
  unfold maxLen at hm
  rw [unhide HLN] at HF2 ⊢
  rw [unhide hNF] at HF HF2 hm ⊢
  obtain ⟨W1, eW1⟩ : ∃ W1, W1 = (w.alloc (.cells #[.slice ha NF hc, .slice ma NF mc] 30)).alloc (.cells #[.slice ha2 NF hc2, .slice ma2 NF mc2] 30) := ⟨_, rfl⟩
  have b1 : Below w.heap.size w W1 := by rw [eW1]; exact ((Below.refl _ _).alloc (Nat.le_refl _) _).alloc (by simp) _
  have r1 : Ro W1 2 (.slice (some ⟨w.heap.size, 0, none⟩) 1 1) 1 [.slice ha NF hc, .slice ma NF mc] := by
    rw [eW1]; exact (B2.new w _ _ _).fr (S := fun _ => False) ((Fr.refl _ _).alloc _) (fun _ _ e => e)
  have r2 : Ro W1 2 (.slice (some ⟨w.heap.size + 1, 0, none⟩) 1 1) 1 [.slice ha2 NF hc2, .slice ma2 NF mc2] := by
    rw [eW1]; exact B2.new' _ _ _ _ (by simp)
  have HB1 := hide b1
  have HR1 := hide r1
  have HR2 := hide r2
  clear b1 r1 r2 h h2 hl heq
  go_enter Tryd.func13, Tryd.ntmps13
  go_wp2_with fail
  rw [← eW1]
  clear eW1
  go_loopg [7] NF (fun gg t7 wi => ∃ (i : Nat), Hid (i + gg = NF) ∧ t7 = .int .i64 (i : Int) ∧ Hid (Below W1.heap.size W1 wi))
  case atStart => exact ⟨0, by unfold Hid; omega, rfl, Below.refl _ _⟩
  case round =>
    obtain ⟨i, hi, rfl, hB⟩ := hrel
    have i0 : (0 : Int) ≤ (i : Int) := by omega
    have a0 := (unhide hB).cell (p := ⟨w.heap.size, 0, none⟩) ((unhide HR1).lt _ rfl) |>.trans (B2.cells (unhide HR1)).1
    have a1 := (unhide hB).cell (p := ⟨w.heap.size, 1, none⟩) ((unhide HR1).lt _ rfl) |>.trans (B2.cells (unhide HR1)).2
    have c0 := (unhide hB).cell (p := ⟨w.heap.size + 1, 0, none⟩) ((unhide HR2).lt _ rfl) |>.trans (B2.cells (unhide HR2)).1
    have c1 := (unhide hB).cell (p := ⟨w.heap.size + 1, 1, none⟩) ((unhide HR2).lt _ rfl) |>.trans (B2.cells (unhide HR2)).2
    have la := World.block_lt_of_cell? _ _ a0
    have lc := World.block_lt_of_cell? _ _ c0
    have HBw : Hid (Below w.heap.size w wr) := (unhide HB1).trans ((unhide hB).mono (unhide HB1).size)
    by_cases hlt : i < NF
    · have i1 : (i : Int) < (NF : Int) := by omega
      by_cases hik : i = k
      · subst hik
        go_wp2_with fail
        refine wp_region_held_drew (S := (fun wx => Below wr.heap.size wr wx)) (by kernel_rfl) (Go.Proofs.YtbphddocgdihjaaDoor.Below.drewN (Below.refl _ wr) 1) (fun hHeld => ?_)
        refine wpAnyH_take (i := 0) (oi := _) (v := .int .i64 (i : Int)) rfl (by kernel_rfl) (by kernel_rfl) (by kernel_rfl) (fun _ _ _ h => h) (Or.inl ⟨by rfl, (by intro wz hSw; go_simp)⟩) (by assumption) ?_
        go_simp
        refine wpAnyH_take (i := 1) (oi := _) (v := .int .i64 (i : Int)) rfl (by kernel_rfl) (by kernel_rfl) (by kernel_rfl) (fun _ _ _ h => h) (Or.inl ⟨by rfl, (by intro wz hSw; go_simp)⟩) (by assumption) ?_
        go_simp
        refine wpAnyH_take (i := 2) (oi := _) (v := .bool false) rfl (by kernel_rfl) (by kernel_rfl) (by kernel_rfl) (fun _ _ _ h => h) (Or.inl ⟨by rfl, (by intro wz hSw; go_simp)⟩) (by assumption) ?_
        go_simp
        refine wpAnyH_take (i := 3) (oi := _) (v := .bool false) rfl (by kernel_rfl) (by kernel_rfl) (by kernel_rfl) (fun _ _ _ h => h) (Or.inl ⟨by rfl, (by intro wz hSw; go_simp)⟩) (by assumption) ?_
        go_simp
        refine wpAnyH_take (i := 4) (oi := _) (v := undef) rfl (by kernel_rfl) (by kernel_rfl) (by kernel_rfl) (fun _ _ _ h => h) (Or.inr ⟨by rfl, rfl⟩) (by assumption) ?_
        go_simp
        refine wpAnyH_take (i := 5) (oi := _) (v := undef) rfl (by kernel_rfl) (by kernel_rfl) (by kernel_rfl) (fun _ _ _ h => h) (Or.inr ⟨by rfl, rfl⟩) (by assumption) ?_
        go_simp
        refine wpAnyH_take (i := 6) (oi := _) (v := undef) rfl (by kernel_rfl) (by kernel_rfl) (by kernel_rfl) (fun _ _ _ h => h) (Or.inr ⟨by rfl, rfl⟩) (by assumption) ?_
        go_simp
        refine wpAnyH_take (i := 7) (oi := _) (v := undef) rfl (by kernel_rfl) (by kernel_rfl) (by kernel_rfl) (fun _ _ _ h => h) (Or.inr ⟨by rfl, rfl⟩) (by assumption) ?_
        go_simp
        refine wpAnyH_take (i := 8) (oi := _) (v := undef) rfl (by kernel_rfl) (by kernel_rfl) (by kernel_rfl) (fun _ _ _ h => h) (Or.inr ⟨by rfl, rfl⟩) (by assumption) ?_
        go_simp
        refine wpAnyH_take (i := 9) (oi := _) (v := undef) rfl (by kernel_rfl) (by kernel_rfl) (by kernel_rfl) (fun _ _ _ h => h) (Or.inr ⟨by rfl, rfl⟩) (by assumption) ?_
        go_simp
        refine wpAnyH_take (i := 10) (oi := _) (v := undef) rfl (by kernel_rfl) (by kernel_rfl) (by kernel_rfl) (fun _ _ _ h => h) (Or.inr ⟨by rfl, rfl⟩) (by assumption) ?_
        go_simp
        refine wpAnyH_take (i := 11) (oi := _) (v := undef) rfl (by kernel_rfl) (by kernel_rfl) (by kernel_rfl) (fun _ _ _ h => h) (Or.inr ⟨by rfl, rfl⟩) (by assumption) ?_
        go_simp
        refine wpAnyH_take (i := 12) (oi := _) (v := undef) rfl (by kernel_rfl) (by kernel_rfl) (by kernel_rfl) (fun _ _ _ h => h) (Or.inr ⟨by rfl, rfl⟩) (by assumption) ?_
        go_simp
        refine wpAnyH_take (i := 13) (oi := _) (v := undef) rfl (by kernel_rfl) (by kernel_rfl) (by kernel_rfl) (fun _ _ _ h => h) (Or.inr ⟨by rfl, rfl⟩) (by assumption) ?_
        go_simp
        refine wpAnyH_take (i := 14) (oi := _) (v := undef) rfl (by kernel_rfl) (by kernel_rfl) (by kernel_rfl) (fun _ _ _ h => h) (Or.inr ⟨by rfl, rfl⟩) (by assumption) ?_
        go_simp
        refine wpAnyH_take (i := 15) (oi := _) (v := undef) rfl (by kernel_rfl) (by kernel_rfl) (by kernel_rfl) (fun _ _ _ h => h) (Or.inr ⟨by rfl, rfl⟩) (by assumption) ?_
        go_simp
        refine wpAnyH_take (i := 16) (oi := _) (v := undef) rfl (by kernel_rfl) (by kernel_rfl) (by kernel_rfl) (fun _ _ _ h => h) (Or.inr ⟨by rfl, rfl⟩) (by assumption) ?_
        go_simp
        refine wpAnyH_take (i := 17) (oi := _) (v := undef) rfl (by kernel_rfl) (by kernel_rfl) (by kernel_rfl) (fun _ _ _ h => h) (Or.inr ⟨by rfl, rfl⟩) (by assumption) ?_
        go_simp
        refine wpAnyH_take (i := 18) (oi := _) (v := undef) rfl (by kernel_rfl) (by kernel_rfl) (by kernel_rfl) (fun _ _ _ h => h) (Or.inr ⟨by rfl, rfl⟩) (by assumption) ?_
        go_simp
        refine wpAnyH_take (i := 19) (oi := _) (v := undef) rfl (by kernel_rfl) (by kernel_rfl) (by kernel_rfl) (fun _ _ _ h => h) (Or.inr ⟨by rfl, rfl⟩) (by assumption) ?_
        go_simp
        refine wpAnyH_take (i := 20) (oi := _) (v := undef) rfl (by kernel_rfl) (by kernel_rfl) (by kernel_rfl) (fun _ _ _ h => h) (Or.inr ⟨by rfl, rfl⟩) (by assumption) ?_
        go_simp
        refine wpAnyH_take (i := 21) (oi := _) (v := undef) rfl (by kernel_rfl) (by kernel_rfl) (by kernel_rfl) (fun _ _ _ h => h) (Or.inr ⟨by rfl, rfl⟩) (by assumption) ?_
        go_simp
        refine wpAnyH_take (i := 22) (oi := _) (v := undef) rfl (by kernel_rfl) (by kernel_rfl) (by kernel_rfl) (fun _ _ _ h => h) (Or.inr ⟨by rfl, rfl⟩) (by assumption) ?_
        go_simp
        refine wpAnyH_take (i := 23) (oi := _) (v := undef) rfl (by kernel_rfl) (by kernel_rfl) (by kernel_rfl) (fun _ _ _ h => h) (Or.inr ⟨by rfl, rfl⟩) (by assumption) ?_
        go_simp
        refine wpAnyH_take (i := 24) (oi := _) (v := undef) rfl (by kernel_rfl) (by kernel_rfl) (by kernel_rfl) (fun _ _ _ h => h) (Or.inr ⟨by rfl, rfl⟩) (by assumption) ?_
        go_simp
        refine wpAnyH_take (i := 25) (oi := _) (v := undef) rfl (by kernel_rfl) (by kernel_rfl) (by kernel_rfl) (fun _ _ _ h => h) (Or.inr ⟨by rfl, rfl⟩) (by assumption) ?_
        go_simp
        refine wpAnyH_take (i := 26) (oi := _) (v := undef) rfl (by kernel_rfl) (by kernel_rfl) (by kernel_rfl) (fun _ _ _ h => h) (Or.inr ⟨by rfl, rfl⟩) (by assumption) ?_
        go_simp
        refine wpAnyH_take (i := 27) (oi := _) (v := undef) rfl (by kernel_rfl) (by kernel_rfl) (by kernel_rfl) (fun _ _ _ h => h) (Or.inr ⟨by rfl, rfl⟩) (by assumption) ?_
        go_simp
        refine wpAnyH_take (i := 28) (oi := _) (v := undef) rfl (by kernel_rfl) (by kernel_rfl) (by kernel_rfl) (fun _ _ _ h => h) (Or.inr ⟨by rfl, rfl⟩) (by assumption) ?_
        go_simp
        refine wpAnyH_take (i := 29) (oi := _) (v := .bool false) rfl (by kernel_rfl) (by kernel_rfl) (by kernel_rfl) (fun _ _ _ h => h) (Or.inl ⟨by rfl, (by intro wz hSw; go_simp)⟩) (by assumption) ?_
        go_simp
        refine wpAnyH_done (by kernel_rfl) ?_ _
        have HBd : Hid (Below W1.heap.size W1 wr.drew) := Go.Proofs.YtbphddocgdihjaaDoor.Below.drewN (unhide hB) 1
        go_wp2_with fail
        go_roundg (gk - 1)
        case measure => have := unhide hi; omega
        case rel => exact ⟨i + 1, by have := unhide hi; unfold Hid; omega, by go_num, HBd⟩
      · obtain ⟨l, hl⟩ : ∃ l, Ls[i]? = some l := ⟨_, List.getElem?_eq_getElem (by rw [unhide hNF]; exact hlt)⟩
        have hl2 := unhide HEQ i l hik hl
        obtain ⟨hb, ho, _, mb, mo, _, ua, uc, e1, e2, u0, m0, hrn⟩ := ((unhide HF).below (unhide HBw) (Nat.le_refl _)).at hl
        rw [unhide hNF] at e1 e2
        cases e1
        cases e2
        obtain ⟨hb2, ho2, _, mb2, mo2, _, ua2, uc2, e1, e2, u2, m2, hrn2⟩ := ((unhide HF2).below (unhide HBw) (Nat.le_refl _)).at hl2
        rw [unhide HLN, unhide hNF] at e1 e2
        cases e1
        cases e2
        have lu := World.block_lt_of_cell? _ _ u0
        have lm := World.block_lt_of_cell? _ _ m0
        have lu2 := World.block_lt_of_cell? _ _ u2
        have lm2 := World.block_lt_of_cell? _ _ m2
        have HSN := hide (sameN_any (w := wr.drew) (hrn.drewN 1) (hrn2.drewN 1))
        obtain ⟨mx, hmx⟩ : ∃ mx, Hid (mxl l = mx) := ⟨_, rfl⟩
        obtain ⟨ln, hln⟩ : ∃ mx, Hid (l.length = mx) := ⟨_, rfl⟩
        rw [unhide hmx] at m0 m2
        rw [unhide hln] at u0 u2 HSN
        have hik2 : ((i : Int) == (k : Int)) = false := by simp; omega
        have hik3 : ¬ (i : Int) = (k : Int) := by omega
        clear hrn hrn2 hl hl2
        go_wp2_with fail
        refine wp_region_held_drew (S := (fun wx => Below wr.heap.size wr wx)) (by kernel_rfl) (Go.Proofs.YtbphddocgdihjaaDoor.Below.drewN (Below.refl _ wr) 1) (fun hHeld => ?_)
        refine wpAnyH_take (i := 0) (oi := _) (v := .int .i64 (i : Int)) rfl (by kernel_rfl) (by kernel_rfl) (by kernel_rfl) (fun _ _ _ h => h) (Or.inl ⟨by rfl, (by intro wz hSw; go_simp)⟩) (by assumption) ?_
        go_simp
        refine wpAnyH_take (i := 1) (oi := _) (v := .int .i64 (k : Int)) rfl (by kernel_rfl) (by kernel_rfl) (by kernel_rfl) (fun _ _ _ h => h) (Or.inl ⟨by rfl, (by intro wz hSw; go_simp)⟩) (by assumption) ?_
        go_simp
        refine wpAnyH_take (i := 2) (oi := _) (v := .bool true) rfl (by kernel_rfl) (by kernel_rfl) (by kernel_rfl) (fun _ _ _ h => h) (Or.inl ⟨by rfl, (by intro wz hSw; go_simp)⟩) (by assumption) ?_
        go_simp
        refine wpAnyH_take (i := 3) (oi := _) (v := .bool true) rfl (by kernel_rfl) (by kernel_rfl) (by kernel_rfl) (fun _ _ _ h => h) (Or.inl ⟨by rfl, (by intro wz hSw; go_simp)⟩) (by assumption) ?_
        go_simp
        refine wpAnyH_take (i := 4) (oi := _) (v := .pointer (some ⟨w.heap.size, 1, none⟩)) rfl (by kernel_rfl) (by kernel_rfl) (by kernel_rfl) (fun _ _ _ h => h) (Or.inl ⟨by rfl, (by intro wz hSw; go_simp)⟩) (by assumption) ?_
        go_simp
        refine wpAnyH_take (i := 5) (oi := _) (v := .slice (some ⟨mb, mo, none⟩) NF mc) rfl (by kernel_rfl) (by kernel_rfl) (by kernel_rfl) (fun _ _ _ h => h) (Or.inl ⟨by rfl, (by intro wz hSw; have s0 := (hSw.cell (p := ⟨w.heap.size, 1, none⟩) la).trans a1; have t0 := Nat.lt_of_lt_of_le la hSw.size; go_simp)⟩) (by assumption) ?_
        go_simp
        refine wpAnyH_take (i := 6) (oi := _) (v := .int .i64 (i : Int)) rfl (by kernel_rfl) (by kernel_rfl) (by kernel_rfl) (fun _ _ _ h => h) (Or.inl ⟨by rfl, (by intro wz hSw; go_simp)⟩) (by assumption) ?_
        go_simp
        refine wpAnyH_take (i := 7) (oi := _) (v := .pointer (some ⟨mb, mo + i, none⟩)) rfl (by kernel_rfl) (by kernel_rfl) (by kernel_rfl) (fun _ _ _ h => h) (Or.inl ⟨by rfl, (by intro wz hSw; go_simp)⟩) (by assumption) ?_
        go_simp
        refine wpAnyH_take (i := 8) (oi := _) (v := .int .i64 mx) rfl (by kernel_rfl) (by kernel_rfl) (by kernel_rfl) (fun _ _ _ h => h) (Or.inl ⟨by rfl, (by intro wz hSw; have s0 := (hSw.cell (p := ⟨mb, mo + i, none⟩) lm).trans m0; have t0 := Nat.lt_of_lt_of_le lm hSw.size; go_simp)⟩) (by assumption) ?_
        go_simp
        refine wpAnyH_take (i := 9) (oi := _) (v := .pointer (some ⟨w.heap.size + 1, 1, none⟩)) rfl (by kernel_rfl) (by kernel_rfl) (by kernel_rfl) (fun _ _ _ h => h) (Or.inl ⟨by rfl, (by intro wz hSw; go_simp)⟩) (by assumption) ?_
        go_simp
        refine wpAnyH_take (i := 10) (oi := _) (v := .slice (some ⟨mb2, mo2, none⟩) NF mc2) rfl (by kernel_rfl) (by kernel_rfl) (by kernel_rfl) (fun _ _ _ h => h) (Or.inl ⟨by rfl, (by intro wz hSw; have s0 := (hSw.cell (p := ⟨w.heap.size + 1, 1, none⟩) lc).trans c1; have t0 := Nat.lt_of_lt_of_le lc hSw.size; go_simp)⟩) (by assumption) ?_
        go_simp
        refine wpAnyH_take (i := 11) (oi := _) (v := .int .i64 (i : Int)) rfl (by kernel_rfl) (by kernel_rfl) (by kernel_rfl) (fun _ _ _ h => h) (Or.inl ⟨by rfl, (by intro wz hSw; go_simp)⟩) (by assumption) ?_
        go_simp
        refine wpAnyH_take (i := 12) (oi := _) (v := .pointer (some ⟨mb2, mo2 + i, none⟩)) rfl (by kernel_rfl) (by kernel_rfl) (by kernel_rfl) (fun _ _ _ h => h) (Or.inl ⟨by rfl, (by intro wz hSw; go_simp)⟩) (by assumption) ?_
        go_simp
        refine wpAnyH_take (i := 13) (oi := _) (v := .int .i64 mx) rfl (by kernel_rfl) (by kernel_rfl) (by kernel_rfl) (fun _ _ _ h => h) (Or.inl ⟨by rfl, (by intro wz hSw; have s0 := (hSw.cell (p := ⟨mb2, mo2 + i, none⟩) lm2).trans m2; have t0 := Nat.lt_of_lt_of_le lm2 hSw.size; go_simp)⟩) (by assumption) ?_
        go_simp
        refine wpAnyH_take (i := 14) (oi := _) (v := .bool false) rfl (by kernel_rfl) (by kernel_rfl) (by kernel_rfl) (fun _ _ _ h => h) (Or.inl ⟨by rfl, (by intro wz hSw; go_simp)⟩) (by assumption) ?_
        go_simp
        refine wpAnyH_take (i := 15) (oi := _) (v := .bool false) rfl (by kernel_rfl) (by kernel_rfl) (by kernel_rfl) (fun _ _ _ h => h) (Or.inl ⟨by rfl, (by intro wz hSw; go_simp)⟩) (by assumption) ?_
        go_simp
        refine wpAnyH_take (i := 16) (oi := _) (v := .pointer (some ⟨w.heap.size, 0, none⟩)) rfl (by kernel_rfl) (by kernel_rfl) (by kernel_rfl) (fun _ _ _ h => h) (Or.inl ⟨by rfl, (by intro wz hSw; go_simp)⟩) (by assumption) ?_
        go_simp
        refine wpAnyH_take (i := 17) (oi := _) (v := .slice (some ⟨hb, ho, none⟩) NF hc) rfl (by kernel_rfl) (by kernel_rfl) (by kernel_rfl) (fun _ _ _ h => h) (Or.inl ⟨by rfl, (by intro wz hSw; have s0 := (hSw.cell (p := ⟨w.heap.size, 0, none⟩) la).trans a0; have t0 := Nat.lt_of_lt_of_le la hSw.size; go_simp)⟩) (by assumption) ?_
        go_simp
        refine wpAnyH_take (i := 18) (oi := _) (v := .int .i64 (i : Int)) rfl (by kernel_rfl) (by kernel_rfl) (by kernel_rfl) (fun _ _ _ h => h) (Or.inl ⟨by rfl, (by intro wz hSw; go_simp)⟩) (by assumption) ?_
        go_simp
        refine wpAnyH_take (i := 19) (oi := _) (v := .pointer (some ⟨hb, ho + i, none⟩)) rfl (by kernel_rfl) (by kernel_rfl) (by kernel_rfl) (fun _ _ _ h => h) (Or.inl ⟨by rfl, (by intro wz hSw; go_simp)⟩) (by assumption) ?_
        go_simp
        refine wpAnyH_take (i := 20) (oi := _) (v := .slice ua ln uc) rfl (by kernel_rfl) (by kernel_rfl) (by kernel_rfl) (fun _ _ _ h => h) (Or.inl ⟨by rfl, (by intro wz hSw; have s0 := (hSw.cell (p := ⟨hb, ho + i, none⟩) lu).trans u0; have t0 := Nat.lt_of_lt_of_le lu hSw.size; go_simp)⟩) (by assumption) ?_
        go_simp
        refine wpAnyH_take (i := 21) (oi := _) (v := .pointer (some ⟨w.heap.size + 1, 0, none⟩)) rfl (by kernel_rfl) (by kernel_rfl) (by kernel_rfl) (fun _ _ _ h => h) (Or.inl ⟨by rfl, (by intro wz hSw; go_simp)⟩) (by assumption) ?_
        go_simp
        refine wpAnyH_take (i := 22) (oi := _) (v := .slice (some ⟨hb2, ho2, none⟩) NF hc2) rfl (by kernel_rfl) (by kernel_rfl) (by kernel_rfl) (fun _ _ _ h => h) (Or.inl ⟨by rfl, (by intro wz hSw; have s0 := (hSw.cell (p := ⟨w.heap.size + 1, 0, none⟩) lc).trans c0; have t0 := Nat.lt_of_lt_of_le lc hSw.size; go_simp)⟩) (by assumption) ?_
        go_simp
        refine wpAnyH_take (i := 23) (oi := _) (v := .int .i64 (i : Int)) rfl (by kernel_rfl) (by kernel_rfl) (by kernel_rfl) (fun _ _ _ h => h) (Or.inl ⟨by rfl, (by intro wz hSw; go_simp)⟩) (by assumption) ?_
        go_simp
        refine wpAnyH_take (i := 24) (oi := _) (v := .pointer (some ⟨hb2, ho2 + i, none⟩)) rfl (by kernel_rfl) (by kernel_rfl) (by kernel_rfl) (fun _ _ _ h => h) (Or.inl ⟨by rfl, (by intro wz hSw; go_simp)⟩) (by assumption) ?_
        go_simp
        refine wpAnyH_take (i := 25) (oi := _) (v := .slice ua2 ln uc2) rfl (by kernel_rfl) (by kernel_rfl) (by kernel_rfl) (fun _ _ _ h => h) (Or.inl ⟨by rfl, (by intro wz hSw; have s0 := (hSw.cell (p := ⟨hb2, ho2 + i, none⟩) lu2).trans u2; have t0 := Nat.lt_of_lt_of_le lu2 hSw.size; go_simp)⟩) (by assumption) ?_
        go_simp
        refine wpAnyH_ready (rs := [26]) (by kernel_rfl) (by simp) ?_
        refine AllReadyH.cons (o := _) rfl (fun K hK => ?_) AllReadyH.nil
        go_simp
        refine (unhide HSN).mono ?_
        rintro e W9 ⟨rfl, kk, hW9⟩
        have hS9 : Below wr.heap.size wr W9 := by rw [hW9]; exact Go.Proofs.YtbphddocgdihjaaDoor.Below.drewN (Go.Proofs.YtbphddocgdihjaaDoor.Below.drewN (Below.refl _ wr) 1) kk
        clear hW9
        refine hK.out _ _ hS9 (fun hHeld26x => ?_)
        clear hK K
        go_simp
        refine wpAnyH_take (i := 27) (oi := _) (v := .bool false) rfl (by kernel_rfl) (by kernel_rfl) (by kernel_rfl) (fun _ _ _ h => h) (Or.inl ⟨by rfl, (by intro wz hSw; go_simp)⟩) (by assumption) ?_
        go_simp
        refine wpAnyH_take (i := 28) (oi := _) (v := .bool false) rfl (by kernel_rfl) (by kernel_rfl) (by kernel_rfl) (fun _ _ _ h => h) (Or.inl ⟨by rfl, (by intro wz hSw; go_simp)⟩) (by assumption) ?_
        go_simp
        refine wpAnyH_take (i := 29) (oi := _) (v := .bool false) rfl (by kernel_rfl) (by kernel_rfl) (by kernel_rfl) (fun _ _ _ h => h) (Or.inl ⟨by rfl, (by intro wz hSw; go_simp)⟩) (by assumption) ?_
        go_simp
        refine wpAnyH_done (by kernel_rfl) ?_ _
        have HB9 : Hid (Below W1.heap.size W1 W9) := (unhide hB).trans (hS9.mono (unhide hB).size)
        clear hS9 hHeld
        go_wp2_with fail
        go_roundg (gk - 1)
        case measure => have := unhide hi; omega
        case rel => exact ⟨i + 1, by have := unhide hi; unfold Hid; omega, by go_num, HB9⟩
    · have i1 : ¬ (i : Int) < (NF : Int) := by omega
      go_wp2_with fail
      go_ret
      exact ⟨rfl, unhide HBw⟩

set_option linter.unusedVariables false
set_option linter.unusedSimpArgs false
theorem VpR.two {p : Pg} {L : Option (List (List Int))} {k a er : Int} (h : VpR p L k a er) : (er ≠ 0 ∧ L = none) ∨ (ckF p = none ∧ k = 0 ∧ a = 0 ∧ er = 0 ∧ ∃ Ls, L = some Ls ∧ Ls.length = p.funcs.length ∧ ∀ (i : Nat) (f : Fc) (l : List Int), p.funcs[i]? = some f → Ls[i]? = some l → FnR f (some l) 0 0) := by
  rcases h with ⟨y, _, _, h1, h2⟩ | ⟨_, i, f, _, _, h1, h2, _⟩ | h
  · exact .inl ⟨h2, h1⟩
  · exact .inl ⟨h2, h1⟩
  · exact .inr h
theorem FcR.fr {B : Nat} {S : Nat → Prop} {w w' : World} {hv mv : Value} {Ls : List (List Int)} (h : FcR B w hv mv Ls) (f : Fr S w w') (hn : ∀ b, B ≤ b → ¬ S b) : FcR B w' hv mv Ls := by
  obtain ⟨vs, R1, R2, R3, R4, R5⟩ := h
  exact ⟨vs, R1.fr f (fun b hb => hn b (R4 b hb)), fun j l u h1 h2 => ⟨(R2 j l u h1 h2).1.fr f (fun b hb => hn b ((R2 j l u h1 h2).2 b hb)), (R2 j l u h1 h2).2⟩, R3.fr f (fun b hb => hn b (R5 b hb)), R4, R5⟩
set_option maxRecDepth 100000 in
set_option maxHeartbeats 6400000 in
theorem apartLaw {w : World} {pv qv : Value} {p q : Pg} {kk : Int} (hp : PgV w pv p) (hq : PgV w qv q) (hokp : OkP p) (hokq : OkP q) (hbq : ∀ (i : Nat) (f : Fc), q.funcs[i]? = some f → f.code.length ≤ 1048576) (hg : Laid w) :
    Calls Tryd.prog 5 #[pv, qv, .int .i64 kk] w fun e w' => e = .returned (.bool true) ∧ Below w.heap.size w w' := by
  have gl : 0 < w.heap.size := World.block_lt_of_cell? _ _ hg
  have HPV := hide hp
  have HQV := hide hq
  have HBQ := hide hbq
  obtain ⟨cv, fv, rfl, hc, hf⟩ := hp
  obtain ⟨_, ca, ccap, rfl, _, _, _⟩ := hc
  obtain ⟨fa, fcap, rfl, hfl, hfm, hat⟩ := hf.at
  obtain ⟨cv2, fv2, rfl, hc2, hf2⟩ := hq
  obtain ⟨_, ca2, ccap2, rfl, _, _, _⟩ := hc2
  obtain ⟨fa2, fcap2, rfl, hfl2, hfm2, hat2⟩ := hf2.at
  obtain ⟨NC, hNC⟩ : ∃ n, Hid (p.consts.length = n) := ⟨_, rfl⟩
  obtain ⟨NF, hNF⟩ : ∃ n, Hid (p.funcs.length = n) := ⟨_, rfl⟩
  obtain ⟨MC, hMC⟩ : ∃ n, Hid (q.consts.length = n) := ⟨_, rfl⟩
  obtain ⟨MF, hMF⟩ : ∃ n, Hid (q.funcs.length = n) := ⟨_, rfl⟩
  rw [unhide hNF] at hfl
  rw [unhide hMF] at hfl2
  unfold maxLen at hfm hfm2
  rw [unhide hNC, unhide hNF] at HPV
  rw [unhide hMC, unhide hMF] at HQV
  rw [unhide hNC, unhide hNF, unhide hMC, unhide hMF]
  obtain ⟨W1, eW1⟩ : ∃ W1, W1 = (w.alloc (.cells #[.slice ca NC ccap, .slice fa NF fcap] 25)).alloc (.cells #[.slice ca2 MC ccap2, .slice fa2 MF fcap2] 25) := ⟨_, rfl⟩
  have b1 : Below w.heap.size w W1 := by rw [eW1]; exact ((Below.refl _ _).alloc (Nat.le_refl _) _).alloc (by simp) _
  have r1 : Ro W1 2 (.slice (some ⟨w.heap.size, 0, none⟩) 1 1) 1 [.slice ca NC ccap, .slice fa NF fcap] := by
    rw [eW1]; exact (B2.new w _ _ _).fr (S := fun _ => False) ((Fr.refl _ _).alloc _) (fun _ _ e => e)
  have s1 : Ro W1 2 (.slice (some ⟨w.heap.size + 1, 0, none⟩) 1 1) 1 [.slice ca2 MC ccap2, .slice fa2 MF fcap2] := by
    rw [eW1]; exact B2.new' _ _ _ _ (by simp)
  have HW := hide (works_any ((b1.cell (p := ⟨0, 0, none⟩) gl).trans hg))
  have HB1 := hide b1
  have HR1 := hide r1
  have HS1 := hide s1
  have HAT := hide hat
  have HAT2 := hide hat2
  have HOK := hide hokp
  have HOQ := hide hokq
  have HLG := hide hg
  clear b1 r1 s1 hat hf hokp hg hat2 hf2 hokq hbq
  go_enter Tryd.func5, Tryd.ntmps5
  go_wp2_with fail
  rw [← eW1]
  refine (unhide HW).mono ?_
  rintro e W2 ⟨rfl, hb2⟩
  have HB2 : Hid (Below w.heap.size w W2) := (unhide HB1).trans (hb2.mono (unhide HB1).size)
  have HR2 := hide ((unhide HR1).keep (fun g hg => hb2.block g ((unhide HR1).lt g hg)))
  have HS2 := hide ((unhide HS1).keep (fun g hg => hb2.block g ((unhide HS1).lt g hg)))
  obtain ⟨d0, d1⟩ := B2.cells (unhide HR2)
  have ld := World.block_lt_of_cell? _ _ d0
  have HC := hide (program_any ((unhide HPV).below (unhide HB2) (Nat.le_refl _)) (unhide HOK) (((unhide HB2).cell (p := ⟨0, 0, none⟩) gl).trans (unhide HLG)))
  clear hb2 HW eW1
  go_wp2_with fail
  refine (unhide HC).mono ?_
  rintro e W3 ⟨fa', L, k0, a0, er, rfl, hV, hB3, hn, hs⟩
  have HB3 : Hid (Below w.heap.size w W3) := (unhide HB2).trans (hB3.mono (unhide HB2).size)
  have HR3 := hide ((unhide HR2).keep (fun g hg => hB3.block g ((unhide HR2).lt g hg)))
  have HS3 := hide ((unhide HS2).keep (fun g hg => hB3.block g ((unhide HS2).lt g hg)))
  clear d0 d1 ld
  obtain ⟨d0, d1⟩ := B2.cells (unhide HR3)
  have ld := World.block_lt_of_cell? _ _ d0
  rcases hV.two with ⟨her, rfl⟩ | ⟨hck, rfl, rfl, rfl, Ls, rfl, hLl, hFn⟩
  · have hf0 := hn rfl
    subst hf0
    have heb : (er == 0) = false := by simpa using her
    have HE : Hid (∀ o1 o2, Below w.heap.size w ((W3.alloc o1).alloc o2)) := fun o1 o2 => ((unhide HB3).alloc (unhide HB3).size o1).alloc (by have := (unhide HB3).size; simp; omega) o2
    clear hV hB3 hn hs HC
    go_wp2_with fail
    go_ret
    exact ⟨rfl, unhide HE _ _⟩
  · obtain ⟨hv, mv, rfl, hR⟩ := hs _ rfl
    have HFC3 := hide hR.v
    obtain ⟨ha, hcp, ma, mcp, rfl, rfl, _⟩ := hR.v.shape
    rw [hLl, unhide hNF] at HFC3 ⊢
    have HLL := hide hLl
    have HFN := hide hFn
    have HCK := hide hck
    have hNF2 : NF ≤ 128 := by rw [← unhide hNF]; exact (ckF_none.1 hck).2.2.1
    clear hV hB3 hn hs HC hR hLl hFn hck
    obtain ⟨W4, eW4⟩ : ∃ W4, W4 = (W3.alloc (.cells #[.slice ha NF hcp, .slice ma NF mcp] 30)).alloc (.cells #[.int .i64 0, .int .i64 0] 32) := ⟨_, rfl⟩
    have F4 : Below W3.heap.size W3 W4 := by rw [eW4]; exact ((Below.refl _ _).alloc (Nat.le_refl _) _).alloc (by simp) _
    have HB4 : Hid (Below w.heap.size w W4) := (unhide HB3).trans (F4.mono (unhide HB3).size)
    have HR4 := hide ((unhide HR3).keep (fun g hg => F4.block g ((unhide HR3).lt g hg)))
    have HS4 := hide ((unhide HS3).keep (fun g hg => F4.block g ((unhide HS3).lt g hg)))
    have HT4 : Hid (Ro W4 2 (.slice (some ⟨W3.heap.size, 0, none⟩) 1 1) 1 [.slice ha NF hcp, .slice ma NF mcp]) := by
      unfold Hid; rw [eW4]; exact (B2.new W3 _ _ _).fr (S := fun _ => False) ((Fr.refl _ _).alloc _) (fun _ _ e => e)
    have HFC4 := hide ((unhide HFC3).below F4 (Nat.le_refl _))
    clear F4
    by_cases hk0 : kk < 0
    · go_wp2_with fail
      rw [← eW4]
      go_ret
      exact ⟨rfl, unhide HB4⟩
    by_cases hk1 : (NF : Int) ≤ kk
    · go_wp2_with fail
      rw [← eW4]
      go_ret
      exact ⟨rfl, unhide HB4⟩
    obtain ⟨k, rfl⟩ : ∃ k : Nat, kk = (k : Int) := ⟨kk.toNat, by omega⟩
    have hkN : k < NF := by omega
    obtain ⟨f, hf⟩ : ∃ f, p.funcs[k]? = some f := ⟨_, List.getElem?_eq_getElem (by rw [unhide hNF]; exact hkN)⟩
    have HF := hide hf
    have kk0 : (0 : Int) ≤ (k : Int) := by omega
    have kk1 : (k : Int) < (NF : Int) := by omega
    have HBD : Hid (p.funcs.length ≤ 1048576000 ∧ p.consts.length ≤ 1048576000 ∧ ∀ (i : Nat) (f : Fc), p.funcs[i]? = some f → f.code.length ≤ 1048576000 ∧ f.hs.length ≤ 1048576000) := by
      obtain ⟨⟨c1, _⟩, _, c2, c3⟩ := ckF_none.1 (unhide HCK)
      refine ⟨by omega, by omega, fun i g hgi => ?_⟩
      obtain ⟨_, n2, _, n4⟩ := fnF_none.1 (c3 i g hgi)
      have := (szF_none.1 n2).2.2.2.2.2
      have := (hsF_none.1 n4).1
      omega
    have HCP := hide (cpP_any (w := W4) ((unhide HPV).below (unhide HB4) (Nat.le_refl _)) (unhide HBD).1 (unhide HBD).2.1 (unhide HBD).2.2)
    clear hf d0 d1 ld
    obtain ⟨d0, d1⟩ := B2.cells (unhide HR3)
    obtain ⟨e0, e1⟩ := B2.cells (unhide HR4)
    have ld := World.block_lt_of_cell? _ _ d0
    have le := World.block_lt_of_cell? _ _ e0
    go_wp2_with fail
    rw [← eW4]
    refine (unhide HCP).mono ?_
    rintro e W5 ⟨xcv, xfv, xs, rfl, hOP, hB5⟩
    have hxl : xs.length = NF := by rw [← unhide hNF]; exact hOP.pt.xl
    obtain ⟨x, hx⟩ : ∃ x, xs[k]? = some x := ⟨_, List.getElem?_eq_getElem (by omega)⟩
    have HOX := hide (OX.of hOP hx)
    have HXF := hide (hOP.pt.rows k f x (unhide HF) hx)
    obtain ⟨g, off, fc, efv, _, _, _, _⟩ := hOP.fo.full (by omega)
    rw [hxl] at efv
    subst efv
    obtain ⟨xca, xcc, ecv, _, _⟩ := hOP.co.shape
    rw [unhide hNC] at ecv
    subst ecv
    have hkx : k < xs.length := by omega
    obtain ⟨hcl, hfz, lg, gB⟩ := (unhide HOX).cells rfl hkx
    have HB5 : Hid (Below w.heap.size w W5) := (unhide HB4).trans (hB5.mono (unhide HB4).size)
    have HB45 := hide hB5
    have HXL := hide hxl
    obtain ⟨nm, pr, lcl, xcv3, xhv⟩ := x
    have z3 := hcl 3 _ rfl
    have z4 := hcl 4 _ rfl
    have zf3 := hfz (off + k * 5 + 3)
    have zf4 := hfz (off + k * 5 + 4)
    clear hOP hB5 hx hcl hfz hxl hkx d0 d1 ld e0 e1 le
    go_wp2_with fail
    obtain ⟨NS, eNS⟩ : ∃ NS, NS = Value.slice (some ⟨W5.heap.size + 1, 0, none⟩) 2 2 := ⟨_, rfl⟩
    obtain ⟨Wa, eWa⟩ : ∃ Wa, Wa = (W5.setCell ⟨g, off + k * 5 + 3, none⟩ NS).setCell ⟨g, off + k * 5 + 4, none⟩ (.slice none 0 0) := ⟨_, rfl⟩
    obtain ⟨W7, eW7⟩ : ∃ W7, W7 = (Wa.alloc (.cells #[.slice xca NC xcc, .slice (some ⟨g, off, none⟩) NF fc] 25)).alloc (.cells #[.int .i64 1, .int .i64 0, .int .i64 45, .int .i64 0] 48) := ⟨_, rfl⟩
    rw [← eNS, ← eWa, ← eW7]
    have szA : Wa.heap.size = W5.heap.size := by rw [eWa]; simp
    have fA : Fr (fun b => b = g) W5 Wa := by rw [eWa]; exact ((Fr.refl (fun b => b = g) W5).setCell ⟨g, off + k * 5 + 3, none⟩ (.inr rfl) _).setCell ⟨g, off + k * 5 + 4, none⟩ (.inr rfl) _
    have fA7 : Below Wa.heap.size Wa W7 := by rw [eW7]; exact ((Below.refl _ _).alloc (Nat.le_refl _) _).alloc (by simp) _
    have HB47 : Hid (Below W4.heap.size W4 W7) := (unhide HB45).trans ((fA.below (unhide HB45).size (fun b hb e => by omega)).trans (fA7.mono (by have := (unhide HB45).size; omega)))
    have HXB7 : Hid (Ro W7 2 (.slice (some ⟨W5.heap.size, 0, none⟩) 1 1) 1 [.slice xca NC xcc, .slice (some ⟨g, off, none⟩) NF fc]) := by
      unfold Hid; rw [eW7, ← szA]; exact (B2.new Wa _ _ _).fr (S := fun _ => False) ((Fr.refl _ _).alloc _) (fun _ _ e => e)
    have HOX7 : Hid (OX W4.heap.size p xs (.slice xca NC xcc) (.slice (some ⟨g, off, none⟩) NF fc) k ⟨nm, pr, lcl, NS, .slice none 0 0⟩ W7) := by
      have h1 := (unhide HOX).put rfl (by rw [unhide HXL]; exact hkN) (j := 3) (x2 := ⟨nm, pr, lcl, NS, xhv⟩) (v := NS) (by omega) (by intro i hi; rcases (show i = 0 ∨ i = 1 ∨ i = 2 ∨ i = 3 ∨ i = 4 by omega) with rfl | rfl | rfl | rfl | rfl <;> rfl)
      have h2 := h1.put rfl (by rw [unhide HXL]; exact hkN) (j := 4) (x2 := ⟨nm, pr, lcl, NS, .slice none 0 0⟩) (v := .slice none 0 0) (by omega) (by intro i hi; rcases (show i = 0 ∨ i = 1 ∨ i = 2 ∨ i = 3 ∨ i = 4 by omega) with rfl | rfl | rfl | rfl | rfl <;> rfl)
      rw [← eWa] at h2
      exact h2.keep fA7
    have HFN7 : Hid (FnV W7 (fThrow f) ⟨nm, pr, lcl, NS, .slice none 0 0⟩) := by
      obtain ⟨x1, x2, x3, _, _⟩ := unhide HXF
      refine ⟨x1, x2, x3, ?_, by simpa [flt, fThrow] using Rx.nil W7 4⟩
      have := roNew (Wa.alloc (.cells #[.slice xca NC xcc, .slice (some ⟨g, off, none⟩) NF fc] 25)) [.int .i64 1, .int .i64 0, .int .i64 45, .int .i64 0] 48 (n := 2) (sz := 2) rfl (by unfold maxLen; omega) (b := W5.heap.size + 1) (by simp [szA])
      rw [← eNS] at this
      rw [eW7]
      exact Rx.of_ro this
    have HB7 : Hid (Below w.heap.size w W7) := (unhide HB4).trans ((unhide HB47).mono (unhide HB4).size)
    have HCK1 : Hid (ckF (stF p k (fThrow f)) = none) := ck_throw (unhide HCK) (unhide HF)
    have HOK1 : Hid (OkP (stF p k (fThrow f))) := by
      refine ⟨(unhide HOK).1, fun i h hi => ?_⟩
      by_cases c : i = k
      · subst c
        rw [stF_at (unhide HF)] at hi
        cases hi
        exact ⟨by simp [fThrow], ((unhide HOK).2 i f (unhide HF)).2⟩
      · rw [stF_ne c] at hi
        exact (unhide HOK).2 i h hi
    have HC7 := hide (program_any ((unhide HOX7).pgv (unhide HF) (unhide HFN7)) (unhide HOK1) (((unhide HB7).cell (p := ⟨0, 0, none⟩) gl).trans (unhide HLG)))
    clear fA fA7 eW7 eWa z3 z4 zf3 zf4
    refine (unhide HC7).mono ?_
    rintro e W8 ⟨fa8, L8, k8, a8, er8, rfl, hV8, hB8, hn8, hs8⟩
    have hval : ∀ (i : Nat) (h : Fc), p.funcs[i]? = some h → ∃ l, FnR h (some l) 0 0 := fun i h hi => by
      obtain ⟨l, hl⟩ : ∃ l, Ls[i]? = some l := ⟨_, List.getElem?_eq_getElem (by rw [unhide HLL]; exact (List.getElem?_eq_some_iff.1 hi).1)⟩
      exact ⟨l, unhide HFN i h l hi hl⟩
    have HVAL := hide hval
    rcases vp_set (unhide HF) hval hV8 (unhide HCK1) with ⟨_, _, _, hbad⟩ | ⟨rfl, rfl, rfl, Ls8, rfl, hLl8, hFn8⟩
    · exact ((fn_throw (OkF.of (unhide HCK1) (stF_at (unhide HF)))).no hbad).elim
    obtain ⟨hv8, mv8, rfl, hR8⟩ := hs8 _ rfl
    have HEQ8 : Hid (∀ (i : Nat) (l : List Int), i ≠ k → Ls[i]? = some l → Ls8[i]? = some l) := fun i l hik hl => by
      have hi : i < p.funcs.length := by rw [← unhide HLL]; exact (List.getElem?_eq_some_iff.1 hl).1
      obtain ⟨h, hh⟩ : ∃ h, p.funcs[i]? = some h := ⟨_, List.getElem?_eq_getElem hi⟩
      obtain ⟨l2, hl2⟩ : ∃ l, Ls8[i]? = some l := ⟨_, List.getElem?_eq_getElem (by rw [hLl8]; exact hi)⟩
      have e := (unhide HFN i h l hh hl).one (hFn8 i h l2 (by rw [stF_ne hik]; exact hh) hl2)
      rw [e]; exact hl2
    have HLE8 : Hid (Ls8.length = Ls.length) := by unfold Hid; rw [hLl8, unhide HLL]
    have HFC8 := hide hR8.v
    obtain ⟨ha8, hcp8, ma8, mcp8, rfl, rfl, _⟩ := hR8.v.shape
    rw [hLl8, unhide hNF] at HFC8 ⊢
    have HB48 : Hid (Below W4.heap.size W4 W8) := (unhide HB47).trans (hB8.mono (unhide HB47).size)
    have HXB8 := hide ((unhide HXB7).keep (fun g hg => hB8.block g ((unhide HXB7).lt g hg)))
    have HOX8 := hide ((unhide HOX7).keep hB8)
    clear hV8 hB8 hn8 hs8 HC7 hR8 hLl8 hFn8 hval
    obtain ⟨W9, eW9⟩ : ∃ W9, W9 = (W8.alloc (.cells #[.slice ha8 NF hcp8, .slice ma8 NF mcp8] 30)).alloc (.cells #[.int .i64 0, .int .i64 0] 32) := ⟨_, rfl⟩
    have F9 : Below W8.heap.size W8 W9 := by rw [eW9]; exact ((Below.refl _ _).alloc (Nat.le_refl _) _).alloc (by simp) _
    have HB49 : Hid (Below W4.heap.size W4 W9) := (unhide HB48).trans (F9.mono (unhide HB48).size)
    have HT9 := hide ((unhide HT4).keep (fun g hg => (unhide HB49).block g ((unhide HT4).lt g hg)))
    have HG9 : Hid (Ro W9 2 (.slice (some ⟨W8.heap.size, 0, none⟩) 1 1) 1 [.slice ha8 NF hcp8, .slice ma8 NF mcp8]) := by
      unfold Hid; rw [eW9]; exact (B2.new W8 _ _ _).fr (S := fun _ => False) ((Fr.refl _ _).alloc _) (fun _ _ e => e)
    have HXB9 := hide ((unhide HXB8).keep (fun g hg => F9.block g ((unhide HXB8).lt g hg)))
    have HOX9 := hide ((unhide HOX8).keep F9)
    have HFC9 := hide ((unhide HFC4).below (unhide HB49) (Nat.le_refl _))
    have HFC89 := hide ((unhide HFC8).below F9 (Nat.le_refl _))
    have HOT := hide (others_any (k := k) (unhide HFC9) (unhide HFC89) (unhide HLE8) (unhide HEQ8))
    have HSZ9 : Hid (W8.heap.size + 2 = W9.heap.size) := by unfold Hid; rw [eW9]; simp
    obtain ⟨t0, t1⟩ := B2.cells (unhide HT9)
    obtain ⟨g0, g1⟩ := B2.cells (unhide HG9)
    have lt0 := World.block_lt_of_cell? _ _ t0
    have lg0 := World.block_lt_of_cell? _ _ g0
    have t08 := ((unhide HB48).cell (p := ⟨W3.heap.size, 0, none⟩) ((unhide HT4).lt _ rfl)).trans (B2.cells (unhide HT4)).1
    have t18 := ((unhide HB48).cell (p := ⟨W3.heap.size, 1, none⟩) ((unhide HT4).lt _ rfl)).trans (B2.cells (unhide HT4)).2
    have lt8 := World.block_lt_of_cell? _ _ t08
    clear F9
    go_wp2_with fail
    rw [← eW9]
    clear t08 t18 lt8
    refine (unhide HOT).mono ?_
    rintro e W10 ⟨rfl, hB10⟩
    have HB410 : Hid (Below W4.heap.size W4 W10) := (unhide HB49).trans (hB10.mono (unhide HB49).size)
    have HB10 : Hid (Below w.heap.size w W10) := (unhide HB4).trans ((unhide HB410).mono (unhide HB4).size)
    have HXB10 := hide ((unhide HXB9).keep (fun g hg => hB10.block g ((unhide HXB9).lt g hg)))
    have HG10 := hide ((unhide HG9).keep (fun g hg => hB10.block g ((unhide HG9).lt g hg)))
    have HOX10 := hide ((unhide HOX9).keep hB10)
    have HR10 := hide ((unhide HR4).keep (fun g hg => (unhide HB410).block g ((unhide HR4).lt g hg)))
    have HS10 := hide ((unhide HS4).keep (fun g hg => (unhide HB410).block g ((unhide HS4).lt g hg)))
    have HT10 := hide ((unhide HT4).keep (fun g hg => (unhide HB410).block g ((unhide HT4).lt g hg)))
    have HFC10 := hide ((unhide HFC4).below (unhide HB410) (Nat.le_refl _))
    have HE10 : Hid (∀ n, Below w.heap.size w (W10.drewN n)) := fun n => Go.Proofs.YtbphddocgdihjaaDoor.Below.drewN (unhide HB10) n
    obtain ⟨p0, p1⟩ := B2.cells (unhide HR10)
    obtain ⟨q0, q1⟩ := B2.cells (unhide HS10)
    have lp := World.block_lt_of_cell? _ _ p0
    have lq := World.block_lt_of_cell? _ _ q0
    clear hB10 HOT eW9 t0 t1 g0 g1 lt0 lg0
    by_cases hkM : k < MF
    case neg =>
      have hkM1 : (MF : Int) ≤ (k : Int) := by omega
      go_wp2_with fail
      go_quiet (fail)
      go_wp2_with fail
      go_ret
      exact ⟨rfl, unhide HE10 _⟩
    have hkM1 : ¬ (MF : Int) ≤ (k : Int) := by omega
    have hkM2 : (k : Int) < (MF : Int) := by omega
    obtain ⟨h, hh⟩ : ∃ h, q.funcs[k]? = some h := ⟨_, List.getElem?_eq_getElem (by rw [unhide hMF]; exact hkM)⟩
    obtain ⟨qb, qo, y, rfl, lqb, hy, cs⟩ := unhide HAT2 k h hh
    obtain ⟨pb, po, y1, rfl, lpb, hy1, cs1⟩ := unhide HAT k f (unhide HF)
    have HH := hide hh
    have HY := hide hy
    have HCS : Hid (∀ (j : Nat) (v : Value), (enF y)[j]? = some v → w.cell? ⟨qb, qo + k * 5 + j, none⟩ = some v) := cs
    have HPR : Hid (y1.params = f.params ∧ y.locals = h.locals) := ⟨hy1.2.1, hy.2.2.1⟩
    have m2 := (unhide HB10).cell (p := ⟨qb, qo + k * 5 + 2, none⟩) lqb |>.trans (cs 2 _ rfl)
    have n1 := (unhide HB10).cell (p := ⟨pb, po + k * 5 + 1, none⟩) lpb |>.trans (cs1 1 _ rfl)
    have lm2 := World.block_lt_of_cell? _ _ m2
    have ln1 := World.block_lt_of_cell? _ _ n1
    obtain ⟨ynm, ypr, ylc, ycv, yhv⟩ := y
    obtain ⟨ynm1, ypr1, ylc1, ycv1, yhv1⟩ := y1
    simp only at m2 n1
    clear hh hy hy1 cs cs1
    by_cases hlo : ylc < ypr1
    · go_wp2_with fail
      go_quiet (fail)
      go_wp2_with fail
      go_ret
      exact ⟨rfl, unhide HE10 _⟩
    go_wp2_with fail
    go_quiet (fail)
    go_wp2_with fail
    obtain ⟨C, eC⟩ : ∃ C, C = W10.drewN nq := ⟨_, rfl⟩
    have fC : Fr (fun _ => False) W10 C := by rw [eC]; exact Fr.drewN nq
    have HB4C : Hid (Below W4.heap.size W4 C) := (unhide HB410).trans (fC.below (unhide HB410).size (fun _ _ e => e))
    have HBC : Hid (Below w.heap.size w C) := (unhide HB4).trans ((unhide HB4C).mono (unhide HB4).size)
    have HXBC := hide ((unhide HXB10).fr fC (fun _ _ e => e))
    have HGC := hide ((unhide HG10).fr fC (fun _ _ e => e))
    have HOXC := hide ((unhide HOX10).fr fC (fun _ _ _ e => e))
    obtain ⟨_, yca, ycc, ey, _, _, _⟩ := (unhide HY).2.2.2.1
    obtain ⟨_, yha, yhc, ey2, _, _, _⟩ := (unhide HY).2.2.2.2
    simp only at ey ey2
    obtain ⟨CL, hCL⟩ : ∃ n, Hid (h.code.length = n) := ⟨_, rfl⟩
    obtain ⟨HL, hHL⟩ : ∃ n, Hid (h.hs.length = n) := ⟨_, rfl⟩
    rw [unhide hCL] at ey
    rw [unhide hHL] at ey2
    subst ey ey2
    have HCI : Hid (Calls Tryd.prog 14 #[.slice yca CL ycc] C.drew fun e w' => ∃ v', e = .returned v' ∧ Gx C.drew 2 enI h.code v' w') := by
      have r := (unhide HY).2.2.2.1
      simp only at r
      exact copyI_any (Rx.fr (S := fun _ => False) (r.below (unhide HBC) (Nat.le_refl _)) (Fr.refl _ _).drew (fun _ _ e => e)) (by have := unhide HBQ k h (unhide HH); omega)
    have xb1 := (B2.cells (unhide HXBC)).2
    have lxb := World.block_lt_of_cell? _ _ xb1
    have nexb : ¬ W5.heap.size = g := by omega
    have hs4w : Hid (w.heap.size + 2 ≤ W4.heap.size) := by
      have h1 : w.heap.size + 1 < W4.heap.size := (unhide HS4).lt _ rfl
      unfold Hid; omega
    have qb1 := ((unhide HB4C).cell (p := ⟨w.heap.size + 1, 1, none⟩) ((unhide HS4).lt _ rfl)).trans (B2.cells (unhide HS4)).2
    have lqb1 := World.block_lt_of_cell? _ _ qb1
    have neqb1 : ¬ w.heap.size + 1 = g := by have := unhide hs4w; omega
    have neqb : ¬ qb = g := by have := unhide hs4w; omega
    have mq := (unhide HBC).cell (p := ⟨qb, qo + k * 5 + 3, none⟩) lqb |>.trans (unhide HCS 3 _ rfl)
    have lmq := World.block_lt_of_cell? _ _ mq
    rw [← eC]
    clear fC eC m2 n1 lm2 ln1 p0 p1 q0 q1 lp lq
    refine wp_region_held_drew (S := (fun wx => Fr (fun b => b = g) C wx)) (by kernel_rfl) ((Fr.refl _ _).drew) (fun hHeld => ?_)
    refine wpAnyH_take (i := 0) (oi := _) (v := .pointer (some ⟨W5.heap.size, 1, none⟩)) rfl (by kernel_rfl) (by kernel_rfl) (by kernel_rfl) (fun _ _ _ h => h) (Or.inl ⟨by rfl, (by intro wz hSw; go_simp)⟩) (by assumption) ?_
    go_simp
    refine wpAnyH_take (i := 1) (oi := _) (v := .slice (some ⟨g, off, none⟩) NF fc) rfl (by kernel_rfl) (by kernel_rfl) (by kernel_rfl) (fun _ _ _ h => h) (Or.inl ⟨by rfl, (by intro wz hSw; have s0 := (hSw.cell (a := ⟨W5.heap.size, 1, none⟩) lxb nexb).trans xb1; have t0 := Nat.lt_of_lt_of_le lxb hSw.size; go_simp)⟩) (by assumption) ?_
    go_simp
    refine wpAnyH_take (i := 2) (oi := _) (v := .int .i64 (k : Int)) rfl (by kernel_rfl) (by kernel_rfl) (by kernel_rfl) (fun _ _ _ h => h) (Or.inl ⟨by rfl, (by intro wz hSw; go_simp)⟩) (by assumption) ?_
    go_simp
    refine wpAnyH_take (i := 3) (oi := _) (v := .pointer (some ⟨w.heap.size + 1, 1, none⟩)) rfl (by kernel_rfl) (by kernel_rfl) (by kernel_rfl) (fun _ _ _ h => h) (Or.inl ⟨by rfl, (by intro wz hSw; go_simp)⟩) (by assumption) ?_
    go_simp
    refine wpAnyH_take (i := 4) (oi := _) (v := .slice (some ⟨qb, qo, none⟩) MF fcap2) rfl (by kernel_rfl) (by kernel_rfl) (by kernel_rfl) (fun _ _ _ h => h) (Or.inl ⟨by rfl, (by intro wz hSw; have s0 := (hSw.cell (a := ⟨w.heap.size + 1, 1, none⟩) lqb1 neqb1).trans qb1; have t0 := Nat.lt_of_lt_of_le lqb1 hSw.size; go_simp)⟩) (by assumption) ?_
    go_simp
    refine wpAnyH_take (i := 5) (oi := _) (v := .int .i64 (k : Int)) rfl (by kernel_rfl) (by kernel_rfl) (by kernel_rfl) (fun _ _ _ h => h) (Or.inl ⟨by rfl, (by intro wz hSw; go_simp)⟩) (by assumption) ?_
    go_simp
    refine wpAnyH_take (i := 6) (oi := _) (v := .pointer (some ⟨qb, qo + k * 5, none⟩)) rfl (by kernel_rfl) (by kernel_rfl) (by kernel_rfl) (fun _ _ _ h => h) (Or.inl ⟨by rfl, (by intro wz hSw; go_simp)⟩) (by assumption) ?_
    go_simp
    refine wpAnyH_take (i := 7) (oi := _) (v := .pointer (some ⟨qb, qo + k * 5 + 3, none⟩)) rfl (by kernel_rfl) (by kernel_rfl) (by kernel_rfl) (fun _ _ _ h => h) (Or.inl ⟨by rfl, (by intro wz hSw; go_simp)⟩) (by assumption) ?_
    go_simp
    refine wpAnyH_take (i := 8) (oi := _) (v := .slice yca CL ycc) rfl (by kernel_rfl) (by kernel_rfl) (by kernel_rfl) (fun _ _ _ h => h) (Or.inl ⟨by rfl, (by intro wz hSw; have s0 := (hSw.cell (a := ⟨qb, qo + k * 5 + 3, none⟩) lmq neqb).trans mq; have t0 := Nat.lt_of_lt_of_le lmq hSw.size; go_simp)⟩) (by assumption) ?_
    go_simp
    refine wpAnyH_ready (rs := [9]) (by kernel_rfl) (by simp) ?_
    refine AllReadyH.cons (o := _) rfl (fun K hK => ?_) AllReadyH.nil
    go_simp
    refine (unhide HCI).mono ?_
    rintro e W12 ⟨cs, rfl, hG12⟩
    obtain ⟨csa, csc, ecs, _, _⟩ := hG12.1.shape
    rw [unhide hCL] at ecs
    subst ecs
    have hf12 : Fr (fun b => b = g) C W12 := ((Fr.refl (fun b => b = g) C).drew).trans (Fr.of_below hG12.2.1)
    have HOX12 := hide ((unhide HOXC).fr (S := fun _ => False) (((Fr.refl (fun _ => False) C).drew).trans (Fr.of_below hG12.2.1)) (fun _ _ _ e => e))
    obtain ⟨hcl12, hfz12, lg12, _⟩ := (unhide HOX12).cells rfl (by rw [unhide HXL]; exact hkN)
    have zo := hcl12 3 _ rfl
    have zf := hfz12 (off + k * 5 + 3)
    have HG12 := hide hG12
    clear hG12 hcl12 hfz12
    refine hK.out _ _ hf12 (fun hHeld9x => ?_)
    clear hK K
    go_simp
    refine wpAnyH_take (i := 10) (oi := _) (v := .pointer (some ⟨g, off + k * 5, none⟩)) rfl (by kernel_rfl) (by kernel_rfl) (by kernel_rfl) (fun _ _ _ h => h) (Or.inl ⟨by rfl, (by intro wz hSw; go_simp)⟩) (by assumption) ?_
    go_simp
    refine wpAnyH_take (i := 11) (oi := _) (v := .pointer (some ⟨g, off + k * 5 + 3, none⟩)) rfl (by kernel_rfl) (by kernel_rfl) (by kernel_rfl) (fun _ _ _ h => h) (Or.inl ⟨by rfl, (by intro wz hSw; go_simp)⟩) (by assumption) ?_
    go_simp
    refine wpAnyH_ready (rs := [12]) (by kernel_rfl) (by simp) ?_
    refine AllReadyH.cons (o := _) rfl (fun K hK => ?_) AllReadyH.nil
    go_simp
    refine hK.out _ _ (hf12.setCell ⟨g, off + k * 5 + 3, none⟩ (.inr rfl) _) (fun hHeld12x => ?_)
    clear hK K
    go_simp
    refine wpAnyH_done (by kernel_rfl) ?_ _
    obtain ⟨D1, eD1⟩ : ∃ D1, D1 = W12.setCell ⟨g, off + k * 5 + 3, none⟩ (.slice csa CL csc) := ⟨_, rfl⟩
    rw [← eD1]
    have HOXD1 : Hid (OX W4.heap.size p xs (.slice xca NC xcc) (.slice (some ⟨g, off, none⟩) NF fc) k ⟨nm, pr, lcl, .slice csa CL csc, .slice none 0 0⟩ D1) := by
      unfold Hid; rw [eD1]
      exact (unhide HOX12).put rfl (by rw [unhide HXL]; exact hkN) (j := 3) (by omega) (by intro i hi; rcases (show i = 0 ∨ i = 1 ∨ i = 2 ∨ i = 3 ∨ i = 4 by omega) with rfl | rfl | rfl | rfl | rfl <;> rfl)
    have HfD1 : Hid (Fr (fun b => b = g) C D1) := by unfold Hid; rw [eD1]; exact hf12.setCell ⟨g, off + k * 5 + 3, none⟩ (.inr rfl) _
    have HCSR : Hid (Ro D1 2 (.slice csa CL csc) CL (flt enI h.code) ∧ ∀ b, (Value.slice csa CL csc).ownBlock = some b → b ≠ g) := by
      have hne : ∀ b, (Value.slice csa CL csc).ownBlock = some b → b ≠ g := fun b hb e => by
        have h1 := (unhide HG12).2.2 b hb
        have h2 : g < C.heap.size := ((unhide HOXC).cells rfl (by rw [unhide HXL]; exact hkN)).2.2.1
        have h3 : C.drew.heap.size = C.heap.size := rfl
        omega
      refine ⟨?_, hne⟩
      have r := (unhide HG12).1
      rw [unhide hCL] at r
      rw [eD1]
      exact r.fr ((Fr.refl (fun b => b = g) W12).setCell ⟨g, off + k * 5 + 3, none⟩ (.inr rfl) _) (fun b hb => hne b hb)
    have xb1 := ((unhide HfD1).cell (a := ⟨W5.heap.size, 1, none⟩) lxb nexb).trans xb1
    have lxb := World.block_lt_of_cell? _ _ xb1
    have qb1 := ((unhide HfD1).cell (a := ⟨w.heap.size + 1, 1, none⟩) lqb1 neqb1).trans qb1
    have lqb1 := World.block_lt_of_cell? _ _ qb1
    have mq := ((unhide HfD1).cell (a := ⟨qb, qo + k * 5 + 4, none⟩) (Nat.lt_of_lt_of_le lqb (unhide HBC).size) neqb).trans ((unhide HBC).cell (p := ⟨qb, qo + k * 5 + 4, none⟩) lqb |>.trans (unhide HCS 4 _ rfl))
    have lmq := World.block_lt_of_cell? _ _ mq
    clear zo zf hf12 hHeld eD1 HCI
    obtain ⟨hclD, hfzD, lgD, _⟩ := (unhide HOXD1).cells rfl (by rw [unhide HXL]; exact hkN)
    have zo := hclD 4 _ rfl
    have zf := hfzD (off + k * 5 + 4)
    clear hclD hfzD
    go_wp2_with fail
    refine wp_region_held_drew (S := (fun wx => Fr (fun b => b = g) D1 wx)) (by kernel_rfl) ((Fr.refl _ _).drew) (fun hHeld => ?_)
    refine wpAnyH_take (i := 0) (oi := _) (v := .pointer (some ⟨W5.heap.size, 1, none⟩)) rfl (by kernel_rfl) (by kernel_rfl) (by kernel_rfl) (fun _ _ _ h => h) (Or.inl ⟨by rfl, (by intro wz hSw; go_simp)⟩) (by assumption) ?_
    go_simp
    refine wpAnyH_take (i := 1) (oi := _) (v := .slice (some ⟨g, off, none⟩) NF fc) rfl (by kernel_rfl) (by kernel_rfl) (by kernel_rfl) (fun _ _ _ h => h) (Or.inl ⟨by rfl, (by intro wz hSw; have s0 := (hSw.cell (a := ⟨W5.heap.size, 1, none⟩) lxb nexb).trans xb1; have t0 := Nat.lt_of_lt_of_le lxb hSw.size; go_simp)⟩) (by assumption) ?_
    go_simp
    refine wpAnyH_take (i := 2) (oi := _) (v := .int .i64 (k : Int)) rfl (by kernel_rfl) (by kernel_rfl) (by kernel_rfl) (fun _ _ _ h => h) (Or.inl ⟨by rfl, (by intro wz hSw; go_simp)⟩) (by assumption) ?_
    go_simp
    refine wpAnyH_take (i := 3) (oi := _) (v := .pointer (some ⟨w.heap.size + 1, 1, none⟩)) rfl (by kernel_rfl) (by kernel_rfl) (by kernel_rfl) (fun _ _ _ h => h) (Or.inl ⟨by rfl, (by intro wz hSw; go_simp)⟩) (by assumption) ?_
    go_simp
    refine wpAnyH_take (i := 4) (oi := _) (v := .slice (some ⟨qb, qo, none⟩) MF fcap2) rfl (by kernel_rfl) (by kernel_rfl) (by kernel_rfl) (fun _ _ _ h => h) (Or.inl ⟨by rfl, (by intro wz hSw; have s0 := (hSw.cell (a := ⟨w.heap.size + 1, 1, none⟩) lqb1 neqb1).trans qb1; have t0 := Nat.lt_of_lt_of_le lqb1 hSw.size; go_simp)⟩) (by assumption) ?_
    go_simp
    refine wpAnyH_take (i := 5) (oi := _) (v := .int .i64 (k : Int)) rfl (by kernel_rfl) (by kernel_rfl) (by kernel_rfl) (fun _ _ _ h => h) (Or.inl ⟨by rfl, (by intro wz hSw; go_simp)⟩) (by assumption) ?_
    go_simp
    refine wpAnyH_take (i := 6) (oi := _) (v := .pointer (some ⟨qb, qo + k * 5, none⟩)) rfl (by kernel_rfl) (by kernel_rfl) (by kernel_rfl) (fun _ _ _ h => h) (Or.inl ⟨by rfl, (by intro wz hSw; go_simp)⟩) (by assumption) ?_
    go_simp
    refine wpAnyH_take (i := 7) (oi := _) (v := .pointer (some ⟨qb, qo + k * 5 + 4, none⟩)) rfl (by kernel_rfl) (by kernel_rfl) (by kernel_rfl) (fun _ _ _ h => h) (Or.inl ⟨by rfl, (by intro wz hSw; go_simp)⟩) (by assumption) ?_
    go_simp
    refine wpAnyH_take (i := 8) (oi := _) (v := .slice yha HL yhc) rfl (by kernel_rfl) (by kernel_rfl) (by kernel_rfl) (fun _ _ _ h => h) (Or.inl ⟨by rfl, (by intro wz hSw; have s0 := (hSw.cell (a := ⟨qb, qo + k * 5 + 4, none⟩) lmq neqb).trans mq; have t0 := Nat.lt_of_lt_of_le lmq hSw.size; go_simp)⟩) (by assumption) ?_
    go_simp
    refine wpAnyH_take (i := 9) (oi := _) (v := .pointer (some ⟨g, off + k * 5, none⟩)) rfl (by kernel_rfl) (by kernel_rfl) (by kernel_rfl) (fun _ _ _ h => h) (Or.inl ⟨by rfl, (by intro wz hSw; go_simp)⟩) (by assumption) ?_
    go_simp
    refine wpAnyH_take (i := 10) (oi := _) (v := .pointer (some ⟨g, off + k * 5 + 4, none⟩)) rfl (by kernel_rfl) (by kernel_rfl) (by kernel_rfl) (fun _ _ _ h => h) (Or.inl ⟨by rfl, (by intro wz hSw; go_simp)⟩) (by assumption) ?_
    go_simp
    refine wpAnyH_ready (rs := [11]) (by kernel_rfl) (by simp) ?_
    refine AllReadyH.cons (o := _) rfl (fun K hK => ?_) AllReadyH.nil
    go_simp
    refine hK.out _ _ (((Fr.refl (fun b => b = g) D1).setCell ⟨g, off + k * 5 + 4, none⟩ (.inr rfl) _).drew) (fun hHeld12x => ?_)
    clear hK K
    go_simp
    refine wpAnyH_done (by kernel_rfl) ?_ _
    obtain ⟨D2, eD2⟩ : ∃ D2, D2 = (D1.setCell ⟨g, off + k * 5 + 4, none⟩ (.slice yha HL yhc)).drew := ⟨_, rfl⟩
    rw [← eD2]
    have HOXD2 : Hid (OX W4.heap.size p xs (.slice xca NC xcc) (.slice (some ⟨g, off, none⟩) NF fc) k ⟨nm, pr, lcl, .slice csa CL csc, .slice yha HL yhc⟩ D2) := by
      unfold Hid; rw [eD2]
      exact ((unhide HOXD1).put rfl (by rw [unhide HXL]; exact hkN) (j := 4) (x2 := ⟨nm, pr, lcl, .slice csa CL csc, .slice yha HL yhc⟩) (by omega) (by intro i hi; rcases (show i = 0 ∨ i = 1 ∨ i = 2 ∨ i = 3 ∨ i = 4 by omega) with rfl | rfl | rfl | rfl | rfl <;> rfl)).fr (S := fun _ => False) (Fr.refl _ _).drew (fun _ _ _ e => e)
    have HfD2 : Hid (Fr (fun b => b = g) D1 D2) := by unfold Hid; rw [eD2]; exact ((Fr.refl (fun b => b = g) D1).setCell ⟨g, off + k * 5 + 4, none⟩ (.inr rfl) _).drew
    have xb1 := ((unhide HfD2).cell (a := ⟨W5.heap.size, 1, none⟩) lxb nexb).trans xb1
    have lxb := World.block_lt_of_cell? _ _ xb1
    have qb1 := ((unhide HfD2).cell (a := ⟨w.heap.size + 1, 1, none⟩) lqb1 neqb1).trans qb1
    have lqb1 := World.block_lt_of_cell? _ _ qb1
    have HfC2 : Hid (Fr (fun b => b = g) C D2) := (unhide HfD1).trans (unhide HfD2)
    have mq := ((unhide HfC2).cell (a := ⟨qb, qo + k * 5 + 2, none⟩) (Nat.lt_of_lt_of_le lqb (unhide HBC).size) neqb).trans ((unhide HBC).cell (p := ⟨qb, qo + k * 5 + 2, none⟩) lqb |>.trans (unhide HCS 2 _ rfl))
    have lmq := World.block_lt_of_cell? _ _ mq
    clear zo zf hHeld eD2
    obtain ⟨hclD, hfzD, lgD2, _⟩ := (unhide HOXD2).cells rfl (by rw [unhide HXL]; exact hkN)
    have zo := hclD 2 _ rfl
    have zf := hfzD (off + k * 5 + 2)
    clear hclD hfzD
    simp only at mq
    go_wp2_with fail
    refine wp_region_held_drew (S := (fun wx => Fr (fun b => b = g) D2 wx)) (by kernel_rfl) ((Fr.refl _ _).drew) (fun hHeld => ?_)
    refine wpAnyH_take (i := 0) (oi := _) (v := .pointer (some ⟨W5.heap.size, 1, none⟩)) rfl (by kernel_rfl) (by kernel_rfl) (by kernel_rfl) (fun _ _ _ h => h) (Or.inl ⟨by rfl, (by intro wz hSw; go_simp)⟩) (by assumption) ?_
    go_simp
    refine wpAnyH_take (i := 1) (oi := _) (v := .slice (some ⟨g, off, none⟩) NF fc) rfl (by kernel_rfl) (by kernel_rfl) (by kernel_rfl) (fun _ _ _ h => h) (Or.inl ⟨by rfl, (by intro wz hSw; have s0 := (hSw.cell (a := ⟨W5.heap.size, 1, none⟩) lxb nexb).trans xb1; have t0 := Nat.lt_of_lt_of_le lxb hSw.size; go_simp)⟩) (by assumption) ?_
    go_simp
    refine wpAnyH_take (i := 2) (oi := _) (v := .int .i64 (k : Int)) rfl (by kernel_rfl) (by kernel_rfl) (by kernel_rfl) (fun _ _ _ h => h) (Or.inl ⟨by rfl, (by intro wz hSw; go_simp)⟩) (by assumption) ?_
    go_simp
    refine wpAnyH_take (i := 3) (oi := _) (v := .pointer (some ⟨w.heap.size + 1, 1, none⟩)) rfl (by kernel_rfl) (by kernel_rfl) (by kernel_rfl) (fun _ _ _ h => h) (Or.inl ⟨by rfl, (by intro wz hSw; go_simp)⟩) (by assumption) ?_
    go_simp
    refine wpAnyH_take (i := 4) (oi := _) (v := .slice (some ⟨qb, qo, none⟩) MF fcap2) rfl (by kernel_rfl) (by kernel_rfl) (by kernel_rfl) (fun _ _ _ h => h) (Or.inl ⟨by rfl, (by intro wz hSw; have s0 := (hSw.cell (a := ⟨w.heap.size + 1, 1, none⟩) lqb1 neqb1).trans qb1; have t0 := Nat.lt_of_lt_of_le lqb1 hSw.size; go_simp)⟩) (by assumption) ?_
    go_simp
    refine wpAnyH_take (i := 5) (oi := _) (v := .int .i64 (k : Int)) rfl (by kernel_rfl) (by kernel_rfl) (by kernel_rfl) (fun _ _ _ h => h) (Or.inl ⟨by rfl, (by intro wz hSw; go_simp)⟩) (by assumption) ?_
    go_simp
    refine wpAnyH_take (i := 6) (oi := _) (v := .pointer (some ⟨qb, qo + k * 5, none⟩)) rfl (by kernel_rfl) (by kernel_rfl) (by kernel_rfl) (fun _ _ _ h => h) (Or.inl ⟨by rfl, (by intro wz hSw; go_simp)⟩) (by assumption) ?_
    go_simp
    refine wpAnyH_take (i := 7) (oi := _) (v := .pointer (some ⟨qb, qo + k * 5 + 2, none⟩)) rfl (by kernel_rfl) (by kernel_rfl) (by kernel_rfl) (fun _ _ _ h => h) (Or.inl ⟨by rfl, (by intro wz hSw; go_simp)⟩) (by assumption) ?_
    go_simp
    refine wpAnyH_take (i := 8) (oi := _) (v := .int .i64 ylc) rfl (by kernel_rfl) (by kernel_rfl) (by kernel_rfl) (fun _ _ _ h => h) (Or.inl ⟨by rfl, (by intro wz hSw; have s0 := (hSw.cell (a := ⟨qb, qo + k * 5 + 2, none⟩) lmq neqb).trans mq; have t0 := Nat.lt_of_lt_of_le lmq hSw.size; go_simp)⟩) (by assumption) ?_
    go_simp
    refine wpAnyH_take (i := 9) (oi := _) (v := .pointer (some ⟨g, off + k * 5, none⟩)) rfl (by kernel_rfl) (by kernel_rfl) (by kernel_rfl) (fun _ _ _ h => h) (Or.inl ⟨by rfl, (by intro wz hSw; go_simp)⟩) (by assumption) ?_
    go_simp
    refine wpAnyH_take (i := 10) (oi := _) (v := .pointer (some ⟨g, off + k * 5 + 2, none⟩)) rfl (by kernel_rfl) (by kernel_rfl) (by kernel_rfl) (fun _ _ _ h => h) (Or.inl ⟨by rfl, (by intro wz hSw; go_simp)⟩) (by assumption) ?_
    go_simp
    refine wpAnyH_ready (rs := [11]) (by kernel_rfl) (by simp) ?_
    refine AllReadyH.cons (o := _) rfl (fun K hK => ?_) AllReadyH.nil
    go_simp
    refine hK.out _ _ (((Fr.refl (fun b => b = g) D2).setCell ⟨g, off + k * 5 + 2, none⟩ (.inr rfl) _).drew) (fun hHeld12x => ?_)
    clear hK K
    go_simp
    refine wpAnyH_done (by kernel_rfl) ?_ _
    obtain ⟨D3, eD3⟩ : ∃ D3, D3 = (D2.setCell ⟨g, off + k * 5 + 2, none⟩ (.int .i64 ylc)).drew := ⟨_, rfl⟩
    rw [← eD3]
    have HOXD3 : Hid (OX W4.heap.size p xs (.slice xca NC xcc) (.slice (some ⟨g, off, none⟩) NF fc) k ⟨nm, pr, ylc, .slice csa CL csc, .slice yha HL yhc⟩ D3) := by
      unfold Hid; rw [eD3]
      exact ((unhide HOXD2).put rfl (by rw [unhide HXL]; exact hkN) (j := 2) (x2 := ⟨nm, pr, ylc, .slice csa CL csc, .slice yha HL yhc⟩) (by omega) (by intro i hi; rcases (show i = 0 ∨ i = 1 ∨ i = 2 ∨ i = 3 ∨ i = 4 by omega) with rfl | rfl | rfl | rfl | rfl <;> rfl)).fr (S := fun _ => False) (Fr.refl _ _).drew (fun _ _ _ e => e)
    have HfD3 : Hid (Fr (fun b => b = g) D2 D3) := by unfold Hid; rw [eD3]; exact ((Fr.refl (fun b => b = g) D2).setCell ⟨g, off + k * 5 + 2, none⟩ (.inr rfl) _).drew
    have HfC3 : Hid (Fr (fun b => b = g) C D3) := (unhide HfC2).trans (unhide HfD3)
    have HBD3 : Hid (Below w.heap.size w D3) := (unhide HBC).trans ((unhide HfC3).below (unhide HBC).size (fun b hb e => by have := unhide hs4w; omega))
    have HB4D : Hid (Below W4.heap.size W4 D3) := (unhide HB4C).trans ((unhide HfC3).below (unhide HB4C).size (fun b hb e => by omega))
    have HXBD := hide ((unhide HXBC).fr (unhide HfC3) (fun b hb e => by cases hb; exact nexb e))
    have hgW8 : g < W8.heap.size := ((unhide HOX8).cells rfl (by rw [unhide HXL]; exact hkN)).2.2.1
    have HGD := hide ((unhide HGC).fr (unhide HfC3) (fun b hb e => by cases hb; have e' : W8.heap.size = g := e; omega))
    have HF2 : Hid (FnV D3 { f with code := h.code, hs := h.hs, locals := h.locals } ⟨nm, pr, ylc, .slice csa CL csc, .slice yha HL yhc⟩) := by
      obtain ⟨x1, x2, _⟩ := unhide HXF
      have hyD := (unhide HY).below (unhide HBD3) (Nat.le_refl _)
      refine ⟨x1, x2, (unhide HPR).2, ?_, hyD.2.2.2.2⟩
      have r := (unhide HCSR).1.fr (S := fun b => b = g) ((unhide HfD2).trans (unhide HfD3)) (fun b hb => (unhide HCSR).2 b hb)
      show Rx D3 2 (.slice csa CL csc) h.code.length (flt enI h.code)
      rw [unhide hCL]
      exact Rx.of_ro r
    obtain ⟨f2, ef2⟩ : ∃ f2 : Fc, f2 = { f with code := h.code, hs := h.hs, locals := h.locals } := ⟨_, rfl⟩
    rw [← ef2] at HF2
    have HOK2 : Hid (OkP (stF p k f2)) := by
      refine ⟨(unhide HOK).1, fun i h' hi => ?_⟩
      by_cases c : i = k
      · subst c
        rw [stF_at (unhide HF)] at hi
        cases hi
        rw [ef2]
        exact ⟨((unhide HOQ).2 i h (unhide HH)).1, ((unhide HOK).2 i f (unhide HF)).2⟩
      · rw [stF_ne c] at hi
        exact (unhide HOK).2 i h' hi
    have HPG2 := hide ((unhide HOXD3).pgv (unhide HF) (unhide HF2))
    have HCK2 := hide (pCheck_any (unhide HPG2) (unhide HOK2) (((unhide HBD3).cell (p := ⟨0, 0, none⟩) gl).trans (unhide HLG)))
    obtain ⟨kc, ac, yc, hck⟩ : ∃ kc ac yc, rsV (ckF (stF p k f2)) = .tuple #[.agg #[.int .i64 kc, .int .i64 ac], .int .i64 yc] ∧ ((ckF (stF p k f2) = none ∧ kc = 0 ∧ ac = 0 ∧ yc = 0) ∨ (ckF (stF p k f2) = some (kc, ac, yc) ∧ yc ≠ 0)) := by
      cases h : ckF (stF p k f2) with
      | none => exact ⟨0, 0, 0, rfl, .inl ⟨rfl, rfl, rfl, rfl⟩⟩
      | some o => obtain ⟨k, a, y⟩ := o; exact ⟨k, a, y, rfl, .inr ⟨rfl, ckF_ne h⟩⟩
    rw [hck.1] at HCK2
    have HKC := hide hck.2
    clear hck zo zf hHeld eD3 mq lmq xb1 lxb qb1 lqb1
    obtain ⟨d0, d1⟩ := B2.cells (unhide HXBD)
    have ld := World.block_lt_of_cell? _ _ d0
    go_wp2_with fail
    refine (unhide HCK2).mono ?_
    rintro e W13 ⟨rfl, hb13⟩
    obtain ⟨W14, eW14⟩ : ∃ W14, W14 = W13.alloc (.cells #[.int .i64 kc, .int .i64 ac] 32) := ⟨_, rfl⟩
    have b14 : Below D3.heap.size D3 W14 := by rw [eW14]; exact hb13.alloc hb13.size _
    have HB14 : Hid (Below w.heap.size w W14) := (unhide HBD3).trans (b14.mono (unhide HBD3).size)
    have HB4E : Hid (Below W4.heap.size W4 W14) := (unhide HB4D).trans (b14.mono (unhide HB4D).size)
    have HXBE := hide ((unhide HXBD).keep (fun g hg => b14.block g ((unhide HXBD).lt g hg)))
    have HGE := hide ((unhide HGD).keep (fun g hg => b14.block g ((unhide HGD).lt g hg)))
    have HC14 := hide (program_any ((unhide HPG2).below b14 (Nat.le_refl _)) (unhide HOK2) (((unhide HB14).cell (p := ⟨0, 0, none⟩) gl).trans (unhide HLG)))
    have dd0 := (hb13.cell (p := ⟨W5.heap.size, 0, none⟩) ld).trans d0
    have dd1 := (hb13.cell (p := ⟨W5.heap.size, 1, none⟩) ld).trans d1
    have ldd := World.block_lt_of_cell? _ _ dd0
    clear d0 d1 ld hb13 b14 HCK2
    obtain ⟨d0, d1⟩ := B2.cells (unhide HXBE)
    have ld := World.block_lt_of_cell? _ _ d0
    go_wp2_with fail
    rw [← eW14]
    refine (unhide HC14).mono ?_
    rintro e W15 ⟨fa15, L15, k15, a15, er15, rfl, hV15, hB15, hn15, hs15⟩
    have HB15 : Hid (Below w.heap.size w W15) := (unhide HB14).trans (hB15.mono (unhide HB14).size)
    have HB4F : Hid (Below W4.heap.size W4 W15) := (unhide HB4E).trans (hB15.mono (unhide HB4E).size)
    have HGF := hide ((unhide HGE).keep (fun g hg => hB15.block g ((unhide HGE).lt g hg)))
    have HTF := hide ((unhide HT4).keep (fun g hg => (unhide HB4F).block g ((unhide HT4).lt g hg)))
    have hT34 : W3.heap.size < W4.heap.size := (unhide HT4).lt _ rfl
    have hG814 : W8.heap.size < W14.heap.size := (unhide HGE).lt _ rfl
    have hs15 := hs15
    obtain ⟨g0, g1⟩ := B2.cells (unhide HGF)
    have gz0 := (unhide HGF).free rfl 0
    have gz1 := (unhide HGF).free rfl 1
    have lg0 := World.block_lt_of_cell? _ _ g0
    have h48 := (unhide HB48).size
    have HEE : Hid (∀ u v o, Below w.heap.size w (((W15.setCell ⟨W8.heap.size, 0, none⟩ u).setCell ⟨W8.heap.size, 1, none⟩ v).alloc o)) := fun u v o => by
      have f : Fr (fun b => b = W8.heap.size) W15 (((W15.setCell ⟨W8.heap.size, 0, none⟩ u).setCell ⟨W8.heap.size, 1, none⟩ v).alloc o) := (((Fr.refl (fun b => b = W8.heap.size) W15).setCell ⟨W8.heap.size, 0, none⟩ (.inr rfl) _).setCell ⟨W8.heap.size, 1, none⟩ (.inr rfl) _).alloc _
      exact (unhide HB15).trans (f.below (unhide HB15).size (fun b hb e => by have := unhide hs4w; omega))
    clear eW14 dd0 dd1 ldd d0 d1 ld HC14
    rcases unhide HKC with ⟨hc1, rfl, rfl, rfl⟩ | ⟨hc1, hc2⟩
    case inr =>
      rcases hV15 with ⟨y, e1, rfl, rfl, _⟩ | ⟨e1, _⟩ | ⟨e1, _⟩
      · rw [hc1] at e1
        cases e1
        have hf0 := hn15 rfl
        subst hf0
        have heb : (yc == 0) = false := by simpa using hc2
        clear hn15 hs15 hB15
        go_wp2_with fail
        go_ret
        exact ⟨rfl, unhide HEE _ _ _⟩
      · rw [hc1] at e1; cases e1
      · rw [hc1] at e1; cases e1
    case inl =>
      rcases vp_set (unhide HF) (unhide HVAL) hV15 hc1 with ⟨her, rfl, rfl, hbad⟩ | ⟨rfl, rfl, rfl, Ls15, rfl, hLl15, hFn15⟩
      · have hf0 := hn15 rfl
        subst hf0
        have heb : (er15 == 0) = false := by simpa using her
        have heb2 : (er15 != 0) = true := by simpa using her
        clear hn15 hs15 hB15 hV15
        go_wp2_with fail
        go_ret
        exact ⟨rfl, unhide HEE _ _ _⟩
      · obtain ⟨hv15, mv15, rfl, hR15⟩ := hs15 _ rfl
        have HEQ15 : Hid (∀ (i : Nat) (l : List Int), i ≠ k → Ls[i]? = some l → Ls15[i]? = some l) := fun i l hik hl => by
          have hi : i < p.funcs.length := by rw [← unhide HLL]; exact (List.getElem?_eq_some_iff.1 hl).1
          obtain ⟨h, hh⟩ : ∃ h, p.funcs[i]? = some h := ⟨_, List.getElem?_eq_getElem hi⟩
          obtain ⟨l2, hl2⟩ : ∃ l, Ls15[i]? = some l := ⟨_, List.getElem?_eq_getElem (by rw [hLl15]; exact hi)⟩
          have e := (unhide HFN i h l hh hl).one (hFn15 i h l2 (by rw [stF_ne hik]; exact hh) hl2)
          rw [e]; exact hl2
        have HLE15 : Hid (Ls15.length = Ls.length) := by unfold Hid; rw [hLl15, unhide HLL]
        obtain ⟨ha15, hcp15, ma15, mcp15, rfl, rfl, _⟩ := hR15.v.shape
        rw [hLl15, unhide hNF] at hR15 ⊢
        obtain ⟨Wz, eWz⟩ : ∃ Wz, Wz = ((W15.setCell ⟨W8.heap.size, 0, none⟩ (.slice ha15 NF hcp15)).setCell ⟨W8.heap.size, 1, none⟩ (.slice ma15 NF mcp15)).alloc (.cells #[.int .i64 0, .int .i64 0] 32) := ⟨_, rfl⟩
        have fz : Fr (fun b => b = W8.heap.size) W15 Wz := by rw [eWz]; exact (((Fr.refl (fun b => b = W8.heap.size) W15).setCell ⟨W8.heap.size, 0, none⟩ (.inr rfl) _).setCell ⟨W8.heap.size, 1, none⟩ (.inr rfl) _).alloc _
        have HBz4 : Hid (Below W4.heap.size W4 Wz) := (unhide HB4F).trans (fz.below (unhide HB4F).size (fun b hb e => by omega))
        have HBz : Hid (Below w.heap.size w Wz) := by rw [eWz]; exact unhide HEE _ _ _
        have HFz := hide ((unhide HFC4).below (unhide HBz4) (Nat.le_refl _))
        have HFz15 := hide (hR15.fr fz (fun b hb e => by omega)).v
        have HOT15 := hide (others_any (k := k) (unhide HFz) (unhide HFz15) (unhide HLE15) (unhide HEQ15))
        obtain ⟨t0, t1⟩ := B2.cells (unhide HTF)
        have lt0 := World.block_lt_of_cell? _ _ t0
        have neT : ¬ W3.heap.size = W8.heap.size := by omega
        clear hn15 hs15 hB15 hV15 hR15 hFn15
        go_wp2_with fail
        rw [← eWz]
        refine (unhide HOT15).mono ?_
        rintro e W16 ⟨rfl, hB16⟩
        have HB16 : Hid (Below w.heap.size w W16) := (unhide HBz).trans (hB16.mono (unhide HBz).size)
        clear hB16 HOT15
        go_wp2_with fail
        go_ret
        exact ⟨rfl, unhide HB16⟩
end Go.Proofs.YtbphddocgdihjaaDoor
