/-
  Every script of two hashes.
-/
import Derived.Test.YtlkcjimkgebeiaaDoorHState
namespace Go.Proofs.YtlkcjimkgebeiaaDoor
open Go.RowKit

/-- One call of a script. -/
structure Hop where
  on : Int
  kind : Int
  v : Value
  bs : List Int
def Hop.zero : Hop := ⟨0, 0, .slice none 0 0, []⟩
/-- A script reads so. -/
def RdH (w : World) (v : Value) (ops : List Hop) : Prop :=
  ∃ a cap, v = .slice a ops.length cap ∧ ∀ i, i < ops.length → (PR w (ops.getD i Hop.zero).v (ops.getD i Hop.zero).bs ∧ BOk (ops.getD i Hop.zero).bs ∧ (ops.getD i Hop.zero).bs.length ≤ 140737488355328) ∧
    ∃ b off, a = some ⟨b, off, none⟩ ∧ b < w.heap.size ∧ w.cell? ⟨b, off + i * 3, none⟩ = some (.int .i64 (ops.getD i Hop.zero).on) ∧ w.cell? ⟨b, off + i * 3 + 1, none⟩ = some (.int .i64 (ops.getD i Hop.zero).kind) ∧ w.cell? ⟨b, off + i * 3 + 2, none⟩ = some (ops.getD i Hop.zero).v
/-- The bytes of the first j calls, all together. -/
def tot (ops : List Hop) : Nat → Nat
  | 0 => 0
  | j + 1 => tot ops j + (ops.getD j Hop.zero).bs.length
theorem tot_mono (ops : List Hop) (i : Nat) : ∀ d, tot ops i ≤ tot ops (i + d)
  | 0 => Nat.le_refl _
  | d + 1 => by
    have := tot_mono ops i d
    rw [← Nat.add_assoc, tot]
    omega

set_option maxHeartbeats 3200000 in
set_option maxRecDepth 100000 in
theorem hashLaw (rw0 : Value) (ops : List Hop) (w : World) (hrow : RdH w rw0 ops) (hM : ops.length ≤ 140737488355328) (hK : KT w) :
    Calls Tryd.prog 4 #[rw0] w fun e w' => e = .returned (.bool true) ∧ Below w.heap.size w w' := by
  obtain ⟨a1, cap1, rfl, hcell⟩ := hrow
  have HC0 := hide hcell
  have HK := hide hK
  have hz := hide Tryd.zero24
  obtain ⟨M, hMM⟩ : ∃ M, Hid (ops.length = M) := ⟨_, rfl⟩
  rw [unhide hMM] at hM ⊢
  clear hcell hK
  go_enter Tryd.func4, Tryd.ntmps4
  go_wp2
  go_loopg [3, 4] M (fun k s3 s4 wr => ∃ (j L : Nat), Hid (j + k = M) ∧ s3 = .int .i64 (L : Int) ∧ s4 = .int .i64 (j : Int) ∧ Hid (tot ops j = L) ∧ L ≤ 281474976710656 ∧ wr = w)
  case atStart => exact ⟨0, 0, by unfold Hid; omega, rfl, rfl, rfl, by omega, rfl⟩
  case round =>
    obtain ⟨j, L, hj, rfl, rfl, hL, hL2, hw⟩ := hrel
    have hw := hw.symm
    subst hw
    by_cases hlt : j < M
    · by_cases hbig : L ≤ 16777216
      · obtain ⟨⟨hRd, hBk, hlen⟩, cb, co, rfl, hcb, hc0, hc1, hc2⟩ := unhide HC0 j (by rw [unhide hMM]; exact hlt)
        have hcat : Hid (tot ops (j + 1) = L + (ops.getD j Hop.zero).bs.length) := by rw [Hid, tot, unhide hL]
        have i0 : (0 : Int) ≤ (j : Int) := by omega
        have i1 : (j : Int) < (M : Int) := by omega
        have i2 : (L : Int) ≤ 16777216 := by omega
        generalize ops.getD j Hop.zero = q at hRd hBk hlen hcat hc0 hc1 hc2
        obtain ⟨qo, qk, qv, qb⟩ := q
        dsimp only at hlen hcat hRd hc0 hc1 hc2
        obtain ⟨qa, qcap, rfl⟩ := hRd.shapeR
        generalize qb.length = ql at hc2 hlen hcat
        clear hRd hBk hc0 hc1
        go_wp2
        go_roundg (gk - 1)
        case measure => have := unhide hj; omega
        case rel => exact ⟨j + 1, L + ql, by have := unhide hj; unfold Hid; omega, by go_num, by go_num, hcat, by omega, rfl⟩
      · have i1 : (j : Int) < (M : Int) := by omega
        have i2 : ¬ (L : Int) ≤ 16777216 := by omega
        have i3 : (16777216 : Int) < (L : Int) := by omega
        go_wp2
        go_ret
        exact ⟨rfl, Below.refl _ _⟩
    · have hjM : M = j := by have := unhide hj; omega
      subst hjM
      by_cases hbig : L ≤ 16777216
      · have i2 : (L : Int) ≤ 16777216 := by omega
        have i3 : ¬ (16777216 : Int) < (L : Int) := by omega
        have hcl : Hid (∀ i, i ≤ M → tot ops i ≤ 16777216) := fun i hi => by
          have := tot_mono ops i (M - i)
          rw [show i + (M - i) = M from by omega, unhide hL] at this
          omega
        clear hL hL2 hj hbig hlt
        go_wp2_with fail
        refine (new_any _).mono ?_
        rintro e w1 ⟨pa, rfl, hpa, hHa, hb1⟩
        have HPA : Hid (HP pa [] w1) := ⟨_, _, _, _, _, hHa, FD.start, TD.start⟩
        have HB1 := hide hb1
        clear hHa hb1
        go_wp2_with fail
        refine (new_any _).mono ?_
        rintro e w2 ⟨pb, rfl, hpb, hHb, hb2⟩
        have HPB : Hid (HP pb [] w2) := ⟨_, _, _, _, _, hHb, FD.start, TD.start⟩
        have HPA2 : Hid (HP pa [] w2) := (unhide HPA).keepB (hb2.block pa (unhide HPA).lt)
        have HPAlt := hide (unhide HPA).lt
        have HB2 := hide ((unhide HB1).trans (hb2.mono (unhide HB1).size))
        clear hHb hb2 HPA
        -- MAIN
        go_wp2
        have h0w := (unhide HK).2
        obtain ⟨P, hP0, hP1⟩ : ∃ P : Nat → Nat, P 0 = pa ∧ P 1 = pb := ⟨fun k => if k = 0 then pa else pb, rfl, rfl⟩
        subst hP0 hP1
        have hstart := hs_start (unhide HB2) (unhide HPA2) (unhide HPB) (unhide HPAlt) hpa hpb h0w (unhide HB1).size
        have HB2' := HB2
        obtain ⟨W, hWW⟩ : ∃ W, Hid (W = w2.alloc (.cells #[.slice none 0 0, .slice none 0 0] 33)) := ⟨_, rfl⟩
        rw [← unhide hWW] at hstart ⊢
        obtain ⟨q, hq⟩ : ∃ q, Hid (w2.heap.size = q) := ⟨_, rfl⟩
        rw [unhide hq] at hstart
        try rw [unhide hq]
        have hc : Hid (HC w W q P) := hstart.1
        have hS0 := hide hstart.2
        have hPp : Hid (∀ k, k < 2 → 0 < P k) := fun k hk => by have := ((unhide hc).pl k hk).1; omega
        clear hstart HPA2 HPB HPAlt HB2 HB2' HB1 hpa hpb
        go_loopg [8] M (fun k s8 wr => ∃ (j : Nat) (A : Nat → List Int) (V : Nat → Value), Hid (j + k = M) ∧ s8 = .int .i64 (j : Int) ∧ Hid ((A 0).length + (A 1).length ≤ tot ops j) ∧ Hid (∀ k, k < 2 → BOk (A k)) ∧ Hid (HS w W q P A A V wr))
        case atStart => exact ⟨0, fun _ => [], fun _ => .slice none 0 0, by unfold Hid; omega, rfl, Nat.le_refl _, fun k hk b hb => by simp at hb, hS0⟩
        case round =>
          obtain ⟨j, A, V, hj, rfl, hlA0, hBA, hS⟩ := hrel
          by_cases hlt : j < M
          · obtain ⟨⟨hRd, hBk, hlen⟩, cb, co, rfl, hcb, hc0, hc1, hc2⟩ := unhide HC0 j (by rw [unhide hMM]; exact hlt)
            have htot : Hid (tot ops (j + 1) = tot ops j + (ops.getD j Hop.zero).bs.length) := rfl
            have hlt1 : Hid ((A 0).length + (A 1).length ≤ tot ops (j + 1)) := by have := unhide htot; have := unhide hlA0; unfold Hid; omega
            have hlA : Hid ((A 0).length + (A 1).length + (ops.getD j Hop.zero).bs.length ≤ 16777216) := by have h1 := unhide hcl (j + 1) hlt; have := unhide htot; have := unhide hlA0; unfold Hid; omega
            have hc0 := ((unhide hS).bel.cell (p := ⟨cb, co + j * 3, none⟩) hcb).trans hc0
            have hc1 := ((unhide hS).bel.cell (p := ⟨cb, co + j * 3 + 1, none⟩) hcb).trans hc1
            have hc2 := ((unhide hS).bel.cell (p := ⟨cb, co + j * 3 + 2, none⟩) hcb).trans hc2
            have i0 : (0 : Int) ≤ (j : Int) := by omega
            have i1 : (j : Int) < (M : Int) := by omega
            generalize ops.getD j Hop.zero = o at hRd hBk hlen hc0 hc1 hc2 hlA htot
            obtain ⟨qo, qk, qv, qb⟩ := o
            dsimp only at hlen hRd hBk hc0 hc1 hc2 hlA htot
            obtain ⟨qa, qcap, rfl⟩ := hRd.shapeR
            have HRd := hide hRd
            have HBk := hide hBk
            obtain ⟨ql, hql⟩ : ∃ ql, Hid (qb.length = ql) := ⟨_, rfl⟩
            rw [unhide hql] at hc2 hlen hlA htot HRd
            clear hRd hBk
            go_wp2_with fail
            refine (pick_any qo _).mono ?_
            rintro e wz ⟨rfl, hwz⟩
            subst hwz
            have hmod : (qo % 2).toNat = 0 ∨ (qo % 2).toNat = 1 := by omega
            clear hc0 hc1 hc2
            rcases hmod with hkk | hkk
            · have hk0 : (qo % 2).toNat = 0 := by omega
              rw [hk0]
              by_cases hkd : qk = 1
              · subst hkd
                have hx1 : Hid (HS w W q P A A V (wr.alloc (.cells #[.int .i64 qo, .int .i64 1, .slice qa ql qcap] 30))) := (unhide hS).below (unhide hc) ((Below.refl _ _).alloc (Nat.le_refl _) _)
                have hC7 := hide (lent_pr (.slice qa ql qcap) qb (wr.alloc (.cells #[.int .i64 qo, .int .i64 1, .slice qa ql qcap] 30)) ((unhide HRd).below (unhide hx1).bel) (by have := unhide hlA; rw [unhide hql]; omega))
                have hob0 : Hid ((wr.alloc (.cells #[.int .i64 qo, .int .i64 1, .slice qa ql qcap] 30)).cell? ⟨wr.heap.size, 2, none⟩ = some (.slice qa ql qcap)) := by
                  rw [Hid, cell_of_row _ _ 2 _ 30 (0, 0) (heap_alloc_last wr _)]
                  rfl
                have hobl : Hid (wr.heap.size < (wr.alloc (.cells #[.int .i64 qo, .int .i64 1, .slice qa ql qcap] 30)).heap.size) := by rw [Hid]; simp
                have hVl : Hid (∀ k g, k < 2 → (V k).ownBlock = some g → g < wr.heap.size) := fun k g hk hg => ((unhide hS).own k hk |>.lt g hg).2
                have hqw : Hid (W.heap.size ≤ wr.heap.size) := (unhide hS).fr
                go_wp2_with fail
                generalize (wr.alloc (.cells #[.int .i64 qo, .int .i64 1, .slice qa ql qcap] 30)) = wa at *
                generalize wr.heap.size = ob at *
                refine (unhide hC7).mono ?_
                rintro e w3 ⟨v', rfl, hG3⟩
                have hlm : (qb ++ marks 64).length = ql + 64 := by rw [List.length_append, marks_length, unhide hql]
                obtain ⟨g, cap', rfl, hg0, hg1, hcap, hcm, hseg⟩ := own_at hG3.1 (by rw [hlm]; omega)
                rw [hlm] at hcap ⊢
                have hS3 := hide ((unhide hx1).below (unhide hc) hG3.2)
                have hob3 : w3.cell? ⟨ob, 2, none⟩ = some (.slice qa ql qcap) := (World.cell?_of_block (hG3.2.block ob (unhide hobl))).trans (unhide hob0)
                have hgp : Hid (∀ k, k < 2 → P k ≠ g) := fun k hk e => by have := ((unhide hc).pl k hk).2; have := unhide hobl; have := unhide hqw; omega
                have hgq : Hid (q ≠ g) := fun e => by have := (unhide hc).ql.2; have := unhide hobl; have := unhide hqw; omega
                have hgo : Hid (ob ≠ g) := fun e => by have := unhide hobl; omega
                have hin3 : Rd w3 (.slice (some ⟨g, 0, none⟩) ql cap') qb := by
                  have := hseg.rd ql cap' (by rw [hlm]; omega) (by omega) hcm hg1
                  rw [List.take_append_of_le_length (by rw [unhide hql]; exact Nat.le_refl _), List.take_of_length_le (by rw [unhide hql]; exact Nat.le_refl _)] at this
                  exact this
                have hC15 := hide (write_hp (P 0) (A 0) (.slice (some ⟨g, 0, none⟩) ql cap') qb w3 ((unhide hS3).hp 0 (by omega)) hin3 (fun b off n c e h => by
                  simp only [Value.slice.injEq, Option.some.injEq, Addr.mk.injEq] at e
                  exact unhide hgp 0 (by omega) (by omega)) ((unhide HK).below (unhide HK).2 (unhide hS3).bel) (unhide HBk) (unhide hPp 0 (by omega)) (by have := unhide hlA; rw [unhide hql]; omega) (by rw [unhide hql]; omega))
                have HSG := hide hseg
                have HLM := hide hlm
                have HG := hide (And.intro hg0 hg1)
                have hcapi : (ql : Int) ≤ (cap' : Int) := by omega
                have Hcap := hide hcap
                have hcz : ql + 64 ≤ cap' := hcap
                clear hG3 hseg hlm hin3 hg0 hg1 hC7 hcap
                go_wp2_with fail
                refine (unhide hC15).mono ?_
                rintro e w4 ⟨rfl, hH4, hF4⟩
                have hS4 := hide ((unhide hS3).hashed (unhide hc) (k := 0) (by omega) hH4 hF4)
                have hob4 : w4.cell? ⟨ob, 2, none⟩ = some (.slice qa ql qcap) := (World.cell?_of_block (hF4.block ob (by have := unhide hobl; have := (unhide HG).1; have := (unhide HG).2; omega) (fun e => by have := ((unhide hc).pl 0 (by omega)).2; have := unhide hqw; omega))).trans hob3
                have HS4 : Hid (Seg w4 g 0 .u8 (qb ++ marks 64)) := (unhide HSG).keepB (hF4.block g (unhide HG).2 (fun e => unhide hgp 0 (by omega) e.symm))
                have hg4 : Hid (g < w4.heap.size) := Nat.lt_of_lt_of_le (unhide HG).2 hF4.size
                have hL4 : Rd w4 (.slice (some ⟨g, 0, none⟩) (ql + 64) cap') (qb ++ marks 64) := by
                  have := (unhide HS4).rd (ql + 64) cap' (by rw [unhide HLM]; exact Nat.le_refl _) (unhide Hcap) hcm (unhide hg4)
                  rw [List.take_of_length_le (by rw [unhide HLM]; exact Nat.le_refl _)] at this
                  exact this
                have hC10 := hide (kept_pr (.slice (some ⟨g, 0, none⟩) (ql + 64) cap') (.slice qa ql qcap) qb w4 hL4 ((unhide HRd).below (unhide hS4).bel) (by have := unhide hlA; rw [unhide hql]; omega))
                have hob4' := hide hob4
                clear hob3 hC15 hH4 hF4 hL4 hS3 HSG hS hx1 hob0
                go_wp2_with fail
                refine (unhide hC10).mono ?_
                rintro e w5 ⟨rfl, hw5⟩
                have hw5 := hw5.symm
                subst hw5
                clear hC10 hob4
                obtain ⟨G, hG⟩ : ∃ G, Hid (G = gk) := ⟨_, rfl⟩
                go_wp2
                go_loopg [14] (ql + 64) (fun k s wr => ∃ (i : Nat) (xs : List Int), Hid (i + k = ql + 64) ∧ s = .int .i64 (i : Int) ∧ Hid (xs.length = ql + 64) ∧ Hid (Seg wr g 0 .u8 xs) ∧ Hid (Fr (fun k => k = g) w4 wr))
                case atStart => exact ⟨0, qb ++ marks 64, by unfold Hid; omega, rfl, HLM, HS4, Fr.refl _ _⟩
                case round =>
                  obtain ⟨i, xs, hi, rfl, hxs, hGs, hW⟩ := hrel
                  by_cases hlti : i < ql + 64
                  · have hc1 := (unhide hGs).cell i (by rw [unhide hxs]; omega)
                    have hf1 := (unhide hGs).frz i (by rw [unhide hxs]; omega)
                    rw [Nat.zero_add] at hc1 hf1
                    generalize xs.getD i 0 = o1 at *
                    have i1 : (0 : Int) ≤ (i : Int) := by omega
                    have i2 : (i : Int) < (ql : Int) + 64 := by omega
                    have hst : ∀ y, Hid (Seg (wr.setCell ⟨g, i, none⟩ (.int .u8 y)) g 0 .u8 (xs.set i y) ∧ Fr (fun k => k = g) w4 (wr.setCell ⟨g, i, none⟩ (.int .u8 y))) := fun y => by
                      have h1 := (unhide hGs).set i (by rw [unhide hxs]; omega) y
                      rw [Nat.zero_add] at h1
                      exact ⟨h1, (unhide hW).setCell ⟨g, i, none⟩ (.inr rfl) _⟩
                    go_wp2
                    go_roundg (gk - 1)
                    case measure => have := unhide hi; omega
                    case rel => exact ⟨i + 1, xs.set i _, by have := unhide hi; unfold Hid; omega, by go_num, by rw [Hid, List.length_set]; exact unhide hxs, (unhide (hst _)).1, (unhide (hst _)).2⟩
                  · have hie : ql + 64 = i := by have := unhide hi; omega
                    have i2 : ¬ (i : Int) < (ql : Int) + 64 := by omega
                    have hS5 : HS w W q P (upd A 0 (A 0 ++ qb)) A V wr := (unhide hS4).fr_of (unhide hc) (unhide hW) (fun k hk => unhide hgp k hk) (unhide hgq) (fun k b hk hb e => by have := unhide hVl k b hk hb; have := unhide hobl; have := (unhide HG).1; omega) (fun b hb e => by have := ((unhide hc).pl 0 (by omega)).1; have := ((unhide hc).pl 0 (by omega)).2; have := unhide hqw; have := unhide hobl; have := (unhide HG).1; omega)
                    have hob5 : wr.cell? ⟨ob, 2, none⟩ = some (.slice qa ql qcap) := (World.cell?_of_block ((unhide hW).block ob (by have := unhide hobl; have := (unhide HG).1; have := unhide hg4; omega) (unhide hgo))).trans (unhide hob4')
                    have hS6 := hide (hS5.below (unhide hc) ((Below.refl _ _).drew))
                    have hpr6 : Hid (PR wr.drew (.slice qa ql qcap) qb) := (unhide HRd).below (unhide hS6).bel
                    have hob6 : wr.drew.cell? ⟨ob, 2, none⟩ = some (.slice qa ql qcap) := hob5
                    have hobW : Hid (ob < wr.drew.heap.size ∧ (∀ k g, k < 2 → (V k).ownBlock = some g → g < ob) ∧ W.heap.size ≤ ob) := ⟨by have := unhide hobl; have := (unhide HG).1; have := unhide hg4; have := (unhide hW).size; show ob < wr.heap.size; omega, unhide hVl, unhide hqw⟩
                    clear hie hS5 hS4 HS4 hW hGs hxs
                    go_wp2_with fail
                    refine wp_region_held_drew (S := fun wx => wx.cell? ⟨ob, 2, none⟩ = some (.slice qa ql qcap)) (by kernel_rfl) hob6 (fun hHeld => ?_)
                    generalize wr.drew = wd at *
                    refine wpAnyH_take (i := 0) (oi := _) (v := .int .i64 0) rfl (by kernel_rfl) (by kernel_rfl) (by kernel_rfl) (fun _ _ _ h => h) (Or.inl ⟨by rfl, (by intro w hSw; go_simp)⟩) (by assumption) ?_
                    refine wpAnyH_take (i := 1) (oi := _) (v := .int .i64 0) rfl (by kernel_rfl) (by kernel_rfl) (by kernel_rfl) (fun _ _ _ h => h) (Or.inl ⟨by rfl, (by intro w hSw; go_simp)⟩) (by assumption) ?_
                    refine wpAnyH_take (i := 2) (oi := _) (v := .pointer (some ⟨q, 0, none⟩)) rfl (by kernel_rfl) (by kernel_rfl) (by kernel_rfl) (fun _ _ _ h => h) (Or.inl ⟨by rfl, (by intro w hSw; go_simp)⟩) (by assumption) ?_
                    go_simp
                    refine wpAnyH_take (i := 4) (oi := _) (v := .pointer (some ⟨ob, 2, none⟩)) rfl (by kernel_rfl) (by kernel_rfl) (by kernel_rfl) (fun _ _ _ h => h) (Or.inl ⟨by rfl, (by intro w hSw; go_simp)⟩) (by assumption) ?_
                    refine wpAnyH_take (i := 5) (oi := _) (v := .slice qa ql qcap) rfl (by kernel_rfl) (by kernel_rfl) (by kernel_rfl) (fun _ _ _ h => h) (Or.inl ⟨by rfl, (by intro w hSw; have hcc := hSw; clear hSw; go_simp)⟩) (by assumption) ?_
                    go_simp
                    refine wpAnyH_ready (rs := [3]) (by kernel_rfl) (by simp) ?_
                    refine AllReadyH.cons (o := _) rfl (fun K hK => ?_) AllReadyH.nil
                    have hcq := (unhide hS6).cell 0 (by omega)
                    go_simp
                    refine hK.out _ _ hob6 (fun _ => ?_)
                    clear hK K hcq
                    refine wpAnyH_ready (rs := [6]) (by kernel_rfl) (by simp) ?_
                    refine AllReadyH.cons (o := _) rfl (fun K hK => ?_) AllReadyH.nil
                    refine step_append_pc rfl _ _ rfl W.heap.size (V 0) (.slice qa ql qcap) (A 0) qb rfl rfl ((unhide hS6).own 0 (by omega)) (unhide hpr6) (by have := unhide hlA; rw [unhide hql]; omega) (unhide hS6).fr ?_
                    intro v9 w9 hown9 hg9 hat9
                    obtain ⟨a9, cap9, hv9⟩ := (Rd.of_own hown9).shapeR
                    obtain ⟨n9, hn9⟩ : ∃ n9, Hid ((A 0 ++ qb).length = n9) := ⟨_, rfl⟩
                    rw [unhide hn9] at hv9
                    subst hv9
                    have hob9 : w9.cell? ⟨ob, 2, none⟩ = some (.slice qa ql qcap) := (World.cell?_of_block (hg9.block ob (unhide hobW).1 (fun e => by have := (unhide hobW).2.1 0 ob (by omega) e.symm; omega))).trans hob6
                    refine hK.out _ _ hob9 (fun hHeld9 => ?_)
                    clear hK K
                    refine wpAnyH_take (i := 7) (oi := _) (v := .pointer (some ⟨q, 0, none⟩)) rfl (by kernel_rfl) (by kernel_rfl) (by kernel_rfl) (fun _ _ _ h => h) (Or.inl ⟨by rfl, (by intro w hSw; go_simp)⟩) (by assumption) ?_
                    go_simp
                    have hS9 := (unhide hS6).appended (unhide hc) (k := 0) (by omega) hown9 hg9 hat9
                    have hcq9 : w9.cell? ⟨q, 0, none⟩ = some (V 0) := (World.cell?_of_block (hg9.block q (by have := (unhide hc).ql.2; have := (unhide hS6).fr; omega) (fun e => by have := ((unhide hS6).own 0 (by omega) |>.lt q e.symm).1; have := (unhide hc).ql.2; omega))).trans ((unhide hS6).cell 0 (by omega))
                    have hfq9 : w9.frozen? ⟨q, 0, none⟩ = false := (World.frozen?_of_block (hg9.block q (by have := (unhide hc).ql.2; have := (unhide hS6).fr; omega) (fun e => by have := ((unhide hS6).own 0 (by omega) |>.lt q e.symm).1; have := (unhide hc).ql.2; omega))).trans ((unhide hS6).frz 0 (by omega))
                    refine wpAnyH_ready (rs := [8]) (by kernel_rfl) (by simp) ?_
                    refine AllReadyH.cons (o := _) rfl (fun K hK => ?_) AllReadyH.nil
                    go_simp
                    have hobz : (w9.setCell ⟨q, 0, none⟩ (.slice a9 n9 cap9)).cell? ⟨ob, 2, none⟩ = some (.slice qa ql qcap) := by
                      rw [World.cell?_setCell_other _ _ _ _ (fun e => by have e2 : q = ob := congrArg Addr.block e; have := (unhide hobW).2.2; have := (unhide hc).ql.2; omega)]
                      exact hob9
                    refine hK.out _ _ hobz (fun _ => ?_)
                    clear hK K
                    refine wpAnyH_done (by kernel_rfl) ?_ _
                    have HS9 := hide hS9
                    have hlen9 : Hid ((upd A 0 (A 0 ++ qb) 0).length + (upd A 0 (A 0 ++ qb) 1).length ≤ tot ops (j + 1)) := by
                      have h1 := unhide hlA0
                      have h2 := unhide htot
                      have h3 := unhide hql
                      rw [Hid]
                      unfold upd
                      simp
                      omega
                    have hbok9 : Hid (∀ k, k < 2 → BOk (upd A 0 (A 0 ++ qb) k)) := fun k hk => by
                      by_cases e : k = 0
                      · subst e
                        rw [upd_at]
                        intro b hb
                        rcases List.mem_append.1 hb with hb | hb
                        · exact unhide hBA 0 (by omega) b hb
                        · exact unhide HBk b hb
                      · rw [upd_ne _ _ e]
                        exact unhide hBA k hk
                    clear hS9 hown9 hg9 hat9 hHeld9 hob9 hcq9 hfq9 hobz hHeld hob6 hS6 hpr6 hobW
                    go_simp
                    go_wp2
                    go_roundg (G - 1)
                    case measure => have := unhide hj; have := unhide hG; omega
                    case rel => exact ⟨j + 1, upd A 0 (A 0 ++ qb), upd V 0 (.slice a9 n9 cap9), by have := unhide hj; have := unhide hG; unfold Hid; omega, by go_num, hlen9, hbok9, HS9⟩
              · obtain ⟨D0, hF0⟩ : ∃ D, digF (A 0) = D := ⟨_, rfl⟩
                have hD0 : Hid (D0.length = 32) := by rw [Hid, ← hF0]; exact digF_len _
                have hCh0 := fun (wx : World) (h : HS w W q P A A V wx) => hsum_hp (P 0) (A 0) wx (h.hp 0 (by omega)) ((unhide HK).below (unhide HK).2 h.bel) (unhide hPp 0 (by omega)) (by have := unhide hlA; omega)
                rw [hF0] at hCh0
                have hCh0 := hide hCh0
                have hCd0 := fun (wx : World) (h : HS w W q P A A V wx) => rsum_any (V 0) (A 0) wx (Rd.of_own (h.own 0 (by omega))) (unhide hBA 0 (by omega)) (by have := unhide hlA; omega)
                rw [same_sum, hF0] at hCd0
                have hCd0 := hide hCd0
                have eq0 := arr_eql D0 (unhide hD0)
                clear hF0
                have ekd : (qk != 1) = true := by rw [bne_iff_ne]; exact hkd
                go_wp2_with fail
                have hSd : HS w W q P A A V (wr.alloc (.cells #[.int .i64 qo, .int .i64 qk, .slice qa ql qcap] 30)).drew := (unhide hS).below (unhide hc) (((Below.refl _ _).alloc (Nat.le_refl _) _).drew)
                refine wp_region_held_drew (S := HS w W q P A A V) (by kernel_rfl) hSd (fun hHeld => ?_)
                clear hSd
                generalize (wr.alloc (.cells #[.int .i64 qo, .int .i64 qk, .slice qa ql qcap] 30)).drew = wd at *
                refine wpAnyH_take (i := 0) (oi := _) (v := .pointer (some ⟨P 0, 0, none⟩)) rfl (by kernel_rfl) (by kernel_rfl) (by kernel_rfl) (fun _ _ _ h => h) (Or.inl ⟨by rfl, (by intro w hSw; go_simp)⟩) (by assumption) ?_
                refine wpAnyH_take (i := 2) (oi := _) (v := .int .i64 0) rfl (by kernel_rfl) (by kernel_rfl) (by kernel_rfl) (fun _ _ _ h => h) (Or.inl ⟨by rfl, (by intro w hSw; go_simp)⟩) (by assumption) ?_
                refine wpAnyH_take (i := 3) (oi := _) (v := .pointer (some ⟨q, 0, none⟩)) rfl (by kernel_rfl) (by kernel_rfl) (by kernel_rfl) (fun _ _ _ h => h) (Or.inl ⟨by rfl, (by intro w hSw; go_simp)⟩) (by assumption) ?_
                go_simp
                refine wpAnyH_take (i := 4) (oi := _) (v := V 0) rfl (by kernel_rfl) (by kernel_rfl) (by kernel_rfl) (fun _ _ _ h => h) (Or.inl ⟨by rfl, (by intro w hSw; have hcc := hSw.cell 0 (by omega); clear hSw; go_simp)⟩) (by assumption) ?_
                go_simp
                refine wpAnyH_ready (rs := [1]) (by kernel_rfl) (by simp) ?_
                refine AllReadyH.cons (o := _) rfl (fun K hK => ?_) AllReadyH.nil
                go_simp
                refine (unhide hCh0 _ hHeld).mono ?_
                rintro e wx ⟨rfl, hHx, hFx⟩
                have hT1 := hHeld.summed (unhide hc) (k := 0) (by omega) hHx hFx
                clear hHx hFx
                go_simp
                refine hK.out _ _ hT1 (fun _ => ?_)
                clear hK K
                refine wpAnyH_ready (rs := [5]) (by kernel_rfl) (by simp) ?_
                refine AllReadyH.cons (o := _) rfl (fun K hK => ?_) AllReadyH.nil
                go_simp
                refine (unhide hCd0 _ hT1).mono ?_
                rintro e wx ⟨rfl, hFx⟩
                have hT2 := hT1.below (unhide hc) hFx
                clear hFx
                go_simp
                refine hK.out _ _ hT2 (fun _ => ?_)
                clear hK K
                clear hT1
                refine wpAnyH_take (i := 6) (oi := _) (v := .bool false) rfl (by kernel_rfl) (by kernel_rfl) (by kernel_rfl) (fun _ _ _ h => h) (Or.inl ⟨by rfl, (by intro w hSw; go_simp)⟩) (by assumption) ?_
                refine wpAnyH_done (by kernel_rfl) ?_ _
                have HS9 := hide hT2
                clear hT2 hHeld
                go_simp
                go_wp2
                go_roundg (gk - 1)
                case measure => have := unhide hj; omega
                case rel => exact ⟨j + 1, A, V, by have := unhide hj; unfold Hid; omega, by go_num, by have := unhide hlt1; unfold Hid; omega, hBA, HS9⟩
            · have hk1 : (qo % 2).toNat = 1 := by omega
              rw [hk1]
              by_cases hkd : qk = 1
              · subst hkd
                have hx1 : Hid (HS w W q P A A V (wr.alloc (.cells #[.int .i64 qo, .int .i64 1, .slice qa ql qcap] 30))) := (unhide hS).below (unhide hc) ((Below.refl _ _).alloc (Nat.le_refl _) _)
                have hC7 := hide (lent_pr (.slice qa ql qcap) qb (wr.alloc (.cells #[.int .i64 qo, .int .i64 1, .slice qa ql qcap] 30)) ((unhide HRd).below (unhide hx1).bel) (by have := unhide hlA; rw [unhide hql]; omega))
                have hob0 : Hid ((wr.alloc (.cells #[.int .i64 qo, .int .i64 1, .slice qa ql qcap] 30)).cell? ⟨wr.heap.size, 2, none⟩ = some (.slice qa ql qcap)) := by
                  rw [Hid, cell_of_row _ _ 2 _ 30 (0, 0) (heap_alloc_last wr _)]
                  rfl
                have hobl : Hid (wr.heap.size < (wr.alloc (.cells #[.int .i64 qo, .int .i64 1, .slice qa ql qcap] 30)).heap.size) := by rw [Hid]; simp
                have hVl : Hid (∀ k g, k < 2 → (V k).ownBlock = some g → g < wr.heap.size) := fun k g hk hg => ((unhide hS).own k hk |>.lt g hg).2
                have hqw : Hid (W.heap.size ≤ wr.heap.size) := (unhide hS).fr
                go_wp2_with fail
                generalize (wr.alloc (.cells #[.int .i64 qo, .int .i64 1, .slice qa ql qcap] 30)) = wa at *
                generalize wr.heap.size = ob at *
                refine (unhide hC7).mono ?_
                rintro e w3 ⟨v', rfl, hG3⟩
                have hlm : (qb ++ marks 64).length = ql + 64 := by rw [List.length_append, marks_length, unhide hql]
                obtain ⟨g, cap', rfl, hg0, hg1, hcap, hcm, hseg⟩ := own_at hG3.1 (by rw [hlm]; omega)
                rw [hlm] at hcap ⊢
                have hS3 := hide ((unhide hx1).below (unhide hc) hG3.2)
                have hob3 : w3.cell? ⟨ob, 2, none⟩ = some (.slice qa ql qcap) := (World.cell?_of_block (hG3.2.block ob (unhide hobl))).trans (unhide hob0)
                have hgp : Hid (∀ k, k < 2 → P k ≠ g) := fun k hk e => by have := ((unhide hc).pl k hk).2; have := unhide hobl; have := unhide hqw; omega
                have hgq : Hid (q ≠ g) := fun e => by have := (unhide hc).ql.2; have := unhide hobl; have := unhide hqw; omega
                have hgo : Hid (ob ≠ g) := fun e => by have := unhide hobl; omega
                have hin3 : Rd w3 (.slice (some ⟨g, 0, none⟩) ql cap') qb := by
                  have := hseg.rd ql cap' (by rw [hlm]; omega) (by omega) hcm hg1
                  rw [List.take_append_of_le_length (by rw [unhide hql]; exact Nat.le_refl _), List.take_of_length_le (by rw [unhide hql]; exact Nat.le_refl _)] at this
                  exact this
                have hC15 := hide (write_hp (P 1) (A 1) (.slice (some ⟨g, 0, none⟩) ql cap') qb w3 ((unhide hS3).hp 1 (by omega)) hin3 (fun b off n c e h => by
                  simp only [Value.slice.injEq, Option.some.injEq, Addr.mk.injEq] at e
                  exact unhide hgp 1 (by omega) (by omega)) ((unhide HK).below (unhide HK).2 (unhide hS3).bel) (unhide HBk) (unhide hPp 1 (by omega)) (by have := unhide hlA; rw [unhide hql]; omega) (by rw [unhide hql]; omega))
                have HSG := hide hseg
                have HLM := hide hlm
                have HG := hide (And.intro hg0 hg1)
                have hcapi : (ql : Int) ≤ (cap' : Int) := by omega
                have Hcap := hide hcap
                have hcz : ql + 64 ≤ cap' := hcap
                clear hG3 hseg hlm hin3 hg0 hg1 hC7 hcap
                go_wp2_with fail
                refine (unhide hC15).mono ?_
                rintro e w4 ⟨rfl, hH4, hF4⟩
                have hS4 := hide ((unhide hS3).hashed (unhide hc) (k := 1) (by omega) hH4 hF4)
                have hob4 : w4.cell? ⟨ob, 2, none⟩ = some (.slice qa ql qcap) := (World.cell?_of_block (hF4.block ob (by have := unhide hobl; have := (unhide HG).1; have := (unhide HG).2; omega) (fun e => by have := ((unhide hc).pl 1 (by omega)).2; have := unhide hqw; omega))).trans hob3
                have HS4 : Hid (Seg w4 g 0 .u8 (qb ++ marks 64)) := (unhide HSG).keepB (hF4.block g (unhide HG).2 (fun e => unhide hgp 1 (by omega) e.symm))
                have hg4 : Hid (g < w4.heap.size) := Nat.lt_of_lt_of_le (unhide HG).2 hF4.size
                have hL4 : Rd w4 (.slice (some ⟨g, 0, none⟩) (ql + 64) cap') (qb ++ marks 64) := by
                  have := (unhide HS4).rd (ql + 64) cap' (by rw [unhide HLM]; exact Nat.le_refl _) (unhide Hcap) hcm (unhide hg4)
                  rw [List.take_of_length_le (by rw [unhide HLM]; exact Nat.le_refl _)] at this
                  exact this
                have hC10 := hide (kept_pr (.slice (some ⟨g, 0, none⟩) (ql + 64) cap') (.slice qa ql qcap) qb w4 hL4 ((unhide HRd).below (unhide hS4).bel) (by have := unhide hlA; rw [unhide hql]; omega))
                have hob4' := hide hob4
                clear hob3 hC15 hH4 hF4 hL4 hS3 HSG hS hx1 hob0
                go_wp2_with fail
                refine (unhide hC10).mono ?_
                rintro e w5 ⟨rfl, hw5⟩
                have hw5 := hw5.symm
                subst hw5
                clear hC10 hob4
                obtain ⟨G, hG⟩ : ∃ G, Hid (G = gk) := ⟨_, rfl⟩
                go_wp2
                go_loopg [14] (ql + 64) (fun k s wr => ∃ (i : Nat) (xs : List Int), Hid (i + k = ql + 64) ∧ s = .int .i64 (i : Int) ∧ Hid (xs.length = ql + 64) ∧ Hid (Seg wr g 0 .u8 xs) ∧ Hid (Fr (fun k => k = g) w4 wr))
                case atStart => exact ⟨0, qb ++ marks 64, by unfold Hid; omega, rfl, HLM, HS4, Fr.refl _ _⟩
                case round =>
                  obtain ⟨i, xs, hi, rfl, hxs, hGs, hW⟩ := hrel
                  by_cases hlti : i < ql + 64
                  · have hc1 := (unhide hGs).cell i (by rw [unhide hxs]; omega)
                    have hf1 := (unhide hGs).frz i (by rw [unhide hxs]; omega)
                    rw [Nat.zero_add] at hc1 hf1
                    generalize xs.getD i 0 = o1 at *
                    have i1 : (0 : Int) ≤ (i : Int) := by omega
                    have i2 : (i : Int) < (ql : Int) + 64 := by omega
                    have hst : ∀ y, Hid (Seg (wr.setCell ⟨g, i, none⟩ (.int .u8 y)) g 0 .u8 (xs.set i y) ∧ Fr (fun k => k = g) w4 (wr.setCell ⟨g, i, none⟩ (.int .u8 y))) := fun y => by
                      have h1 := (unhide hGs).set i (by rw [unhide hxs]; omega) y
                      rw [Nat.zero_add] at h1
                      exact ⟨h1, (unhide hW).setCell ⟨g, i, none⟩ (.inr rfl) _⟩
                    go_wp2
                    go_roundg (gk - 1)
                    case measure => have := unhide hi; omega
                    case rel => exact ⟨i + 1, xs.set i _, by have := unhide hi; unfold Hid; omega, by go_num, by rw [Hid, List.length_set]; exact unhide hxs, (unhide (hst _)).1, (unhide (hst _)).2⟩
                  · have hie : ql + 64 = i := by have := unhide hi; omega
                    have i2 : ¬ (i : Int) < (ql : Int) + 64 := by omega
                    have hS5 : HS w W q P (upd A 1 (A 1 ++ qb)) A V wr := (unhide hS4).fr_of (unhide hc) (unhide hW) (fun k hk => unhide hgp k hk) (unhide hgq) (fun k b hk hb e => by have := unhide hVl k b hk hb; have := unhide hobl; have := (unhide HG).1; omega) (fun b hb e => by have := ((unhide hc).pl 0 (by omega)).1; have := ((unhide hc).pl 0 (by omega)).2; have := unhide hqw; have := unhide hobl; have := (unhide HG).1; omega)
                    have hob5 : wr.cell? ⟨ob, 2, none⟩ = some (.slice qa ql qcap) := (World.cell?_of_block ((unhide hW).block ob (by have := unhide hobl; have := (unhide HG).1; have := unhide hg4; omega) (unhide hgo))).trans (unhide hob4')
                    have hS6 := hide (hS5.below (unhide hc) ((Below.refl _ _).drew))
                    have hpr6 : Hid (PR wr.drew (.slice qa ql qcap) qb) := (unhide HRd).below (unhide hS6).bel
                    have hob6 : wr.drew.cell? ⟨ob, 2, none⟩ = some (.slice qa ql qcap) := hob5
                    have hobW : Hid (ob < wr.drew.heap.size ∧ (∀ k g, k < 2 → (V k).ownBlock = some g → g < ob) ∧ W.heap.size ≤ ob) := ⟨by have := unhide hobl; have := (unhide HG).1; have := unhide hg4; have := (unhide hW).size; show ob < wr.heap.size; omega, unhide hVl, unhide hqw⟩
                    clear hie hS5 hS4 HS4 hW hGs hxs
                    go_wp2_with fail
                    refine wp_region_held_drew (S := fun wx => wx.cell? ⟨ob, 2, none⟩ = some (.slice qa ql qcap)) (by kernel_rfl) hob6 (fun hHeld => ?_)
                    generalize wr.drew = wd at *
                    refine wpAnyH_take (i := 0) (oi := _) (v := .int .i64 1) rfl (by kernel_rfl) (by kernel_rfl) (by kernel_rfl) (fun _ _ _ h => h) (Or.inl ⟨by rfl, (by intro w hSw; go_simp)⟩) (by assumption) ?_
                    refine wpAnyH_take (i := 1) (oi := _) (v := .int .i64 1) rfl (by kernel_rfl) (by kernel_rfl) (by kernel_rfl) (fun _ _ _ h => h) (Or.inl ⟨by rfl, (by intro w hSw; go_simp)⟩) (by assumption) ?_
                    refine wpAnyH_take (i := 2) (oi := _) (v := .pointer (some ⟨q, 1, none⟩)) rfl (by kernel_rfl) (by kernel_rfl) (by kernel_rfl) (fun _ _ _ h => h) (Or.inl ⟨by rfl, (by intro w hSw; go_simp)⟩) (by assumption) ?_
                    go_simp
                    refine wpAnyH_take (i := 4) (oi := _) (v := .pointer (some ⟨ob, 2, none⟩)) rfl (by kernel_rfl) (by kernel_rfl) (by kernel_rfl) (fun _ _ _ h => h) (Or.inl ⟨by rfl, (by intro w hSw; go_simp)⟩) (by assumption) ?_
                    refine wpAnyH_take (i := 5) (oi := _) (v := .slice qa ql qcap) rfl (by kernel_rfl) (by kernel_rfl) (by kernel_rfl) (fun _ _ _ h => h) (Or.inl ⟨by rfl, (by intro w hSw; have hcc := hSw; clear hSw; go_simp)⟩) (by assumption) ?_
                    go_simp
                    refine wpAnyH_ready (rs := [3]) (by kernel_rfl) (by simp) ?_
                    refine AllReadyH.cons (o := _) rfl (fun K hK => ?_) AllReadyH.nil
                    have hcq := (unhide hS6).cell 1 (by omega)
                    go_simp
                    refine hK.out _ _ hob6 (fun _ => ?_)
                    clear hK K hcq
                    refine wpAnyH_ready (rs := [6]) (by kernel_rfl) (by simp) ?_
                    refine AllReadyH.cons (o := _) rfl (fun K hK => ?_) AllReadyH.nil
                    refine step_append_pc rfl _ _ rfl W.heap.size (V 1) (.slice qa ql qcap) (A 1) qb rfl rfl ((unhide hS6).own 1 (by omega)) (unhide hpr6) (by have := unhide hlA; rw [unhide hql]; omega) (unhide hS6).fr ?_
                    intro v9 w9 hown9 hg9 hat9
                    obtain ⟨a9, cap9, hv9⟩ := (Rd.of_own hown9).shapeR
                    obtain ⟨n9, hn9⟩ : ∃ n9, Hid ((A 1 ++ qb).length = n9) := ⟨_, rfl⟩
                    rw [unhide hn9] at hv9
                    subst hv9
                    have hob9 : w9.cell? ⟨ob, 2, none⟩ = some (.slice qa ql qcap) := (World.cell?_of_block (hg9.block ob (unhide hobW).1 (fun e => by have := (unhide hobW).2.1 1 ob (by omega) e.symm; omega))).trans hob6
                    refine hK.out _ _ hob9 (fun hHeld9 => ?_)
                    clear hK K
                    refine wpAnyH_take (i := 7) (oi := _) (v := .pointer (some ⟨q, 1, none⟩)) rfl (by kernel_rfl) (by kernel_rfl) (by kernel_rfl) (fun _ _ _ h => h) (Or.inl ⟨by rfl, (by intro w hSw; go_simp)⟩) (by assumption) ?_
                    go_simp
                    have hS9 := (unhide hS6).appended (unhide hc) (k := 1) (by omega) hown9 hg9 hat9
                    have hcq9 : w9.cell? ⟨q, 1, none⟩ = some (V 1) := (World.cell?_of_block (hg9.block q (by have := (unhide hc).ql.2; have := (unhide hS6).fr; omega) (fun e => by have := ((unhide hS6).own 1 (by omega) |>.lt q e.symm).1; have := (unhide hc).ql.2; omega))).trans ((unhide hS6).cell 1 (by omega))
                    have hfq9 : w9.frozen? ⟨q, 1, none⟩ = false := (World.frozen?_of_block (hg9.block q (by have := (unhide hc).ql.2; have := (unhide hS6).fr; omega) (fun e => by have := ((unhide hS6).own 1 (by omega) |>.lt q e.symm).1; have := (unhide hc).ql.2; omega))).trans ((unhide hS6).frz 1 (by omega))
                    refine wpAnyH_ready (rs := [8]) (by kernel_rfl) (by simp) ?_
                    refine AllReadyH.cons (o := _) rfl (fun K hK => ?_) AllReadyH.nil
                    go_simp
                    have hobz : (w9.setCell ⟨q, 1, none⟩ (.slice a9 n9 cap9)).cell? ⟨ob, 2, none⟩ = some (.slice qa ql qcap) := by
                      rw [World.cell?_setCell_other _ _ _ _ (fun e => by have e2 : q = ob := congrArg Addr.block e; have := (unhide hobW).2.2; have := (unhide hc).ql.2; omega)]
                      exact hob9
                    refine hK.out _ _ hobz (fun _ => ?_)
                    clear hK K
                    refine wpAnyH_done (by kernel_rfl) ?_ _
                    have HS9 := hide hS9
                    have hlen9 : Hid ((upd A 1 (A 1 ++ qb) 0).length + (upd A 1 (A 1 ++ qb) 1).length ≤ tot ops (j + 1)) := by
                      have h1 := unhide hlA0
                      have h2 := unhide htot
                      have h3 := unhide hql
                      rw [Hid]
                      unfold upd
                      simp
                      omega
                    have hbok9 : Hid (∀ k, k < 2 → BOk (upd A 1 (A 1 ++ qb) k)) := fun k hk => by
                      by_cases e : k = 1
                      · subst e
                        rw [upd_at]
                        intro b hb
                        rcases List.mem_append.1 hb with hb | hb
                        · exact unhide hBA 1 (by omega) b hb
                        · exact unhide HBk b hb
                      · rw [upd_ne _ _ e]
                        exact unhide hBA k hk
                    clear hS9 hown9 hg9 hat9 hHeld9 hob9 hcq9 hfq9 hobz hHeld hob6 hS6 hpr6 hobW
                    go_simp
                    go_wp2
                    go_roundg (G - 1)
                    case measure => have := unhide hj; have := unhide hG; omega
                    case rel => exact ⟨j + 1, upd A 1 (A 1 ++ qb), upd V 1 (.slice a9 n9 cap9), by have := unhide hj; have := unhide hG; unfold Hid; omega, by go_num, hlen9, hbok9, HS9⟩
              · obtain ⟨D1, hF1⟩ : ∃ D, digF (A 1) = D := ⟨_, rfl⟩
                have hD1 : Hid (D1.length = 32) := by rw [Hid, ← hF1]; exact digF_len _
                have hCh1 := fun (wx : World) (h : HS w W q P A A V wx) => hsum_hp (P 1) (A 1) wx (h.hp 1 (by omega)) ((unhide HK).below (unhide HK).2 h.bel) (unhide hPp 1 (by omega)) (by have := unhide hlA; omega)
                rw [hF1] at hCh1
                have hCh1 := hide hCh1
                have hCd1 := fun (wx : World) (h : HS w W q P A A V wx) => rsum_any (V 1) (A 1) wx (Rd.of_own (h.own 1 (by omega))) (unhide hBA 1 (by omega)) (by have := unhide hlA; omega)
                rw [same_sum, hF1] at hCd1
                have hCd1 := hide hCd1
                have eq1 := arr_eql D1 (unhide hD1)
                clear hF1
                have ekd : (qk != 1) = true := by rw [bne_iff_ne]; exact hkd
                go_wp2_with fail
                have hSd : HS w W q P A A V (wr.alloc (.cells #[.int .i64 qo, .int .i64 qk, .slice qa ql qcap] 30)).drew := (unhide hS).below (unhide hc) (((Below.refl _ _).alloc (Nat.le_refl _) _).drew)
                refine wp_region_held_drew (S := HS w W q P A A V) (by kernel_rfl) hSd (fun hHeld => ?_)
                clear hSd
                generalize (wr.alloc (.cells #[.int .i64 qo, .int .i64 qk, .slice qa ql qcap] 30)).drew = wd at *
                refine wpAnyH_take (i := 0) (oi := _) (v := .pointer (some ⟨P 1, 0, none⟩)) rfl (by kernel_rfl) (by kernel_rfl) (by kernel_rfl) (fun _ _ _ h => h) (Or.inl ⟨by rfl, (by intro w hSw; go_simp)⟩) (by assumption) ?_
                refine wpAnyH_take (i := 2) (oi := _) (v := .int .i64 1) rfl (by kernel_rfl) (by kernel_rfl) (by kernel_rfl) (fun _ _ _ h => h) (Or.inl ⟨by rfl, (by intro w hSw; go_simp)⟩) (by assumption) ?_
                refine wpAnyH_take (i := 3) (oi := _) (v := .pointer (some ⟨q, 1, none⟩)) rfl (by kernel_rfl) (by kernel_rfl) (by kernel_rfl) (fun _ _ _ h => h) (Or.inl ⟨by rfl, (by intro w hSw; go_simp)⟩) (by assumption) ?_
                go_simp
                refine wpAnyH_take (i := 4) (oi := _) (v := V 1) rfl (by kernel_rfl) (by kernel_rfl) (by kernel_rfl) (fun _ _ _ h => h) (Or.inl ⟨by rfl, (by intro w hSw; have hcc := hSw.cell 1 (by omega); clear hSw; go_simp)⟩) (by assumption) ?_
                go_simp
                refine wpAnyH_ready (rs := [1]) (by kernel_rfl) (by simp) ?_
                refine AllReadyH.cons (o := _) rfl (fun K hK => ?_) AllReadyH.nil
                go_simp
                refine (unhide hCh1 _ hHeld).mono ?_
                rintro e wx ⟨rfl, hHx, hFx⟩
                have hT1 := hHeld.summed (unhide hc) (k := 1) (by omega) hHx hFx
                clear hHx hFx
                go_simp
                refine hK.out _ _ hT1 (fun _ => ?_)
                clear hK K
                refine wpAnyH_ready (rs := [5]) (by kernel_rfl) (by simp) ?_
                refine AllReadyH.cons (o := _) rfl (fun K hK => ?_) AllReadyH.nil
                go_simp
                refine (unhide hCd1 _ hT1).mono ?_
                rintro e wx ⟨rfl, hFx⟩
                have hT2 := hT1.below (unhide hc) hFx
                clear hFx
                go_simp
                refine hK.out _ _ hT2 (fun _ => ?_)
                clear hK K
                clear hT1
                refine wpAnyH_take (i := 6) (oi := _) (v := .bool false) rfl (by kernel_rfl) (by kernel_rfl) (by kernel_rfl) (fun _ _ _ h => h) (Or.inl ⟨by rfl, (by intro w hSw; go_simp)⟩) (by assumption) ?_
                refine wpAnyH_done (by kernel_rfl) ?_ _
                have HS9 := hide hT2
                clear hT2 hHeld
                go_simp
                go_wp2
                go_roundg (gk - 1)
                case measure => have := unhide hj; omega
                case rel => exact ⟨j + 1, A, V, by have := unhide hj; unfold Hid; omega, by go_num, by have := unhide hlt1; unfold Hid; omega, hBA, HS9⟩
          · have hjM : M = j := by have := unhide hj; omega
            have i1 : ¬ (j : Int) < (M : Int) := by omega
            have hlA : Hid ((A 0).length + (A 1).length + 0 ≤ 16777216) := by have h1 := unhide hcl j (by omega); have := unhide hlA0; unfold Hid; omega
            obtain ⟨D0, hF0⟩ : ∃ D, digF (A 0) = D := ⟨_, rfl⟩
            have hD0 : Hid (D0.length = 32) := by rw [Hid, ← hF0]; exact digF_len _
            have hCh0 := fun (wx : World) (h : HS w W q P A A V wx) => hsum_hp (P 0) (A 0) wx (h.hp 0 (by omega)) ((unhide HK).below (unhide HK).2 h.bel) (unhide hPp 0 (by omega)) (by have := unhide hlA; omega)
            rw [hF0] at hCh0
            have hCh0 := hide hCh0
            have hCd0 := fun (wx : World) (h : HS w W q P A A V wx) => rsum_any (V 0) (A 0) wx (Rd.of_own (h.own 0 (by omega))) (unhide hBA 0 (by omega)) (by have := unhide hlA; omega)
            rw [same_sum, hF0] at hCd0
            have hCd0 := hide hCd0
            have eq0 := arr_eql D0 (unhide hD0)
            clear hF0
            obtain ⟨D1, hF1⟩ : ∃ D, digF (A 1) = D := ⟨_, rfl⟩
            have hD1 : Hid (D1.length = 32) := by rw [Hid, ← hF1]; exact digF_len _
            have hCh1 := fun (wx : World) (h : HS w W q P A A V wx) => hsum_hp (P 1) (A 1) wx (h.hp 1 (by omega)) ((unhide HK).below (unhide HK).2 h.bel) (unhide hPp 1 (by omega)) (by have := unhide hlA; omega)
            rw [hF1] at hCh1
            have hCh1 := hide hCh1
            have hCd1 := fun (wx : World) (h : HS w W q P A A V wx) => rsum_any (V 1) (A 1) wx (Rd.of_own (h.own 1 (by omega))) (unhide hBA 1 (by omega)) (by have := unhide hlA; omega)
            rw [same_sum, hF1] at hCd1
            have hCd1 := hide hCd1
            have eq1 := arr_eql D1 (unhide hD1)
            clear hF1
            go_wp2_with fail
            have hSd : HS w W q P A A V wr.drew := (unhide hS).below (unhide hc) ((Below.refl _ _).drew)
            refine wp_region_held_drew (S := HS w W q P A A V) (by kernel_rfl) hSd (fun hHeld => ?_)
            clear hSd
            generalize wr.drew = wd at *
            refine wpAnyH_take (i := 0) (oi := _) (v := .pointer (some ⟨P 0, 0, none⟩)) rfl (by kernel_rfl) (by kernel_rfl) (by kernel_rfl) (fun _ _ _ h => h) (Or.inl ⟨by rfl, (by intro w hSw; go_simp)⟩) (by assumption) ?_
            refine wpAnyH_take (i := 2) (oi := _) (v := .pointer (some ⟨q, 0, none⟩)) rfl (by kernel_rfl) (by kernel_rfl) (by kernel_rfl) (fun _ _ _ h => h) (Or.inl ⟨by rfl, (by intro w hSw; go_simp)⟩) (by assumption) ?_
            refine wpAnyH_take (i := 3) (oi := _) (v := V 0) rfl (by kernel_rfl) (by kernel_rfl) (by kernel_rfl) (fun _ _ _ h => h) (Or.inl ⟨by rfl, (by intro w hSw; have hcc := hSw.cell 0 (by omega); clear hSw; go_simp)⟩) (by assumption) ?_
            go_simp
            refine wpAnyH_ready (rs := [1]) (by kernel_rfl) (by simp) ?_
            refine AllReadyH.cons (o := _) rfl (fun K hK => ?_) AllReadyH.nil
            go_simp
            refine (unhide hCh0 _ hHeld).mono ?_
            rintro e wx ⟨rfl, hHx, hFx⟩
            have hT1 := hHeld.summed (unhide hc) (k := 0) (by omega) hHx hFx
            clear hHx hFx
            go_simp
            refine hK.out _ _ hT1 (fun _ => ?_)
            clear hK K
            refine wpAnyH_ready (rs := [4]) (by kernel_rfl) (by simp) ?_
            refine AllReadyH.cons (o := _) rfl (fun K hK => ?_) AllReadyH.nil
            go_simp
            refine (unhide hCd0 _ hT1).mono ?_
            rintro e wx ⟨rfl, hFx⟩
            have hT2 := hT1.below (unhide hc) hFx
            clear hFx
            go_simp
            refine hK.out _ _ hT2 (fun _ => ?_)
            clear hK K
            clear hT1
            refine wpAnyH_take (i := 5) (oi := _) (v := .bool true) rfl (by kernel_rfl) (by kernel_rfl) (by kernel_rfl) (fun _ _ _ h => h) (Or.inl ⟨by rfl, (by intro w hSw; go_simp)⟩) (by assumption) ?_
            refine wpAnyH_take (i := 6) (oi := _) (v := .bool true) rfl (by kernel_rfl) (by kernel_rfl) (by kernel_rfl) (fun _ _ _ h => h) (Or.inl ⟨by rfl, (by intro w hSw; go_simp)⟩) (by assumption) ?_
            go_simp
            refine wpAnyH_take (i := 7) (oi := _) (v := .pointer (some ⟨P 1, 0, none⟩)) rfl (by kernel_rfl) (by kernel_rfl) (by kernel_rfl) (fun _ _ _ h => h) (Or.inl ⟨by rfl, (by intro w hSw; go_simp)⟩) (by assumption) ?_
            refine wpAnyH_take (i := 9) (oi := _) (v := .pointer (some ⟨q, 1, none⟩)) rfl (by kernel_rfl) (by kernel_rfl) (by kernel_rfl) (fun _ _ _ h => h) (Or.inl ⟨by rfl, (by intro w hSw; go_simp)⟩) (by assumption) ?_
            refine wpAnyH_take (i := 10) (oi := _) (v := V 1) rfl (by kernel_rfl) (by kernel_rfl) (by kernel_rfl) (fun _ _ _ h => h) (Or.inl ⟨by rfl, (by intro w hSw; have hcc := hSw.cell 1 (by omega); clear hSw; go_simp)⟩) (by assumption) ?_
            go_simp
            refine wpAnyH_ready (rs := [8]) (by kernel_rfl) (by simp) ?_
            refine AllReadyH.cons (o := _) rfl (fun K hK => ?_) AllReadyH.nil
            go_simp
            refine (unhide hCh1 _ hT2).mono ?_
            rintro e wx ⟨rfl, hHx, hFx⟩
            have hT1 := hT2.summed (unhide hc) (k := 1) (by omega) hHx hFx
            clear hHx hFx
            go_simp
            refine hK.out _ _ hT1 (fun _ => ?_)
            clear hK K
            refine wpAnyH_ready (rs := [11]) (by kernel_rfl) (by simp) ?_
            refine AllReadyH.cons (o := _) rfl (fun K hK => ?_) AllReadyH.nil
            go_simp
            refine (unhide hCd1 _ hT1).mono ?_
            rintro e wx ⟨rfl, hFx⟩
            have hT2 := hT1.below (unhide hc) hFx
            clear hFx
            go_simp
            refine hK.out _ _ hT2 (fun _ => ?_)
            clear hK K
            clear hT1
            refine wpAnyH_take (i := 12) (oi := _) (v := .bool true) rfl (by kernel_rfl) (by kernel_rfl) (by kernel_rfl) (fun _ _ _ h => h) (Or.inl ⟨by rfl, (by intro w hSw; go_simp)⟩) (by assumption) ?_
            refine wpAnyH_take (i := 13) (oi := _) (v := .bool true) rfl (by kernel_rfl) (by kernel_rfl) (by kernel_rfl) (fun _ _ _ h => h) (Or.inl ⟨by rfl, (by intro w hSw; go_simp)⟩) (by assumption) ?_
            refine wpAnyH_take (i := 14) (oi := _) (v := .bool true) rfl (by kernel_rfl) (by kernel_rfl) (by kernel_rfl) (fun _ _ _ h => h) (Or.inl ⟨by rfl, (by intro w hSw; go_simp)⟩) (by assumption) ?_
            refine wpAnyH_done (by kernel_rfl) ?_ _
            have HS9 := hide hT2
            clear hT2 hHeld
            go_simp
            go_wp2
            go_ret
            exact ⟨rfl, (unhide HS9).bel⟩
        -- END
      · have i3 : (16777216 : Int) < (L : Int) := by omega
        go_wp2
        go_ret
        exact ⟨rfl, Below.refl _ _⟩
end Go.Proofs.YtlkcjimkgebeiaaDoor
