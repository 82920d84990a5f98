/-
  The document's reader: Raw.
-/
import Derived.Test.YtnfinplkeefdgaaOpened
namespace Go.Proofs.Ytnfinplkeefdgaa
open Go.RowKit

set_option maxHeartbeats 1600000 in
set_option maxRecDepth 100000 in
theorem refRaw_bad (q : Nat) {qb : Nat} (v : Value) (B : List Int) (pl : Nat) (e0 n : Int) (w : World) (h : RefR w q qb v B pl e0) (hN : B.length ≤ 140737488355328) (hbad : e0 ≠ 0 ∨ n < 0 ∨ ((B.drop pl).length : Int) < n) :
    Calls Try.prog 67 #[.pointer (some ⟨q, 0, none⟩), .int .i64 n] w fun e w' => RefPost q qb v B w (.slice none 0 0, B.drop pl, rawErr n e0) e w' := by
  obtain ⟨a, cap, rfl⟩ := h.rd.shapeR
  have c0 := h.c0
  have c1 := h.c1
  have c2 := h.c2
  have f2 := h.f2
  have hle := h.le
  by_cases he : e0 = 0
  · subst he
    by_cases hn : n < 0
    · rw [show rawErr n 0 = 1 from by unfold rawErr; rw [if_pos rfl, if_pos hn]]
      have HM := hide (h.err 1)
      clear h hbad
      go_enter Try.func67, Try.ntmps67
      go_wp2
      go_ret
      exact ⟨rfl, pl, (unhide HM).1, rfl, (unhide HM).2⟩
    · rw [show rawErr n 0 = 2 from by unfold rawErr; rw [if_pos rfl, if_neg hn]]
      have HM := hide (fun m => (h.drewN m).err 2)
      have hlt : (B.length : Int) - (pl : Int) < n := by
        rcases hbad with k | k | k
        · exact absurd rfl k
        · exact absurd k hn
        · rw [List.length_drop] at k; omega
      have hn' : decide (n < 0) = false := decide_eq_false hn
      clear h hbad hn
      generalize B.length = N at *
      go_enter Try.func67, Try.ntmps67
      go_wp2
      go_quiet (fail)
      go_wp2
      go_ret
      exact ⟨rfl, pl, (unhide HM _).1, rfl, (Fr.drewN _).trans (unhide HM _).2⟩
  · rw [show rawErr n e0 = e0 from if_neg he]
    have q0 : (e0 != 0) = true := by rw [bne_iff_ne]; exact he
    have H := hide h
    clear h he hbad
    go_enter Try.func67, Try.ntmps67
    go_wp2
    go_ret
    exact ⟨rfl, pl, unhide H, rfl, RFr.refl _ _⟩

theorem own_set {w : World} {base : Nat} {v : Value} {n : Nat} {xs : List Value} (h : w.ownsRow base 5 1 v n xs) (p : Addr) (hp : p.block < base) (u : Value) : (w.setCell p u).ownsRow base 5 1 v n xs := by
  refine ⟨h.1, ?_⟩
  rcases h.2 with h0 | ⟨g, cap, cur, rfl, hb, hg, hn, hc, hs, ht⟩
  · exact .inl h0
  · exact .inr ⟨g, cap, cur, rfl, hb, by rw [Below.heap_setCell _ _ _ _ (by omega)]; exact hg, hn, hc, hs, ht⟩

set_option maxHeartbeats 1600000 in
set_option maxRecDepth 100000 in
theorem refRaw_good (q : Nat) {qb : Nat} (v : Value) (B : List Int) (pl m : Nat) (w : World) (h : RefR w q qb v B pl 0) (hN : B.length ≤ 140737488355328) (hm : pl + m ≤ B.length) :
    Calls Try.prog 67 #[.pointer (some ⟨q, 0, none⟩), .int .i64 (m : Int)] w fun e w' => ∃ val, e = .returned val ∧ w'.ownsRow w.heap.size 5 1 val m (((B.drop pl).take m).map By) ∧ RefR w' q qb v B (pl + m) 0 ∧ RFr q w w' := by
  obtain ⟨i0, hi0, hz0, hz1, hz2⟩ := info_parts Try.info5
  obtain ⟨a, cap, hv⟩ := h.rd.shapeR
  have H := hide h
  have HV := hide hv
  rw [hv] at h
  have c0 := h.c0
  have c1 := h.c1
  have c2 := h.c2
  have hqb := h.lt
  have HRd := hide h.rd
  have i1 : (m : Int) ≤ (B.length : Int) - (pl : Int) := by omega
  have i2 : decide ((B.length : Int) - (pl : Int) < (m : Int)) = false := decide_eq_false (by omega)
  obtain ⟨N, hNN⟩ : ∃ N, Hid (B.length = N) := ⟨_, rfl⟩
  rw [unhide hNN] at c0 hN hm HRd i1 i2
  clear h hv
  go_enter Try.func67, Try.ntmps67
  go_wp2
  go_quiet (fail)
  go_wp2
  go_loopg [5, 6] m (fun k l s wr => ∃ (j : Nat), Hid (j + k = m) ∧ s = .int .i64 (j : Int) ∧ Hid (Grows w l ((B.drop pl).take j) wr))
  case atStart => exact ⟨0, by unfold Hid; omega, rfl, by exact ⟨World.ownsRow_nil _ _ _ _, below_drewN (Below.refl _ _) _⟩⟩
  case round =>
    obtain ⟨j, hj, rfl, hG⟩ := hrel
    by_cases hlt : j < m
    · obtain ⟨cb, co, rfl, hcb, hc⟩ := (unhide HRd).at (pl + j) (by rw [unhide hNN]; omega)
      have hS0 : wr.cell? ⟨q, 0, none⟩ = some (.slice (some ⟨cb, co, none⟩) N cap) ∧ wr.cell? ⟨q, 1, none⟩ = some (.int .i64 (pl : Int)) ∧ wr.cell? ⟨cb, co + (pl + j), none⟩ = some (.int .u8 (B.getD (pl + j) 0)) :=
        ⟨((unhide hG).2.cell (p := ⟨q, 0, none⟩) hqb).trans c0, ((unhide hG).2.cell (p := ⟨q, 1, none⟩) hqb).trans c1, ((unhide hG).2.cell (p := ⟨cb, co + (pl + j), none⟩) hcb).trans hc⟩
      have hgd : (B.drop pl).getD j 0 = B.getD (pl + j) 0 := by simp [List.getD]
      have htk := take_getD0 (B.drop pl) j (by rw [List.length_drop, unhide hNN]; omega)
      rw [hgd] at htk
      have hlen : ((B.drop pl).take j).length = j := by rw [List.length_take, List.length_drop, unhide hNN]; omega
      have hown := (unhide hG).1
      rw [hlen] at hown
      have HO := hide hown
      have hlen := hide hlen
      have Hc := hide hc
      generalize B.getD (pl + j) 0 = b at *
      have Htk := hide htk
      have j0 : (0 : Int) ≤ (pl : Int) + (j : Int) := by omega
      have j1 : (pl : Int) + (j : Int) < (N : Int) := by omega
      have j2 : (j : Int) < (m : Int) := by omega
      have hwr : IntKind.i64.wrap ((pl : Int) + (j : Int)) = (pl : Int) + (j : Int) := by simp [IntKind.wrap, IntKind.signed, IntKind.bits]; omega
      clear hc hown hgd htk
      go_wp2_with fail
      refine wp_region_held_drew (S := fun w' => w'.cell? ⟨q, 0, none⟩ = some (.slice (some ⟨cb, co, none⟩) N cap) ∧ w'.cell? ⟨q, 1, none⟩ = some (.int .i64 (pl : Int)) ∧ w'.cell? ⟨cb, co + (pl + j), none⟩ = some (.int .u8 b)) (by kernel_rfl) hS0 (fun hHeld => ?_)
      refine wpAnyH_take (i := 0) (oi := _) (v := u5) rfl (by kernel_rfl) (by kernel_rfl) (by kernel_rfl) (fun _ _ _ h => h) (Or.inl ⟨by rfl, (by intro w hSw; obtain ⟨s0, s1, s2⟩ := hSw; go_simp)⟩) (by assumption) ?_
      refine wpAnyH_take (i := 1) (oi := _) (v := .pointer (some ⟨q, 0, none⟩)) rfl (by kernel_rfl) (by kernel_rfl) (by kernel_rfl) (fun _ _ _ h => h) (Or.inl ⟨by rfl, (by intro w hSw; obtain ⟨s0, s1, s2⟩ := hSw; go_simp)⟩) (by assumption) ?_
      refine wpAnyH_take (i := 2) (oi := _) (v := .pointer (some ⟨q, 0, none⟩)) rfl (by kernel_rfl) (by kernel_rfl) (by kernel_rfl) (fun _ _ _ h => h) (Or.inl ⟨by rfl, (by intro w hSw; obtain ⟨s0, s1, s2⟩ := hSw; go_simp)⟩) (by assumption) ?_
      refine wpAnyH_take (i := 3) (oi := _) (v := .pointer (some ⟨q, 0, none⟩)) rfl (by kernel_rfl) (by kernel_rfl) (by kernel_rfl) (fun _ _ _ h => h) (Or.inl ⟨by rfl, (by intro w hSw; obtain ⟨s0, s1, s2⟩ := hSw; go_simp)⟩) (by assumption) ?_
      refine wpAnyH_take (i := 4) (oi := _) (v := .slice (some ⟨cb, co, none⟩) N cap) rfl (by kernel_rfl) (by kernel_rfl) (by kernel_rfl) (fun _ _ _ h => h) (Or.inl ⟨by rfl, (by intro w hSw; obtain ⟨s0, s1, s2⟩ := hSw; go_simp)⟩) (by assumption) ?_
      refine wpAnyH_take (i := 5) (oi := _) (v := .pointer (some ⟨q, 0, none⟩)) rfl (by kernel_rfl) (by kernel_rfl) (by kernel_rfl) (fun _ _ _ h => h) (Or.inl ⟨by rfl, (by intro w hSw; obtain ⟨s0, s1, s2⟩ := hSw; go_simp)⟩) (by assumption) ?_
      refine wpAnyH_take (i := 6) (oi := _) (v := .pointer (some ⟨q, 0, none⟩)) rfl (by kernel_rfl) (by kernel_rfl) (by kernel_rfl) (fun _ _ _ h => h) (Or.inl ⟨by rfl, (by intro w hSw; obtain ⟨s0, s1, s2⟩ := hSw; go_simp)⟩) (by assumption) ?_
      refine wpAnyH_take (i := 7) (oi := _) (v := .pointer (some ⟨q, 1, none⟩)) rfl (by kernel_rfl) (by kernel_rfl) (by kernel_rfl) (fun _ _ _ h => h) (Or.inl ⟨by rfl, (by intro w hSw; obtain ⟨s0, s1, s2⟩ := hSw; go_simp)⟩) (by assumption) ?_
      refine wpAnyH_take (i := 8) (oi := _) (v := .int .i64 (pl : Int)) rfl (by kernel_rfl) (by kernel_rfl) (by kernel_rfl) (fun _ _ _ h => h) (Or.inl ⟨by rfl, (by intro w hSw; obtain ⟨s0, s1, s2⟩ := hSw; go_simp)⟩) (by assumption) ?_
      refine wpAnyH_take (i := 9) (oi := _) (v := .int .i64 (j : Int)) rfl (by kernel_rfl) (by kernel_rfl) (by kernel_rfl) (fun _ _ _ h => h) (Or.inl ⟨by rfl, (by intro w hSw; obtain ⟨s0, s1, s2⟩ := hSw; go_simp)⟩) (by assumption) ?_
      refine wpAnyH_take (i := 10) (oi := _) (v := .int .i64 ((pl : Int) + (j : Int))) rfl (by kernel_rfl) (by kernel_rfl) (by kernel_rfl) (fun _ _ _ h => h) (Or.inl ⟨by rfl, (by intro w hSw; obtain ⟨s0, s1, s2⟩ := hSw; go_simp <;> exact hwr)⟩) (by assumption) ?_
      refine wpAnyH_take (i := 11) (oi := _) (v := .pointer (some ⟨cb, co + (pl + j), none⟩)) rfl (by kernel_rfl) (by kernel_rfl) (by kernel_rfl) (fun _ _ _ h => h) (Or.inl ⟨by rfl, (by intro w hSw; obtain ⟨s0, s1, s2⟩ := hSw; go_simp)⟩) (by assumption) ?_
      refine wpAnyH_take (i := 12) (oi := _) (v := .int .u8 b) rfl (by kernel_rfl) (by kernel_rfl) (by kernel_rfl) (fun _ _ _ h => h) (Or.inl ⟨by rfl, (by intro w hSw; obtain ⟨s0, s1, s2⟩ := hSw; go_simp)⟩) (by assumption) ?_
      simp only [Act.put, List.setIfInBounds_toArray]
      refine wpAnyH_ready (rs := [13]) (by kernel_rfl) (by simp) ?_
      refine AllReadyH.cons (o := _) rfl (fun K hK => ?_) AllReadyH.nil
      go_simp
      have hS1 : ∀ o : Obj, (wr.alloc o).drew.cell? ⟨q, 0, none⟩ = some (.slice (some ⟨cb, co, none⟩) N cap) ∧ (wr.alloc o).drew.cell? ⟨q, 1, none⟩ = some (.int .i64 (pl : Int)) ∧ (wr.alloc o).drew.cell? ⟨cb, co + (pl + j), none⟩ = some (.int .u8 b) :=
        fun o => ⟨by rw [World.cell?_drew, World.cell?_of_block (w := wr) (Below.heap_alloc wr o q (World.block_lt_of_cell? _ _ hS0.1))]; exact hS0.1, by rw [World.cell?_drew, World.cell?_of_block (w := wr) (Below.heap_alloc wr o q (World.block_lt_of_cell? _ _ hS0.1))]; exact hS0.2.1, by rw [World.cell?_drew, World.cell?_of_block (w := wr) (Below.heap_alloc wr o cb (World.block_lt_of_cell? _ _ hS0.2.2))]; exact hS0.2.2⟩
      refine hK.out _ _ (hS1 _) (fun hHeld1 => ?_)
      clear hK K
      refine wpAnyH_ready (rs := [14]) (by kernel_rfl) (by simp) ?_
      refine AllReadyH.cons (o := _) rfl (fun K hK => ?_) AllReadyH.nil
      refine wp_append_own _ _ _ 22 rfl w.heap.size 5 i0 (.int .u8 0) 1 1 Try.underlying22 hi0 hz0 hz1 hz2 rfl (by decide) _ _ _ rfl (((unhide HO).alloc (.cells #[.int .u8 b] 5)).drew) ⟨wr.heap.size, 0, none⟩ 1 1 [.int .u8 b] rfl rfl (cell_one_new _ _ _) (by simp [Value.oneCell']) (by unfold maxLen; omega) (by omega) (by have := (unhide hG).2.size; simp; omega) ?_
      intro v' w1 hown' hgrow hnil
      have hgrow' : (wr.alloc (.cells #[.int .u8 b] 5)).grownBy w1 u5.ownBlock := ⟨hgrow.os, hgrow.tape, hgrow.output, hgrow.size, hgrow.block⟩
      have HN : Hid (Grows w v' ((B.drop pl).take (j + 1)) w1) := hide (by
        rw [unhide Htk]
        exact (unhide hG).step hown' (by rw [unhide hlen]) rfl hgrow')
      have hS2 : w1.cell? ⟨q, 0, none⟩ = some (.slice (some ⟨cb, co, none⟩) N cap) ∧ w1.cell? ⟨q, 1, none⟩ = some (.int .i64 (pl : Int)) ∧ w1.cell? ⟨cb, co + (pl + j), none⟩ = some (.int .u8 b) :=
        ⟨((unhide HN).2.cell (p := ⟨q, 0, none⟩) hqb).trans c0, ((unhide HN).2.cell (p := ⟨q, 1, none⟩) hqb).trans c1, ((unhide HN).2.cell (p := ⟨cb, co + (pl + j), none⟩) hcb).trans (unhide Hc)⟩
      clear hown' hgrow hnil hgrow' hS1
      refine hK.out _ _ hS2 (fun hHeld2 => ?_)
      clear hK K
      refine wpAnyH_ready (rs := [15]) (by kernel_rfl) (by simp) ?_
      refine AllReadyH.cons (o := _) rfl (fun K hK => ?_) AllReadyH.nil
      go_simp
      refine hK.out _ _ hS2 (fun hHeld3 => ?_)
      clear hK K
      refine wpAnyH_done (by kernel_rfl) ?_ _
      go_wp2
      go_roundg (gk - 1)
      case measure => have := unhide hj; omega
      case rel => exact ⟨j + 1, by have := unhide hj; unfold Hid; omega, by go_num, HN⟩
    · have hjm : j = m := by have := unhide hj; omega
      subst hjm
      have hlen : ((B.drop pl).take j).length = j := by rw [List.length_take, List.length_drop, unhide hNN]; omega
      have hF : RFr q w wr := Fr.of_below (unhide hG).2
      have hRr : RefR wr q qb v B pl 0 := (unhide H).keep (S := fun _ => False) (Fr.of_below (unhide hG).2) (by simp) (by simp)
      have HM := hide (hRr.move (pl + j) (by rw [unhide hNN]; exact hm))
      have d1 := hRr.c1
      have d2 := hRr.f1
      have HF := hide hF
      have hown := (unhide hG).1
      rw [hlen] at hown
      have HO := hide hown
      have k0 : (pl : Int) + (j : Int) ≤ (N : Int) := by omega
      clear hRr hF hown hlen hG
      go_wp2
      go_ret
      refine ⟨u5, rfl, ?_, (unhide HM).1, (unhide HF).trans (unhide HM).2⟩
      exact own_set (unhide HO) ⟨q, 1, none⟩ hqb _
end Go.Proofs.Ytnfinplkeefdgaa
