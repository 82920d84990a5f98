/-
  What both writers hold, asked twice.
-/
import Derived.Test.YtpenhefhedmhiaaVState
namespace Go.Proofs.Ytpenhefhedmhiaa
open Go.RowKit

theorem Wtr.drewN {w : World} {p : Nat} {v : Value} {bs : List Int} (h : Wtr w p v bs) (n : Nat) : Wtr (w.drewN n) p v bs :=
  h.keep (S := fun _ => False) (Fr.drewN n) (by simp) (by simp)
theorem Rd.drewN {w : World} {v : Value} {bs : List Int} (h : Rd w v bs) (n : Nat) : Rd (w.drewN n) v bs :=
  h.keep (S := fun _ => False) (Fr.drewN n) (by simp)

set_option maxHeartbeats 3200000 in
set_option maxRecDepth 100000 in
theorem ends_any {w W w0 : World} {P : Nat → Nat} {bx : Nat} {V A : Nat → Value} {bs : Nat → List Int} {told : Value} {R : Nat → Value} {n : Nat} {xss : Nat → List Int} (h : WV w W P bx V A bs bs told n R n xss w0) (hb : ∀ k, k < 2 → (bs k).length ≤ 16777216) (hn : n ≤ 1048576) :
    Calls Try.prog 18 #[.pointer (some ⟨P 0, 0, none⟩), .pointer (some ⟨P 1, 0, none⟩), .agg #[A 0, A 1], told] w0 fun e w' => e = .returned (.bool true) ∧ Below w.heap.size w w' := by
  obtain ⟨i0, hi0, hz0, hz1, hz2⟩ := info_parts Try.info25
  have Hb := hide hb
  clear hb
  obtain ⟨a0, e0, ha0⟩ := row_shape (h.al 0 (by omega))
  obtain ⟨a1, e1, ha1⟩ := row_shape (h.al 1 (by omega))
  obtain ⟨L0, hL0⟩ : ∃ L, Hid ((bs 0).length = L) := ⟨_, rfl⟩
  obtain ⟨L1, hL1⟩ : ∃ L, Hid ((bs 1).length = L) := ⟨_, rfl⟩
  rw [unhide hL0] at ha0
  rw [unhide hL1] at ha1
  have hb0 := h.rebox
  rw [ha0, ha1] at hb0 ⊢
  have hA0 := hide ha0
  have hA1 := hide ha1
  have hB := hide hb0
  clear h ha0 ha1 hb0
  go_enter Try.func18, Try.ntmps18
  go_wp2_with fail
  obtain ⟨wb, hwb⟩ : ∃ x, Hid (x = w0.alloc (.cells #[.slice a0 L0 e0, .slice a1 L1 e1] 35)) := ⟨_, rfl⟩
  rw [← unhide hwb] at hB ⊢
  obtain ⟨q, hq⟩ : ∃ q, Hid (w0.heap.size = q) := ⟨_, rfl⟩
  rw [unhide hq] at hB
  try rw [unhide hq]
  clear hwb hq
  have hC := hide (done_any (P 0) (V 0) (bs 0) wb ((unhide hB).wt 0 (by omega)) (by have := unhide Hb 0 (by omega); omega))
  go_wp2_with fail
  refine (unhide hC).mono ?_
  rintro ee w1 ⟨d0, rfl, hown, hbel⟩
  obtain ⟨da0, dc0, he⟩ := row_shape hown
  rw [unhide hL0] at he
  subst he
  have h1 := hide ((unhide hB).handed hown hbel (by have := unhide Hb 0 (by omega); omega))
  clear hC hown hbel hB
  have hC := hide (done_any (P 1) (V 1) (bs 1) w1 ((unhide h1).wt 1 (by omega)) (by have := unhide Hb 1 (by omega); omega))
  go_wp2_with fail
  refine (unhide hC).mono ?_
  rintro ee w2 ⟨d1, rfl, hown, hbel⟩
  obtain ⟨da1, dc1, he⟩ := row_shape hown
  rw [unhide hL1] at he
  subst he
  have h2 := hide ((unhide h1).handed hown hbel (by have := unhide Hb 1 (by omega); omega))
  clear hC hown hbel h1
  have hC := hide (done_any (P 0) (V 0) (bs 0) w2 ((unhide h2).wt 0 (by omega)) (by have := unhide Hb 0 (by omega); omega))
  go_wp2_with fail
  refine (unhide hC).mono ?_
  rintro ee w3 ⟨d2, rfl, hown, hbel⟩
  obtain ⟨da2, dc2, he⟩ := row_shape hown
  rw [unhide hL0] at he
  subst he
  have h3 := hide ((unhide h2).handed hown hbel (by have := unhide Hb 0 (by omega); omega))
  clear hC hown hbel h2
  obtain ⟨R3, Y3, r0, r1, r2, x0, x1, x2, h3⟩ : ∃ (R3 : Nat → Value) (Y3 : Nat → List Int), Hid (R3 n = .slice da0 L0 dc0) ∧ Hid (R3 (n + 1) = .slice da1 L1 dc1) ∧ Hid (R3 (n + 1 + 1) = .slice da2 L0 dc2) ∧ Hid (Y3 n = bs 0) ∧ Hid (Y3 (n + 1) = bs 1) ∧ Hid (Y3 (n + 1 + 1) = bs 0) ∧ Hid (WV w W P q V A bs bs told n R3 (n + 3) Y3 w3) :=
    ⟨_, _, by rw [Hid, updF_ne _ _ (by omega), updF_ne _ _ (by omega)]; exact updF_at _ _ _, by rw [Hid, updF_ne _ _ (by omega)]; exact updF_at _ _ _, updF_at _ _ _, by rw [Hid, updF_ne _ _ (by omega), updF_ne _ _ (by omega)]; exact updF_at _ _ _, by rw [Hid, updF_ne _ _ (by omega)]; exact updF_at _ _ _, updF_at _ _ _, h3⟩
  have c0 := (unhide h3).bxc 0 (by omega)
  rw [unhide hA0] at c0
  have hC := hide (same_any (.slice da0 L0 dc0) (.slice a0 L0 e0) (bs 0) w3 (by have := Rd.of_own ((unhide h3).rows (n) (by omega)); rw [unhide r0, unhide x0] at this; exact this) (by have := Rd.of_own ((unhide h3).al 0 (by omega)); rw [unhide hA0] at this; exact this))
  go_wp2_with fail
  refine (unhide hC).mono ?_
  rintro ee w4 ⟨rfl, kk, hw⟩
  have h4 := hide ((unhide h3).drewN kk)
  rw [← hw] at h4
  clear hC hw kk c0 h3
  have c0 := (unhide h4).bxc 1 (by omega)
  rw [unhide hA1] at c0
  have hC := hide (same_any (.slice da1 L1 dc1) (.slice a1 L1 e1) (bs 1) w4 (by have := Rd.of_own ((unhide h4).rows (n + 1) (by omega)); rw [unhide r1, unhide x1] at this; exact this) (by have := Rd.of_own ((unhide h4).al 1 (by omega)); rw [unhide hA1] at this; exact this))
  go_wp2_with fail
  refine (unhide hC).mono ?_
  rintro ee w5 ⟨rfl, kk, hw⟩
  have h5 := hide ((unhide h4).drewN kk)
  rw [← hw] at h5
  clear hC hw kk c0 h4
  have c0 := (unhide h5).bxc 0 (by omega)
  rw [unhide hA0] at c0
  have hC := hide (same_any (.slice da2 L0 dc2) (.slice a0 L0 e0) (bs 0) w5 (by have := Rd.of_own ((unhide h5).rows (n + 1 + 1) (by omega)); rw [unhide r2, unhide x2] at this; exact this) (by have := Rd.of_own ((unhide h5).al 0 (by omega)); rw [unhide hA0] at this; exact this))
  go_wp2_with fail
  refine (unhide hC).mono ?_
  rintro ee w6 ⟨rfl, kk, hw⟩
  have H0 := hide ((unhide h5).drewN kk)
  rw [← hw] at H0
  clear hC hw kk c0 h5
  obtain ⟨T0, hT0⟩ : ∃ T, Hid ((List.range (n)).map R3 = T) := ⟨_, rfl⟩
  have HO0 : Hid (w6.ownsRow W.heap.size 25 1 told (n) T0) := by rw [Hid, ← unhide hT0]; exact (unhide H0).tow
  have hfz0 : W.heap.size ≤ w6.heap.size := (unhide H0).fr
  go_wp2_with (first | (at_builtin; refine wpList_append_own_at _ rfl _ _ 36 rfl W.heap.size 25 i0 (.slice none 0 0) 1 24 Try.underlying36 hi0 hz0 hz1 hz2 rfl (by decide) _ _ _ rfl ((unhide HO0).alloc _) ⟨w6.heap.size, 0, none⟩ 1 1 [.slice da0 L0 dc0] rfl rfl (cell_one_new _ _ _) (by simp [Value.oneCell']) (by unfold maxLen; omega) (by omega) (by simp; omega) ?_))
  intro t0 z0 hown hgrow hnil hat
  have H1 := hide ((unhide H0).pushed (by omega) (by rw [unhide r0, unhide hT0]; exact hown) hgrow (by simpa using hat))
  clear hown hgrow hnil hat HO0 H0 hfz0 hT0
  obtain ⟨T1, hT1⟩ : ∃ T, Hid ((List.range (n + 1)).map R3 = T) := ⟨_, rfl⟩
  have HO1 : Hid (z0.ownsRow W.heap.size 25 1 t0 (n + 1) T1) := by rw [Hid, ← unhide hT1]; exact (unhide H1).tow
  have hfz1 : W.heap.size ≤ z0.heap.size := (unhide H1).fr
  go_wp2_with (first | (at_builtin; refine wpList_append_own_at _ rfl _ _ 36 rfl W.heap.size 25 i0 (.slice none 0 0) 1 24 Try.underlying36 hi0 hz0 hz1 hz2 rfl (by decide) _ _ _ rfl ((unhide HO1).alloc _) ⟨z0.heap.size, 0, none⟩ 1 1 [.slice da1 L1 dc1] rfl rfl (cell_one_new _ _ _) (by simp [Value.oneCell']) (by unfold maxLen; omega) (by omega) (by simp; omega) ?_))
  intro t1 z1 hown hgrow hnil hat
  have H2 := hide ((unhide H1).pushed (by omega) (by rw [unhide r1, unhide hT1]; exact hown) hgrow (by simpa using hat))
  clear hown hgrow hnil hat HO1 H1 hfz1 hT1
  obtain ⟨T2, hT2⟩ : ∃ T, Hid ((List.range (n + 1 + 1)).map R3 = T) := ⟨_, rfl⟩
  have HO2 : Hid (z1.ownsRow W.heap.size 25 1 t1 (n + 1 + 1) T2) := by rw [Hid, ← unhide hT2]; exact (unhide H2).tow
  have hfz2 : W.heap.size ≤ z1.heap.size := (unhide H2).fr
  go_wp2_with (first | (at_builtin; refine wpList_append_own_at _ rfl _ _ 36 rfl W.heap.size 25 i0 (.slice none 0 0) 1 24 Try.underlying36 hi0 hz0 hz1 hz2 rfl (by decide) _ _ _ rfl ((unhide HO2).alloc _) ⟨z1.heap.size, 0, none⟩ 1 1 [.slice da2 L0 dc2] rfl rfl (cell_one_new _ _ _) (by simp [Value.oneCell']) (by unfold maxLen; omega) (by omega) (by simp; omega) ?_))
  intro t2 z2 hown hgrow hnil hat
  have H3 := hide ((unhide H2).pushed (by omega) (by rw [unhide r2, unhide hT2]; exact hown) hgrow (by simpa using hat))
  clear hown hgrow hnil hat HO2 H2 hfz2 hT2
  have hAp : Hid (Calls Try.prog 35 #[t2] z2 fun e w' => e = .returned (.bool true) ∧ Fr (fun b => ∃ j, j < n + 3 ∧ (R3 j).ownBlock = some b) z2 w') := by
    obtain ⟨hRV, hMk, hlt, hg, hl⟩ := (unhide H3).forApart
    refine (apart_walk t2 _ _ W.heap.size z2 hRV hMk (by rw [hl]; omega) (fun k => by have := (unhide H3).xl k; omega) (unhide H3).fr hlt).mono ?_
    rintro e w' ⟨he, hf⟩
    refine ⟨he, hf.mono (fun b _ q => ?_)⟩
    obtain ⟨j, hj, e⟩ := q
    rw [hl] at hj
    rw [hg j hj] at e
    exact ⟨j, hj, e⟩
  go_wp2_with fail
  refine (unhide hAp).mono ?_
  rintro ee w8 ⟨rfl, hF⟩
  have hsp := hide (fun k hk => (unhide H3).spent hF (fun b q => q) k hk)
  clear hAp hF H3
  have hC := hide (done_any (P 0) (V 0) (bs 0) w8 (unhide hsp 0 (by omega)).1 (by have := unhide Hb 0 (by omega); omega))
  go_wp2_with fail
  refine (unhide hC).mono ?_
  rintro ee w9 ⟨d3, rfl, hown, hbel⟩
  obtain ⟨da3, dc3, he⟩ := row_shape hown
  rw [unhide hL0] at he
  subst he
  have hW9 : Hid (∀ k, k < 2 → ∀ m, Wtr (w9.drewN m) (P k) (V k) (bs k)) := fun k hk m => ((unhide hsp k hk).1.keep (Fr.of_below (S := fun _ => False) hbel) (fun h => h) (fun _ _ h => h)).drewN m
  have hR9 : Hid (∀ k, k < 2 → ∀ m, Rd (w9.drewN m) (A k) (bs k)) := fun k hk m => ((Rd.of_own (unhide hsp k hk).2.1).below hbel).drewN m
  have hc9 : Hid (∀ k, k < 2 → ∀ m, (w9.drewN m).cell? ⟨q, k, none⟩ = some (A k)) := fun k hk m => by
    have h1 := (unhide hsp k hk).2.2.1
    have h2 := (Fr.of_below (S := fun _ => False) hbel).cell (a := ⟨q, k, none⟩) (World.block_lt_of_cell? _ _ h1) (fun h => h)
    exact ((Fr.drewN (S := fun _ => False) (w := w9) m).cell (a := ⟨q, k, none⟩) (World.block_lt_of_cell? _ _ (h2.trans h1)) (fun h => h)).trans (h2.trans h1)
  have hB9 : Hid (∀ m, Below w.heap.size w (w9.drewN m)) := fun m => by
    have h1 := (unhide hsp 0 (by omega)).2.2.2
    have h2 := h1.trans (hbel.mono h1.size)
    exact h2.trans ((Fr.drewN (S := fun _ => False) (w := w9) m).below h2.size (fun _ _ h => h))
  have K1 : Hid (∀ m, Calls Try.prog 10 #[.slice da3 L0 dc3, .slice a0 L0 e0] (w9.drewN m) fun e w' => e = .returned (.bool true) ∧ ∃ n, w' = (w9.drewN m).drewN n) := fun m => by
    have h1 := unhide hR9 0 (by omega) m
    rw [unhide hA0] at h1
    exact same_any _ _ _ _ ((Rd.of_own hown).drewN m) h1
  have K2 : Hid (∀ m, Calls Try.prog 14 #[.pointer (some ⟨P 0, 0, none⟩)] (w9.drewN m) fun e w' => e = .returned (.int .i64 (L0 : Int)) ∧ w' = w9.drewN m) := fun m => by
    have h1 := wlen_any _ _ _ _ (unhide hW9 0 (by omega) m)
    rw [unhide hL0] at h1
    exact h1
  have c9 : w9.cell? ⟨q, 0, none⟩ = some (.slice a0 L0 e0) := (unhide hc9 0 (by omega) 0).trans (by rw [unhide hA0])
  clear hC hown hbel hsp
  go_wp2
  go_quiet (first | (go_at_call 10; exact Calls.quiet_of (unhide K1 _)) | (go_at_call 14; exact Calls.quiet_of_same (unhide K2 _)))
  clear K1 K2 c9
  have hC := hide (done_any (P 1) (V 1) (bs 1) (w9.drewN nq) (unhide hW9 1 (by omega) nq) (by have := unhide Hb 1 (by omega); omega))
  go_wp2_with fail
  refine (unhide hC).mono ?_
  rintro ee w10 ⟨d4, rfl, hown, hbel⟩
  obtain ⟨da4, dc4, he⟩ := row_shape hown
  rw [unhide hL1] at he
  subst he
  have K1 : Hid (∀ m, Calls Try.prog 10 #[.slice da4 L1 dc4, .slice a1 L1 e1] (w10.drewN m) fun e w' => e = .returned (.bool true) ∧ ∃ n, w' = (w10.drewN m).drewN n) := fun m => by
    have h1 := ((unhide hR9 1 (by omega) nq).below hbel).drewN m
    rw [unhide hA1] at h1
    exact same_any _ _ _ _ ((Rd.of_own hown).drewN m) h1
  have K2 : Hid (∀ m, Calls Try.prog 14 #[.pointer (some ⟨P 1, 0, none⟩)] (w10.drewN m) fun e w' => e = .returned (.int .i64 (L1 : Int)) ∧ w' = w10.drewN m) := fun m => by
    have h1 := wlen_any _ _ _ _ (((unhide hW9 1 (by omega) nq).keep (Fr.of_below (S := fun _ => False) hbel) (fun h => h) (fun _ _ h => h)).drewN m)
    rw [unhide hL1] at h1
    exact h1
  have c9 : w10.cell? ⟨q, 1, none⟩ = some (.slice a1 L1 e1) := by
    have h1 := unhide hc9 1 (by omega) nq
    rw [unhide hA1] at h1
    exact ((Fr.of_below (S := fun _ => False) hbel).cell (a := ⟨q, 1, none⟩) (World.block_lt_of_cell? _ _ h1) (fun h => h)).trans h1
  have hB10 : Hid (∀ m, Below w.heap.size w (w10.drewN m)) := fun m => by
    have h1 := unhide hB9 nq
    have h2 := h1.trans (hbel.mono h1.size)
    exact h2.trans ((Fr.drewN (S := fun _ => False) (w := w10) m).below h2.size (fun _ _ h => h))
  clear hC hown hbel
  go_wp2
  go_quiet (first | (go_at_call 10; exact Calls.quiet_of (unhide K1 _)) | (go_at_call 14; exact Calls.quiet_of_same (unhide K2 _)))
  go_wp2
  go_ret
  exact ⟨rfl, unhide hB10 _⟩
end Go.Proofs.Ytpenhefhedmhiaa
