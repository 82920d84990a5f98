/-
  P5.1 to P5.6: every script.
-/
import Derived.Test.YthmcalapofjmfaaScript0
namespace Go.Proofs.Ythmcalapofjmfaa
open Go.RowKit Go.Maps
set_option linter.unusedVariables false
set_option linter.unusedSimpArgs false

/-- What holds between two calls of a script. -/
def Inv (w : World) (bx br j : Nat) (t5 t6 : Value) (wr : World) : Prop :=
  ∃ d, SC w d wr ∧ d.bx = bx ∧ d.br = br ∧ d.O = t5 ∧ d.T = t6 ∧ d.m = d.n ∧ d.n ≤ j ∧ ∀ k, k < 2 → d.rs k = d.dr k ∧ (d.rs k).length ≤ 8796093021952 + j
theorem Inv.put {w w' : World} {bx br j : Nat} {t5 t6 : Value} {d : Dat} {k p b : Nat} {v u : Value} {l : List ByteArray} (h : SC w (d.put k p b v l u l) w') (h1 : d.bx = bx) (h2 : d.br = br) (h3 : d.O = t5) (h4 : d.T = t6) (h5 : d.m = d.n) (h6 : d.n ≤ j)
    (h7 : ∀ k, k < 2 → d.rs k = d.dr k ∧ (d.rs k).length ≤ 8796093021952 + j) (hl : l.length ≤ 8796093021952 + (j + 1)) : Inv w bx br (j + 1) t5 t6 w' := by
  refine ⟨_, h, h1, h2, h3, h4, h5, Nat.le_succ_of_le h6, fun i hi => ?_⟩
  show updF d.rs k l i = updF d.dr k l i ∧ (updF d.rs k l i).length ≤ _
  by_cases e : i = k
  · rw [e, updF_at, updF_at]
    exact ⟨rfl, hl⟩
  · rw [updF_ne _ _ e, updF_ne _ _ e]
    have := h7 i hi
    exact ⟨this.1, by omega⟩
theorem sp_cells {w w5 : World} {d : Dat} {k : Nat} {v u : Value} {l : List ByteArray} (hk : k < 2) (h : SC w (d.put k (d.P k) (d.B k) v l u l) (w5.setCell ⟨d.br, k, none⟩ u)) :
    w5.cell? ⟨d.bx, k, none⟩ = some (.pointer (some ⟨d.P k, 0, none⟩)) ∧ ∀ x, d.gb = some x → w5.cell? ⟨x, 0, none⟩ = some (.int .i64 d.op.on) ∧ w5.cell? ⟨x, 1, none⟩ = some (.int .i64 d.op.kind) ∧ w5.cell? ⟨x, 2, none⟩ = some (.int .i64 d.op.n) ∧ w5.cell? ⟨x, 3, none⟩ = some (.string d.op.s) ∧ w5.cell? ⟨x, 4, none⟩ = some d.op.lv := by
  have hxr : d.bx ≠ d.br := h.ne (c := 0) (k := 0) (c' := 1) (k' := 0) (by simp) rfl rfl
  have far : ∀ x o, x ≠ d.br → (w5.setCell ⟨d.br, k, none⟩ u).cell? ⟨x, o, none⟩ = w5.cell? ⟨x, o, none⟩ := fun x o hx => World.cell?_setCell_other _ _ _ _ (fun e => hx (by simpa using (congrArg Addr.block e).symm))
  refine ⟨?_, fun x hx => ?_⟩
  · have h1 := h.bxc k hk
    have h2 : (w5.setCell ⟨d.br, k, none⟩ u).cell? ⟨d.bx, k, none⟩ = some (.pointer (some ⟨updF d.P k (d.P k) k, 0, none⟩)) := h1
    rw [far _ _ hxr, updF_at] at h2
    exact h2
  · have hgr : x ≠ d.br := h.ne (c := 10) (k := 0) (c' := 1) (k' := 0) (by simp) hx rfl
    have h1 := h.gc x hx
    rw [far _ _ hgr, far _ _ hgr, far _ _ hgr, far _ _ hgr, far _ _ hgr] at h1
    exact h1
theorem bool_neqS : ∀ (b c : Bool) (w : World), (binOp .neq 4 (.bool b) (.bool c)).run Try.prog w = .ok (.bool (b != c)) w := fun b c w => by cases b <;> cases c <;> kernel_rfl
theorem pick8 (z : Int) : pick z 8 = 0 ∨ pick z 8 = 1 ∨ pick z 8 = 2 ∨ pick z 8 = 3 ∨ pick z 8 = 4 ∨ pick z 8 = 5 ∨ pick z 8 = 6 ∨ pick z 8 = 7 := by
  have := pick_lt z (n := 8) (by omega)
  omega

set_option maxHeartbeats 6400000 in
set_option maxRecDepth 100000 in
theorem scriptLaw (vg : Value) (ps : List OpD) (ls : Nat → List ByteArray) (w : World) (hI : RdO w vg ps ls) (hM : ps.length ≤ 2199023255552) :
    Calls Try.prog 3 #[vg] w fun e w' => e = .returned (.bool true) ∧ Below w.heap.size w w' := by
  obtain ⟨i0, hi0, hz0, hz1, hz2⟩ := info_parts Try.info26
  obtain ⟨ga, gcap, rfl, hgets⟩ := hI
  have HGT := hide hgets
  obtain ⟨M, hMM⟩ : ∃ M, Hid (ps.length = M) := ⟨_, rfl⟩
  rw [unhide hMM] at hM ⊢
  clear hgets
  have hC1 := hide (new_any w)
  go_enter Try.func3, Try.ntmps3
  go_wp2_with fail
  refine (unhide hC1).mono ?_
  rintro e w1 ⟨rfl, hX1, hb1⟩
  have hC2 := hide (new_any w1)
  have HX1 := hide hX1
  have HB1 := hide hb1
  clear hC1 hX1 hb1
  go_wp2_with fail
  refine (unhide hC2).mono ?_
  rintro e w2 ⟨rfl, hX2, hb2⟩
  have hst := hide (sc_start (unhide HB1) hb2 (unhide HX1) hX2)
  clear hC2 hX2 hb2 HX1 HB1
  go_wp2_with fail
  obtain ⟨bx, ebx⟩ : ∃ bx, Hid (w2.heap.size = bx) := ⟨_, rfl⟩
  obtain ⟨br, ebr⟩ : ∃ br, Hid (bx + 1 = br) := ⟨_, rfl⟩
  have hin : Hid (Inv w bx br 0 (.slice none 0 0) (.slice none 0 0) ((w2.alloc (.cells #[.pointer (some ⟨w.heap.size + 1, 0, none⟩), .pointer (some ⟨w1.heap.size + 1, 0, none⟩)] 25)).alloc (.cells #[.slice none 0 0, .slice none 0 0] 27))) :=
    ⟨_, unhide hst, unhide ebx, by rw [← unhide ebr, ← unhide ebx]; rfl, rfl, rfl, rfl, Nat.le_refl _, fun k hk => ⟨rfl, Nat.zero_le _⟩⟩
  generalize (w2.alloc (.cells #[.pointer (some ⟨w.heap.size + 1, 0, none⟩), .pointer (some ⟨w1.heap.size + 1, 0, none⟩)] 25)).alloc (.cells #[.slice none 0 0, .slice none 0 0] 27) = W3 at *
  rw [unhide ebx, unhide ebr]
  clear hst ebx ebr
  go_loopg [5, 6, 7] M (fun g t5 t6 t7 wr => ∃ j : Nat, Hid (j + g = M) ∧ t7 = .int .i64 (j : Int) ∧ Hid (Inv w bx br j t5 t6 wr))
  case atStart => exact ⟨0, by unfold Hid; omega, rfl, hin⟩
  case round =>
    clear hin
    obtain ⟨j, hj, rfl, hIn⟩ := hrel
    obtain ⟨d, hS, e1, e2, e3, e4, e5, e6, e7⟩ := unhide hIn
    by_cases hlt : j < M
    · obtain ⟨⟨cb, co, rfl, hcb, c0, c1, c2, c3, c4⟩, hRl, hs, hoks, hll⟩ := unhide HGT j (by rw [unhide hMM]; exact hlt)
      have c0 := (hS.bel.cell (p := ⟨cb, co + j * 5, none⟩) hcb).trans c0
      have c1 := (hS.bel.cell (p := ⟨cb, co + j * 5 + 1, none⟩) hcb).trans c1
      have c2 := (hS.bel.cell (p := ⟨cb, co + j * 5 + 2, none⟩) hcb).trans c2
      have c3 := (hS.bel.cell (p := ⟨cb, co + j * 5 + 3, none⟩) hcb).trans c3
      have c4 := (hS.bel.cell (p := ⟨cb, co + j * 5 + 4, none⟩) hcb).trans c4
      have i1 : (0 : Int) ≤ (j : Int) := by omega
      have i2 : (j : Int) < (M : Int) := by omega
      generalize ps.getD j OpD.zero = gg at hs hRl c0 c1 c2 c3 c4
      obtain ⟨on, kind, n, s, lv⟩ := gg
      dsimp only at hs hRl c0 c1 c2 c3 c4
      generalize ls j = l at hRl hoks hll
      obtain ⟨la, lc, elv⟩ := hRl.slice
      obtain ⟨ll, ell⟩ : ∃ ll, Hid (l.length = ll) := ⟨_, rfl⟩
      rw [unhide ell] at elv hll
      subst elv
      have hT := hS.taken ⟨on, kind, n, s, .slice la ll lc⟩
      have HT := hide hT
      have HRl := hide (hRl.below (Below.refl _ _))
      have HOKS := hide hoks
      have HS := hide hs
      have E1 := hide e1
      have E2 := hide e2
      have E3 := hide e3
      have E4 := hide e4
      have E5 := hide e5
      have E6 := hide e6
      have E7 := hide e7
      have HBel := hide hS.bel
      have hP2 := pick2_any (wr.alloc (.cells #[.int .i64 on, .int .i64 kind, .int .i64 n, .string s, .slice la ll lc] 30)) on
      have hP8 := pick8_any (wr.alloc (.cells #[.int .i64 on, .int .i64 kind, .int .i64 n, .string s, .slice la ll lc] 30)) kind
      obtain ⟨k, ek⟩ : ∃ k, Hid (pick on 2 = k) := ⟨_, rfl⟩
      have hk : k < 2 := by rw [← unhide ek]; exact pick_lt on (by omega)
      rw [unhide ek] at hP2
      have HP2 := hide hP2
      have HP8 := hide hP8
      have HK8 := hide (pick8 kind)
      clear hS e1 e2 e3 e4 e5 e6 e7 hRl hoks hs hT hP2 hP8 hIn
      have k0 : (0 : Int) ≤ (k : Int) := by omega
      have k1 : (k : Int) < 2 := by omega
      go_wp2_with fail
      refine (unhide HP2).mono ?_
      rintro e wz ⟨rfl, hwz⟩
      rw [hwz]
      clear hwz wz HP2
      go_wp2_with fail
      refine (unhide HP8).mono ?_
      rintro e wz ⟨rfl, hwz⟩
      rw [hwz]
      clear hwz wz HP8 c0 c1 c2 c3 c4
      generalize (wr.alloc (.cells #[.int .i64 on, .int .i64 kind, .int .i64 n, .string s, .slice la ll lc] 30)) = wa at *
      generalize wr.heap.size = gb at *
      have HA : Hid (SC w { d with gb := some gb, op := ⟨on, kind, n, s, .slice la ll lc⟩ } wa) := HT
      clear HT
      obtain ⟨d2, ed2⟩ : ∃ d2, d2 = { d with gb := some gb, op := ⟨on, kind, n, s, .slice la ll lc⟩ } := ⟨_, rfl⟩
      have F1 : Hid (d2.bx = bx) := by rw [ed2]; exact E1
      have F2 : Hid (d2.br = br) := by rw [ed2]; exact E2
      have F3 : Hid (d2.O = u5) := by rw [ed2]; exact E3
      have F4 : Hid (d2.T = u6) := by rw [ed2]; exact E4
      have F5 : Hid (d2.m = d2.n) := by rw [ed2]; exact E5
      have F6 : Hid (d2.n ≤ j) := by rw [ed2]; exact E6
      have F7 : Hid (∀ k, k < 2 → d2.rs k = d2.dr k ∧ (d2.rs k).length ≤ 8796093021952 + j) := by rw [ed2]; exact E7
      have FG : Hid (d2.gb = some gb) := by rw [ed2]; rfl
      have FO : Hid (d2.op = ⟨on, kind, n, s, .slice la ll lc⟩) := by rw [ed2]; rfl
      rw [← ed2] at HA
      have gcs := (unhide HA).gc gb (unhide FG)
      rw [unhide FO] at gcs
      dsimp only at gcs
      have GCS := hide gcs
      have cx := (unhide HA).bxc k hk
      have cr := (unhide HA).brc k hk
      rw [unhide F1] at cx
      rw [unhide F2] at cr
      clear ed2 E1 E2 E3 E4 E5 E6 E7 gcs
      obtain ⟨p, ep⟩ : ∃ p, Hid (d2.P k = p) := ⟨_, rfl⟩
      rw [unhide ep] at cx
      obtain ⟨aA, cA, eA⟩ := ((unhide HA).ar k hk).slice
      obtain ⟨nA, enA⟩ : ∃ nA, Hid ((d2.dr k).length = nA) := ⟨_, rfl⟩
      rw [unhide enA] at eA
      rw [eA] at cr
      have EA := hide eA
      have hnA : nA ≤ 8796093021952 + j := by
        have h7 := unhide F7 k hk
        rw [← unhide enA, ← h7.1]
        exact h7.2
      clear eA
      rcases unhide HK8 with ek8 | ek8 | ek8 | ek8 | ek8 | ek8 | ek8 | ek8 <;> rw [ek8] <;> clear ek8 HK8
      · have hSt := step0 (unhide HA).drew hk (unhide F7 k hk).1 (by rw [(unhide F7 k hk).1, unhide enA]; omega) on kind n s la ll lc (unhide HS)
        rw [unhide ep, unhide EA] at hSt
        have HSt := hide hSt
        have hd0 : wa.drew.cell? ⟨bx, k, none⟩ = some (.pointer (some ⟨p, 0, none⟩)) ∧ wa.drew.cell? ⟨br, k, none⟩ = some (.slice aA nA cA) ∧ wa.drew.cell? ⟨gb, 0, none⟩ = some (.int .i64 on) ∧ wa.drew.cell? ⟨gb, 1, none⟩ = some (.int .i64 kind) ∧ wa.drew.cell? ⟨gb, 2, none⟩ = some (.int .i64 n) ∧ wa.drew.cell? ⟨gb, 3, none⟩ = some (.string s) ∧ wa.drew.cell? ⟨gb, 4, none⟩ = some (.slice la ll lc) := ⟨cx, cr, unhide GCS⟩
        have HD0 := hide hd0
        clear hSt hd0 cx cr
        go_wp2_with fail
        refine wp_region_held_drew (S := fun wx => wx.cell? ⟨bx, k, none⟩ = some (.pointer (some ⟨p, 0, none⟩)) ∧ wx.cell? ⟨br, k, none⟩ = some (.slice aA nA cA) ∧ wx.cell? ⟨gb, 0, none⟩ = some (.int .i64 on) ∧ wx.cell? ⟨gb, 1, none⟩ = some (.int .i64 kind) ∧ wx.cell? ⟨gb, 2, none⟩ = some (.int .i64 n) ∧ wx.cell? ⟨gb, 3, none⟩ = some (.string s) ∧ wx.cell? ⟨gb, 4, none⟩ = some (.slice la ll lc)) (by kernel_rfl) (unhide HD0) (fun hHeld => ?_)
        refine wpAnyH_take (i := 0) (oi := _) (v := .int .i64 (k : Int)) rfl (by kernel_rfl) (by kernel_rfl) (by kernel_rfl) (fun _ _ _ h => h) (Or.inl ⟨by rfl, (by intro w hSw; go_simp)⟩) (by assumption) ?_
        refine wpAnyH_take (i := 1) (oi := _) (v := .pointer (some ⟨bx, k, none⟩)) rfl (by kernel_rfl) (by kernel_rfl) (by kernel_rfl) (fun _ _ _ h => h) (Or.inl ⟨by rfl, (by intro w hSw; go_simp)⟩) (by assumption) ?_
        refine wpAnyH_take (i := 2) (oi := _) (v := .pointer (some ⟨p, 0, none⟩)) rfl (by kernel_rfl) (by kernel_rfl) (by kernel_rfl) (fun _ _ _ h => h) (Or.inl ⟨by rfl, (by intro w hSw; obtain ⟨hs1, hs2, hs3, hs4, hs5, hs6, hs7⟩ := hSw; go_simp)⟩) (by assumption) ?_
        go_simp
        refine wpAnyH_take (i := 3) (oi := _) (v := .int .i64 (k : Int)) rfl (by kernel_rfl) (by kernel_rfl) (by kernel_rfl) (fun _ _ _ h => h) (Or.inl ⟨by rfl, (by intro w hSw; go_simp)⟩) (by assumption) ?_
        refine wpAnyH_take (i := 4) (oi := _) (v := .pointer (some ⟨br, k, none⟩)) rfl (by kernel_rfl) (by kernel_rfl) (by kernel_rfl) (fun _ _ _ h => h) (Or.inl ⟨by rfl, (by intro w hSw; go_simp)⟩) (by assumption) ?_
        refine wpAnyH_take (i := 5) (oi := _) (v := .slice aA nA cA) rfl (by kernel_rfl) (by kernel_rfl) (by kernel_rfl) (fun _ _ _ h => h) (Or.inl ⟨by rfl, (by intro w hSw; obtain ⟨hs1, hs2, hs3, hs4, hs5, hs6, hs7⟩ := hSw; go_simp)⟩) (by assumption) ?_
        go_simp
        refine wpAnyH_take (i := 6) (oi := _) (v := .agg #[.int .i64 on, .int .i64 kind, .int .i64 n, .string s, .slice la ll lc]) rfl (by kernel_rfl) (by kernel_rfl) (by kernel_rfl) (fun _ _ _ h => h) (Or.inl ⟨by rfl, (by intro w hSw; obtain ⟨hs1, hs2, hs3, hs4, hs5, hs6, hs7⟩ := hSw; go_simp)⟩) (by assumption) ?_
        refine wpAnyH_take (i := 7) (oi := _) (v := .int .i64 0) rfl (by kernel_rfl) (by kernel_rfl) (by kernel_rfl) (fun _ _ _ h => h) (Or.inl ⟨by rfl, (by intro w hSw; go_simp)⟩) (by assumption) ?_
        go_simp
        refine wpAnyH_ready (rs := [8]) (by kernel_rfl) (by simp) ?_
        refine AllReadyH.cons (o := _) rfl (fun K hK => ?_) AllReadyH.nil
        go_simp
        refine (unhide HSt).mono ?_
        rintro e w5 ⟨ua, un, uc, v5, l5, rfl, hl5, q1, q2, q3⟩
        have hcs := sp_cells hk q3
        have hg5 := hcs.2 gb (unhide FG)
        rw [unhide FO] at hg5
        have hx5 := hcs.1
        rw [unhide F1, unhide ep] at hx5
        rw [unhide F2, unhide EA] at q1
        have HIN := hide (Inv.put (j := j) q3 (unhide F1) (unhide F2) (unhide F3) (unhide F4) (unhide F5) (unhide F6) (unhide F7) (by have := (unhide F7 k hk).2; omega))
        rw [unhide F2] at q2 HIN
        dsimp only at hg5
        clear hcs hl5 q3 HSt HD0
        go_simp
        refine hK.out _ _ ⟨hx5, q1, hg5⟩ (fun hHeld1 => ?_)
        clear hK
        refine wpAnyH_take (i := 9) (oi := _) (v := .tuple #[.slice ua un uc, .bool true]) rfl (by kernel_rfl) (by kernel_rfl) (by kernel_rfl) (fun _ _ _ h => h) (Or.inl ⟨by rfl, (by intro w hSw; go_simp)⟩) (by assumption) ?_
        refine wpAnyH_take (i := 10) (oi := _) (v := .slice ua un uc) rfl (by kernel_rfl) (by kernel_rfl) (by kernel_rfl) (fun _ _ _ h => h) (Or.inl ⟨by rfl, (by intro w hSw; go_simp)⟩) (by assumption) ?_
        refine wpAnyH_take (i := 11) (oi := _) (v := .bool true) rfl (by kernel_rfl) (by kernel_rfl) (by kernel_rfl) (fun _ _ _ h => h) (Or.inl ⟨by rfl, (by intro w hSw; go_simp)⟩) (by assumption) ?_
        go_simp
        refine wpAnyH_take (i := 12) (oi := _) (v := .slice ua un uc) rfl (by kernel_rfl) (by kernel_rfl) (by kernel_rfl) (fun _ _ _ h => h) (Or.inl ⟨by rfl, (by intro w hSw; go_simp)⟩) (by assumption) ?_
        refine wpAnyH_take (i := 13) (oi := _) (v := .bool true) rfl (by kernel_rfl) (by kernel_rfl) (by kernel_rfl) (fun _ _ _ h => h) (Or.inl ⟨by rfl, (by intro w hSw; go_simp)⟩) (by assumption) ?_
        go_simp
        refine wpAnyH_done (by kernel_rfl) ?_ _
        clear hg5 hx5 hHeld hHeld1
        have hbrl : br < w5.heap.size := World.block_lt_of_cell? _ _ q1
        go_wp2
        go_roundg (gk - 1)
        case measure => have := unhide hj; omega
        case rel => exact ⟨j + 1, by have := unhide hj; unfold Hid; omega, by go_num, HIN⟩
      · have hSt := step1 (unhide HA).drew hk (unhide F7 k hk).1 (by rw [(unhide F7 k hk).1, unhide enA]; omega) on kind n s la ll lc (unhide HS)
        rw [unhide ep, unhide EA] at hSt
        have HSt := hide hSt
        have hd0 : wa.drew.cell? ⟨bx, k, none⟩ = some (.pointer (some ⟨p, 0, none⟩)) ∧ wa.drew.cell? ⟨br, k, none⟩ = some (.slice aA nA cA) ∧ wa.drew.cell? ⟨gb, 0, none⟩ = some (.int .i64 on) ∧ wa.drew.cell? ⟨gb, 1, none⟩ = some (.int .i64 kind) ∧ wa.drew.cell? ⟨gb, 2, none⟩ = some (.int .i64 n) ∧ wa.drew.cell? ⟨gb, 3, none⟩ = some (.string s) ∧ wa.drew.cell? ⟨gb, 4, none⟩ = some (.slice la ll lc) := ⟨cx, cr, unhide GCS⟩
        have HD0 := hide hd0
        clear hSt hd0 cx cr
        go_wp2_with fail
        refine wp_region_held_drew (S := fun wx => wx.cell? ⟨bx, k, none⟩ = some (.pointer (some ⟨p, 0, none⟩)) ∧ wx.cell? ⟨br, k, none⟩ = some (.slice aA nA cA) ∧ wx.cell? ⟨gb, 0, none⟩ = some (.int .i64 on) ∧ wx.cell? ⟨gb, 1, none⟩ = some (.int .i64 kind) ∧ wx.cell? ⟨gb, 2, none⟩ = some (.int .i64 n) ∧ wx.cell? ⟨gb, 3, none⟩ = some (.string s) ∧ wx.cell? ⟨gb, 4, none⟩ = some (.slice la ll lc)) (by kernel_rfl) (unhide HD0) (fun hHeld => ?_)
        refine wpAnyH_take (i := 0) (oi := _) (v := .int .i64 (k : Int)) rfl (by kernel_rfl) (by kernel_rfl) (by kernel_rfl) (fun _ _ _ h => h) (Or.inl ⟨by rfl, (by intro w hSw; go_simp)⟩) (by assumption) ?_
        refine wpAnyH_take (i := 1) (oi := _) (v := .pointer (some ⟨bx, k, none⟩)) rfl (by kernel_rfl) (by kernel_rfl) (by kernel_rfl) (fun _ _ _ h => h) (Or.inl ⟨by rfl, (by intro w hSw; go_simp)⟩) (by assumption) ?_
        refine wpAnyH_take (i := 2) (oi := _) (v := .pointer (some ⟨p, 0, none⟩)) rfl (by kernel_rfl) (by kernel_rfl) (by kernel_rfl) (fun _ _ _ h => h) (Or.inl ⟨by rfl, (by intro w hSw; obtain ⟨hs1, hs2, hs3, hs4, hs5, hs6, hs7⟩ := hSw; go_simp)⟩) (by assumption) ?_
        go_simp
        refine wpAnyH_take (i := 3) (oi := _) (v := .int .i64 (k : Int)) rfl (by kernel_rfl) (by kernel_rfl) (by kernel_rfl) (fun _ _ _ h => h) (Or.inl ⟨by rfl, (by intro w hSw; go_simp)⟩) (by assumption) ?_
        refine wpAnyH_take (i := 4) (oi := _) (v := .pointer (some ⟨br, k, none⟩)) rfl (by kernel_rfl) (by kernel_rfl) (by kernel_rfl) (fun _ _ _ h => h) (Or.inl ⟨by rfl, (by intro w hSw; go_simp)⟩) (by assumption) ?_
        refine wpAnyH_take (i := 5) (oi := _) (v := .slice aA nA cA) rfl (by kernel_rfl) (by kernel_rfl) (by kernel_rfl) (fun _ _ _ h => h) (Or.inl ⟨by rfl, (by intro w hSw; obtain ⟨hs1, hs2, hs3, hs4, hs5, hs6, hs7⟩ := hSw; go_simp)⟩) (by assumption) ?_
        go_simp
        refine wpAnyH_take (i := 6) (oi := _) (v := .agg #[.int .i64 on, .int .i64 kind, .int .i64 n, .string s, .slice la ll lc]) rfl (by kernel_rfl) (by kernel_rfl) (by kernel_rfl) (fun _ _ _ h => h) (Or.inl ⟨by rfl, (by intro w hSw; obtain ⟨hs1, hs2, hs3, hs4, hs5, hs6, hs7⟩ := hSw; go_simp)⟩) (by assumption) ?_
        refine wpAnyH_take (i := 7) (oi := _) (v := .int .i64 1) rfl (by kernel_rfl) (by kernel_rfl) (by kernel_rfl) (fun _ _ _ h => h) (Or.inl ⟨by rfl, (by intro w hSw; go_simp)⟩) (by assumption) ?_
        go_simp
        refine wpAnyH_ready (rs := [8]) (by kernel_rfl) (by simp) ?_
        refine AllReadyH.cons (o := _) rfl (fun K hK => ?_) AllReadyH.nil
        go_simp
        refine (unhide HSt).mono ?_
        rintro e w5 ⟨ua, un, uc, v5, l5, rfl, hl5, q1, q2, q3⟩
        have hcs := sp_cells hk q3
        have hg5 := hcs.2 gb (unhide FG)
        rw [unhide FO] at hg5
        have hx5 := hcs.1
        rw [unhide F1, unhide ep] at hx5
        rw [unhide F2, unhide EA] at q1
        have HIN := hide (Inv.put (j := j) q3 (unhide F1) (unhide F2) (unhide F3) (unhide F4) (unhide F5) (unhide F6) (unhide F7) (by have := (unhide F7 k hk).2; omega))
        rw [unhide F2] at q2 HIN
        dsimp only at hg5
        clear hcs hl5 q3 HSt HD0
        go_simp
        refine hK.out _ _ ⟨hx5, q1, hg5⟩ (fun hHeld1 => ?_)
        clear hK
        refine wpAnyH_take (i := 9) (oi := _) (v := .tuple #[.slice ua un uc, .bool true]) rfl (by kernel_rfl) (by kernel_rfl) (by kernel_rfl) (fun _ _ _ h => h) (Or.inl ⟨by rfl, (by intro w hSw; go_simp)⟩) (by assumption) ?_
        refine wpAnyH_take (i := 10) (oi := _) (v := .slice ua un uc) rfl (by kernel_rfl) (by kernel_rfl) (by kernel_rfl) (fun _ _ _ h => h) (Or.inl ⟨by rfl, (by intro w hSw; go_simp)⟩) (by assumption) ?_
        refine wpAnyH_take (i := 11) (oi := _) (v := .bool true) rfl (by kernel_rfl) (by kernel_rfl) (by kernel_rfl) (fun _ _ _ h => h) (Or.inl ⟨by rfl, (by intro w hSw; go_simp)⟩) (by assumption) ?_
        go_simp
        refine wpAnyH_take (i := 12) (oi := _) (v := .slice ua un uc) rfl (by kernel_rfl) (by kernel_rfl) (by kernel_rfl) (fun _ _ _ h => h) (Or.inl ⟨by rfl, (by intro w hSw; go_simp)⟩) (by assumption) ?_
        refine wpAnyH_take (i := 13) (oi := _) (v := .bool true) rfl (by kernel_rfl) (by kernel_rfl) (by kernel_rfl) (fun _ _ _ h => h) (Or.inl ⟨by rfl, (by intro w hSw; go_simp)⟩) (by assumption) ?_
        go_simp
        refine wpAnyH_done (by kernel_rfl) ?_ _
        clear hg5 hx5 hHeld hHeld1
        have hbrl : br < w5.heap.size := World.block_lt_of_cell? _ _ q1
        go_wp2
        go_roundg (gk - 1)
        case measure => have := unhide hj; omega
        case rel => exact ⟨j + 1, by have := unhide hj; unfold Hid; omega, by go_num, HIN⟩
      · have hSt := step2 (unhide HA).drew hk (unhide F7 k hk).1 (by rw [(unhide F7 k hk).1, unhide enA]; omega) on kind n s la ll lc (unhide HS)
        rw [unhide ep, unhide EA] at hSt
        have HSt := hide hSt
        have hd0 : wa.drew.cell? ⟨bx, k, none⟩ = some (.pointer (some ⟨p, 0, none⟩)) ∧ wa.drew.cell? ⟨br, k, none⟩ = some (.slice aA nA cA) ∧ wa.drew.cell? ⟨gb, 0, none⟩ = some (.int .i64 on) ∧ wa.drew.cell? ⟨gb, 1, none⟩ = some (.int .i64 kind) ∧ wa.drew.cell? ⟨gb, 2, none⟩ = some (.int .i64 n) ∧ wa.drew.cell? ⟨gb, 3, none⟩ = some (.string s) ∧ wa.drew.cell? ⟨gb, 4, none⟩ = some (.slice la ll lc) := ⟨cx, cr, unhide GCS⟩
        have HD0 := hide hd0
        clear hSt hd0 cx cr
        go_wp2_with fail
        refine wp_region_held_drew (S := fun wx => wx.cell? ⟨bx, k, none⟩ = some (.pointer (some ⟨p, 0, none⟩)) ∧ wx.cell? ⟨br, k, none⟩ = some (.slice aA nA cA) ∧ wx.cell? ⟨gb, 0, none⟩ = some (.int .i64 on) ∧ wx.cell? ⟨gb, 1, none⟩ = some (.int .i64 kind) ∧ wx.cell? ⟨gb, 2, none⟩ = some (.int .i64 n) ∧ wx.cell? ⟨gb, 3, none⟩ = some (.string s) ∧ wx.cell? ⟨gb, 4, none⟩ = some (.slice la ll lc)) (by kernel_rfl) (unhide HD0) (fun hHeld => ?_)
        refine wpAnyH_take (i := 0) (oi := _) (v := .int .i64 (k : Int)) rfl (by kernel_rfl) (by kernel_rfl) (by kernel_rfl) (fun _ _ _ h => h) (Or.inl ⟨by rfl, (by intro w hSw; go_simp)⟩) (by assumption) ?_
        refine wpAnyH_take (i := 1) (oi := _) (v := .pointer (some ⟨bx, k, none⟩)) rfl (by kernel_rfl) (by kernel_rfl) (by kernel_rfl) (fun _ _ _ h => h) (Or.inl ⟨by rfl, (by intro w hSw; go_simp)⟩) (by assumption) ?_
        refine wpAnyH_take (i := 2) (oi := _) (v := .pointer (some ⟨p, 0, none⟩)) rfl (by kernel_rfl) (by kernel_rfl) (by kernel_rfl) (fun _ _ _ h => h) (Or.inl ⟨by rfl, (by intro w hSw; obtain ⟨hs1, hs2, hs3, hs4, hs5, hs6, hs7⟩ := hSw; go_simp)⟩) (by assumption) ?_
        go_simp
        refine wpAnyH_take (i := 3) (oi := _) (v := .int .i64 (k : Int)) rfl (by kernel_rfl) (by kernel_rfl) (by kernel_rfl) (fun _ _ _ h => h) (Or.inl ⟨by rfl, (by intro w hSw; go_simp)⟩) (by assumption) ?_
        refine wpAnyH_take (i := 4) (oi := _) (v := .pointer (some ⟨br, k, none⟩)) rfl (by kernel_rfl) (by kernel_rfl) (by kernel_rfl) (fun _ _ _ h => h) (Or.inl ⟨by rfl, (by intro w hSw; go_simp)⟩) (by assumption) ?_
        refine wpAnyH_take (i := 5) (oi := _) (v := .slice aA nA cA) rfl (by kernel_rfl) (by kernel_rfl) (by kernel_rfl) (fun _ _ _ h => h) (Or.inl ⟨by rfl, (by intro w hSw; obtain ⟨hs1, hs2, hs3, hs4, hs5, hs6, hs7⟩ := hSw; go_simp)⟩) (by assumption) ?_
        go_simp
        refine wpAnyH_take (i := 6) (oi := _) (v := .agg #[.int .i64 on, .int .i64 kind, .int .i64 n, .string s, .slice la ll lc]) rfl (by kernel_rfl) (by kernel_rfl) (by kernel_rfl) (fun _ _ _ h => h) (Or.inl ⟨by rfl, (by intro w hSw; obtain ⟨hs1, hs2, hs3, hs4, hs5, hs6, hs7⟩ := hSw; go_simp)⟩) (by assumption) ?_
        refine wpAnyH_take (i := 7) (oi := _) (v := .int .i64 2) rfl (by kernel_rfl) (by kernel_rfl) (by kernel_rfl) (fun _ _ _ h => h) (Or.inl ⟨by rfl, (by intro w hSw; go_simp)⟩) (by assumption) ?_
        go_simp
        refine wpAnyH_ready (rs := [8]) (by kernel_rfl) (by simp) ?_
        refine AllReadyH.cons (o := _) rfl (fun K hK => ?_) AllReadyH.nil
        go_simp
        refine (unhide HSt).mono ?_
        rintro e w5 ⟨ua, un, uc, v5, l5, rfl, hl5, q1, q2, q3⟩
        have hcs := sp_cells hk q3
        have hg5 := hcs.2 gb (unhide FG)
        rw [unhide FO] at hg5
        have hx5 := hcs.1
        rw [unhide F1, unhide ep] at hx5
        rw [unhide F2, unhide EA] at q1
        have HIN := hide (Inv.put (j := j) q3 (unhide F1) (unhide F2) (unhide F3) (unhide F4) (unhide F5) (unhide F6) (unhide F7) (by have := (unhide F7 k hk).2; omega))
        rw [unhide F2] at q2 HIN
        dsimp only at hg5
        clear hcs hl5 q3 HSt HD0
        go_simp
        refine hK.out _ _ ⟨hx5, q1, hg5⟩ (fun hHeld1 => ?_)
        clear hK
        refine wpAnyH_take (i := 9) (oi := _) (v := .tuple #[.slice ua un uc, .bool true]) rfl (by kernel_rfl) (by kernel_rfl) (by kernel_rfl) (fun _ _ _ h => h) (Or.inl ⟨by rfl, (by intro w hSw; go_simp)⟩) (by assumption) ?_
        refine wpAnyH_take (i := 10) (oi := _) (v := .slice ua un uc) rfl (by kernel_rfl) (by kernel_rfl) (by kernel_rfl) (fun _ _ _ h => h) (Or.inl ⟨by rfl, (by intro w hSw; go_simp)⟩) (by assumption) ?_
        refine wpAnyH_take (i := 11) (oi := _) (v := .bool true) rfl (by kernel_rfl) (by kernel_rfl) (by kernel_rfl) (fun _ _ _ h => h) (Or.inl ⟨by rfl, (by intro w hSw; go_simp)⟩) (by assumption) ?_
        go_simp
        refine wpAnyH_take (i := 12) (oi := _) (v := .slice ua un uc) rfl (by kernel_rfl) (by kernel_rfl) (by kernel_rfl) (fun _ _ _ h => h) (Or.inl ⟨by rfl, (by intro w hSw; go_simp)⟩) (by assumption) ?_
        refine wpAnyH_take (i := 13) (oi := _) (v := .bool true) rfl (by kernel_rfl) (by kernel_rfl) (by kernel_rfl) (fun _ _ _ h => h) (Or.inl ⟨by rfl, (by intro w hSw; go_simp)⟩) (by assumption) ?_
        go_simp
        refine wpAnyH_done (by kernel_rfl) ?_ _
        clear hg5 hx5 hHeld hHeld1
        have hbrl : br < w5.heap.size := World.block_lt_of_cell? _ _ q1
        go_wp2
        go_roundg (gk - 1)
        case measure => have := unhide hj; omega
        case rel => exact ⟨j + 1, by have := unhide hj; unfold Hid; omega, by go_num, HIN⟩
      · have hSt := step3 (unhide HA).drew hk (unhide F7 k hk).1 (by rw [(unhide F7 k hk).1, unhide enA]; omega) on kind n s la ll lc (unhide HS)
        rw [unhide ep, unhide EA] at hSt
        have HSt := hide hSt
        have hd0 : wa.drew.cell? ⟨bx, k, none⟩ = some (.pointer (some ⟨p, 0, none⟩)) ∧ wa.drew.cell? ⟨br, k, none⟩ = some (.slice aA nA cA) ∧ wa.drew.cell? ⟨gb, 0, none⟩ = some (.int .i64 on) ∧ wa.drew.cell? ⟨gb, 1, none⟩ = some (.int .i64 kind) ∧ wa.drew.cell? ⟨gb, 2, none⟩ = some (.int .i64 n) ∧ wa.drew.cell? ⟨gb, 3, none⟩ = some (.string s) ∧ wa.drew.cell? ⟨gb, 4, none⟩ = some (.slice la ll lc) := ⟨cx, cr, unhide GCS⟩
        have HD0 := hide hd0
        clear hSt hd0 cx cr
        go_wp2_with fail
        refine wp_region_held_drew (S := fun wx => wx.cell? ⟨bx, k, none⟩ = some (.pointer (some ⟨p, 0, none⟩)) ∧ wx.cell? ⟨br, k, none⟩ = some (.slice aA nA cA) ∧ wx.cell? ⟨gb, 0, none⟩ = some (.int .i64 on) ∧ wx.cell? ⟨gb, 1, none⟩ = some (.int .i64 kind) ∧ wx.cell? ⟨gb, 2, none⟩ = some (.int .i64 n) ∧ wx.cell? ⟨gb, 3, none⟩ = some (.string s) ∧ wx.cell? ⟨gb, 4, none⟩ = some (.slice la ll lc)) (by kernel_rfl) (unhide HD0) (fun hHeld => ?_)
        refine wpAnyH_take (i := 0) (oi := _) (v := .int .i64 (k : Int)) rfl (by kernel_rfl) (by kernel_rfl) (by kernel_rfl) (fun _ _ _ h => h) (Or.inl ⟨by rfl, (by intro w hSw; go_simp)⟩) (by assumption) ?_
        refine wpAnyH_take (i := 1) (oi := _) (v := .pointer (some ⟨bx, k, none⟩)) rfl (by kernel_rfl) (by kernel_rfl) (by kernel_rfl) (fun _ _ _ h => h) (Or.inl ⟨by rfl, (by intro w hSw; go_simp)⟩) (by assumption) ?_
        refine wpAnyH_take (i := 2) (oi := _) (v := .pointer (some ⟨p, 0, none⟩)) rfl (by kernel_rfl) (by kernel_rfl) (by kernel_rfl) (fun _ _ _ h => h) (Or.inl ⟨by rfl, (by intro w hSw; obtain ⟨hs1, hs2, hs3, hs4, hs5, hs6, hs7⟩ := hSw; go_simp)⟩) (by assumption) ?_
        go_simp
        refine wpAnyH_take (i := 3) (oi := _) (v := .int .i64 (k : Int)) rfl (by kernel_rfl) (by kernel_rfl) (by kernel_rfl) (fun _ _ _ h => h) (Or.inl ⟨by rfl, (by intro w hSw; go_simp)⟩) (by assumption) ?_
        refine wpAnyH_take (i := 4) (oi := _) (v := .pointer (some ⟨br, k, none⟩)) rfl (by kernel_rfl) (by kernel_rfl) (by kernel_rfl) (fun _ _ _ h => h) (Or.inl ⟨by rfl, (by intro w hSw; go_simp)⟩) (by assumption) ?_
        refine wpAnyH_take (i := 5) (oi := _) (v := .slice aA nA cA) rfl (by kernel_rfl) (by kernel_rfl) (by kernel_rfl) (fun _ _ _ h => h) (Or.inl ⟨by rfl, (by intro w hSw; obtain ⟨hs1, hs2, hs3, hs4, hs5, hs6, hs7⟩ := hSw; go_simp)⟩) (by assumption) ?_
        go_simp
        refine wpAnyH_take (i := 6) (oi := _) (v := .agg #[.int .i64 on, .int .i64 kind, .int .i64 n, .string s, .slice la ll lc]) rfl (by kernel_rfl) (by kernel_rfl) (by kernel_rfl) (fun _ _ _ h => h) (Or.inl ⟨by rfl, (by intro w hSw; obtain ⟨hs1, hs2, hs3, hs4, hs5, hs6, hs7⟩ := hSw; go_simp)⟩) (by assumption) ?_
        refine wpAnyH_take (i := 7) (oi := _) (v := .int .i64 3) rfl (by kernel_rfl) (by kernel_rfl) (by kernel_rfl) (fun _ _ _ h => h) (Or.inl ⟨by rfl, (by intro w hSw; go_simp)⟩) (by assumption) ?_
        go_simp
        refine wpAnyH_ready (rs := [8]) (by kernel_rfl) (by simp) ?_
        refine AllReadyH.cons (o := _) rfl (fun K hK => ?_) AllReadyH.nil
        go_simp
        refine (unhide HSt).mono ?_
        rintro e w5 ⟨ua, un, uc, v5, l5, rfl, hl5, q1, q2, q3⟩
        have hcs := sp_cells hk q3
        have hg5 := hcs.2 gb (unhide FG)
        rw [unhide FO] at hg5
        have hx5 := hcs.1
        rw [unhide F1, unhide ep] at hx5
        rw [unhide F2, unhide EA] at q1
        have HIN := hide (Inv.put (j := j) q3 (unhide F1) (unhide F2) (unhide F3) (unhide F4) (unhide F5) (unhide F6) (unhide F7) (by have := (unhide F7 k hk).2; omega))
        rw [unhide F2] at q2 HIN
        dsimp only at hg5
        clear hcs hl5 q3 HSt HD0
        go_simp
        refine hK.out _ _ ⟨hx5, q1, hg5⟩ (fun hHeld1 => ?_)
        clear hK
        refine wpAnyH_take (i := 9) (oi := _) (v := .tuple #[.slice ua un uc, .bool true]) rfl (by kernel_rfl) (by kernel_rfl) (by kernel_rfl) (fun _ _ _ h => h) (Or.inl ⟨by rfl, (by intro w hSw; go_simp)⟩) (by assumption) ?_
        refine wpAnyH_take (i := 10) (oi := _) (v := .slice ua un uc) rfl (by kernel_rfl) (by kernel_rfl) (by kernel_rfl) (fun _ _ _ h => h) (Or.inl ⟨by rfl, (by intro w hSw; go_simp)⟩) (by assumption) ?_
        refine wpAnyH_take (i := 11) (oi := _) (v := .bool true) rfl (by kernel_rfl) (by kernel_rfl) (by kernel_rfl) (fun _ _ _ h => h) (Or.inl ⟨by rfl, (by intro w hSw; go_simp)⟩) (by assumption) ?_
        go_simp
        refine wpAnyH_take (i := 12) (oi := _) (v := .slice ua un uc) rfl (by kernel_rfl) (by kernel_rfl) (by kernel_rfl) (fun _ _ _ h => h) (Or.inl ⟨by rfl, (by intro w hSw; go_simp)⟩) (by assumption) ?_
        refine wpAnyH_take (i := 13) (oi := _) (v := .bool true) rfl (by kernel_rfl) (by kernel_rfl) (by kernel_rfl) (fun _ _ _ h => h) (Or.inl ⟨by rfl, (by intro w hSw; go_simp)⟩) (by assumption) ?_
        go_simp
        refine wpAnyH_done (by kernel_rfl) ?_ _
        clear hg5 hx5 hHeld hHeld1
        have hbrl : br < w5.heap.size := World.block_lt_of_cell? _ _ q1
        go_wp2
        go_roundg (gk - 1)
        case measure => have := unhide hj; omega
        case rel => exact ⟨j + 1, by have := unhide hj; unfold Hid; omega, by go_num, HIN⟩
      · have h7 := unhide F7 k hk
        have hC := items_any ((unhide HA).ix k hk) (by omega)
        rw [h7.1, unhide enA, unhide ep] at hC
        have HC := hide hC
        obtain ⟨N, eN⟩ : ∃ N, Hid (d2.n = N) := ⟨_, rfl⟩
        have hNj : N ≤ j := by rw [← unhide eN]; exact unhide F6
        have H71 := hide h7.1
        clear hC h7
        go_wp2_with fail
        refine (unhide HC).mono ?_
        rintro e w5 ⟨rfl, hown5, hB5⟩
        have hOO := ((unhide HA).below hB5).oo
        rw [unhide F3, unhide eN] at hOO
        obtain ⟨T0, hT0⟩ : ∃ T, Hid ((List.range N).map d2.R = T) := ⟨_, rfl⟩
        rw [unhide hT0] at hOO
        have HOO := hide hOO
        have HOwn5 := hide hown5
        have HB5 := hide hB5
        clear hOO hown5 hB5 HC cx cr
        go_wp2_with (first | (at_builtin; refine wpList_append_own_at _ rfl _ _ 28 rfl 0 26 i0 (.slice none 0 0) 1 24 Try.underlying28 hi0 hz0 hz1 hz2 rfl (by decide) u5 N T0 rfl ((unhide HOO).alloc _) ⟨w5.heap.size, 0, none⟩ 1 1 [.slice (some ⟨wa.heap.size, 0, none⟩) nA nA] rfl rfl (cell_one_new _ _ _) (by simp [Value.oneCell']) (by unfold maxLen; omega) (by omega) (by simp) ?_))
        intro O6 w6 hown hgrow hnil hat
        have hD := (unhide HA).handed (r := .slice (some ⟨wa.heap.size, 0, none⟩) nA nA) (xs := d2.dr k) (by rw [unhide enA]; exact own_base (unhide HOwn5) (Nat.le_refl _)) (unhide HB5) (by rw [unhide enA]; omega) (O' := O6) (by rw [unhide eN, unhide hT0]; exact hown) (by rw [unhide F3]; exact hgrow) (by rw [unhide F3]; simpa using hat) (by rw [unhide F5]; exact Nat.le_refl _)
        have cr6 : w6.cell? ⟨br, k, none⟩ = some (.slice aA nA cA) := by
          have := hD.brc k hk
          have e : w6.cell? ⟨d2.br, k, none⟩ = some (d2.A k) := this
          rw [unhide F2, unhide EA] at e
          exact e
        have hR6 : Rt w6 (.slice aA nA cA) (d2.dr k) := by
          have : Rt w6 (d2.A k) (d2.dr k) := hD.ar k hk
          rw [unhide EA] at this
          exact this
        have HC := hide (copy_any hR6 (by rw [unhide enA]; omega))
        have HD := hide hD
        clear hown hgrow hnil hat hD hR6 HOO HOwn5 HB5
        go_wp2_with fail
        refine (unhide HC).mono ?_
        rintro e w7 ⟨r, rfl, hN7⟩
        obtain ⟨ra, rc, er⟩ := hN7.rt.slice
        rw [unhide enA] at er
        subst er
        have hTT := ((unhide HD).below hN7.2).tt
        have hTT : w7.ownsRow 0 26 1 u6 N ((List.range N).map d2.Q) := by
          have e : w7.ownsRow 0 26 1 d2.T d2.m ((List.range d2.m).map d2.Q) := hTT
          rw [unhide F4, unhide F5, unhide eN] at e
          exact e
        obtain ⟨T1, hT1⟩ : ∃ T, Hid ((List.range N).map d2.Q = T) := ⟨_, rfl⟩
        rw [unhide hT1] at hTT
        have HTT := hide hTT
        have HN7 := hide hN7
        clear hTT hN7 HC cr6
        go_wp2_with (first | (at_builtin; refine wpList_append_own_at _ rfl _ _ 28 rfl 0 26 i0 (.slice none 0 0) 1 24 Try.underlying28 hi0 hz0 hz1 hz2 rfl (by decide) u6 N T1 rfl ((unhide HTT).alloc _) ⟨w7.heap.size, 0, none⟩ 1 1 [.slice ra nA rc] rfl rfl (cell_one_new _ _ _) (by simp [Value.oneCell']) (by unfold maxLen; omega) (by omega) (by simp) ?_))
        intro T8 w8 hown hgrow hnil hat
        have hE := (unhide HD).held (r := .slice ra nA rc) (T' := T8) (w1 := w7) (by
          have e : updF d2.xss d2.n (d2.dr k) d2.m = d2.dr k := by rw [unhide F5, updF_at]
          show Nw w6 _ (updF d2.xss d2.n (d2.dr k) d2.m) w7
          rw [e]
          exact unhide HN7) (by
          show w8.ownsRow 0 26 1 T8 (d2.m + 1) ((List.range d2.m).map d2.Q ++ [_])
          rw [unhide F5, unhide eN, unhide hT1]
          exact hown) (by
          show (w7.alloc _).grownBy w8 d2.T.ownBlock
          rw [unhide F4]
          exact hgrow) (by
          show T8.ownBlock = d2.T.ownBlock ∨ _
          rw [unhide F4]
          simpa using hat)
        have HIN : Hid (Inv w bx br (j + 1) O6 T8 w8) := ⟨_, hE, unhide F1, unhide F2, rfl, rfl, by show d2.m + 1 = d2.n + 1; rw [unhide F5], by show d2.n + 1 ≤ j + 1; have := unhide F6; omega, fun i hi => by
          show d2.rs i = d2.dr i ∧ (d2.rs i).length ≤ _
          have := unhide F7 i hi
          exact ⟨this.1, by omega⟩⟩
        clear hE hown hgrow hnil hat HTT HN7 HD
        go_wp2
        go_roundg (gk - 1)
        case measure => have := unhide hj; omega
        case rel => exact ⟨j + 1, by have := unhide hj; unfold Hid; omega, by go_num, HIN⟩
      · have hSt := step5 (unhide HA).drew hk (unhide F7 k hk).1 (by rw [(unhide F7 k hk).1, unhide enA]; omega) on kind n s la ll lc (unhide HS)
        rw [unhide ep, unhide EA] at hSt
        have HSt := hide hSt
        have hd0 : wa.drew.cell? ⟨bx, k, none⟩ = some (.pointer (some ⟨p, 0, none⟩)) ∧ wa.drew.cell? ⟨br, k, none⟩ = some (.slice aA nA cA) ∧ wa.drew.cell? ⟨gb, 0, none⟩ = some (.int .i64 on) ∧ wa.drew.cell? ⟨gb, 1, none⟩ = some (.int .i64 kind) ∧ wa.drew.cell? ⟨gb, 2, none⟩ = some (.int .i64 n) ∧ wa.drew.cell? ⟨gb, 3, none⟩ = some (.string s) ∧ wa.drew.cell? ⟨gb, 4, none⟩ = some (.slice la ll lc) := ⟨cx, cr, unhide GCS⟩
        have HD0 := hide hd0
        clear hSt hd0 cx cr
        go_wp2_with fail
        refine wp_region_held_drew (S := fun wx => wx.cell? ⟨bx, k, none⟩ = some (.pointer (some ⟨p, 0, none⟩)) ∧ wx.cell? ⟨br, k, none⟩ = some (.slice aA nA cA) ∧ wx.cell? ⟨gb, 0, none⟩ = some (.int .i64 on) ∧ wx.cell? ⟨gb, 1, none⟩ = some (.int .i64 kind) ∧ wx.cell? ⟨gb, 2, none⟩ = some (.int .i64 n) ∧ wx.cell? ⟨gb, 3, none⟩ = some (.string s) ∧ wx.cell? ⟨gb, 4, none⟩ = some (.slice la ll lc)) (by kernel_rfl) (unhide HD0) (fun hHeld => ?_)
        refine wpAnyH_take (i := 0) (oi := _) (v := .int .i64 (k : Int)) rfl (by kernel_rfl) (by kernel_rfl) (by kernel_rfl) (fun _ _ _ h => h) (Or.inl ⟨by rfl, (by intro w hSw; go_simp)⟩) (by assumption) ?_
        refine wpAnyH_take (i := 1) (oi := _) (v := .pointer (some ⟨bx, k, none⟩)) rfl (by kernel_rfl) (by kernel_rfl) (by kernel_rfl) (fun _ _ _ h => h) (Or.inl ⟨by rfl, (by intro w hSw; go_simp)⟩) (by assumption) ?_
        refine wpAnyH_take (i := 2) (oi := _) (v := .pointer (some ⟨p, 0, none⟩)) rfl (by kernel_rfl) (by kernel_rfl) (by kernel_rfl) (fun _ _ _ h => h) (Or.inl ⟨by rfl, (by intro w hSw; obtain ⟨hs1, hs2, hs3, hs4, hs5, hs6, hs7⟩ := hSw; go_simp)⟩) (by assumption) ?_
        go_simp
        refine wpAnyH_take (i := 3) (oi := _) (v := .int .i64 (k : Int)) rfl (by kernel_rfl) (by kernel_rfl) (by kernel_rfl) (fun _ _ _ h => h) (Or.inl ⟨by rfl, (by intro w hSw; go_simp)⟩) (by assumption) ?_
        refine wpAnyH_take (i := 4) (oi := _) (v := .pointer (some ⟨br, k, none⟩)) rfl (by kernel_rfl) (by kernel_rfl) (by kernel_rfl) (fun _ _ _ h => h) (Or.inl ⟨by rfl, (by intro w hSw; go_simp)⟩) (by assumption) ?_
        refine wpAnyH_take (i := 5) (oi := _) (v := .slice aA nA cA) rfl (by kernel_rfl) (by kernel_rfl) (by kernel_rfl) (fun _ _ _ h => h) (Or.inl ⟨by rfl, (by intro w hSw; obtain ⟨hs1, hs2, hs3, hs4, hs5, hs6, hs7⟩ := hSw; go_simp)⟩) (by assumption) ?_
        go_simp
        refine wpAnyH_take (i := 6) (oi := _) (v := .agg #[.int .i64 on, .int .i64 kind, .int .i64 n, .string s, .slice la ll lc]) rfl (by kernel_rfl) (by kernel_rfl) (by kernel_rfl) (fun _ _ _ h => h) (Or.inl ⟨by rfl, (by intro w hSw; obtain ⟨hs1, hs2, hs3, hs4, hs5, hs6, hs7⟩ := hSw; go_simp)⟩) (by assumption) ?_
        refine wpAnyH_take (i := 7) (oi := _) (v := .int .i64 5) rfl (by kernel_rfl) (by kernel_rfl) (by kernel_rfl) (fun _ _ _ h => h) (Or.inl ⟨by rfl, (by intro w hSw; go_simp)⟩) (by assumption) ?_
        go_simp
        refine wpAnyH_ready (rs := [8]) (by kernel_rfl) (by simp) ?_
        refine AllReadyH.cons (o := _) rfl (fun K hK => ?_) AllReadyH.nil
        go_simp
        refine (unhide HSt).mono ?_
        rintro e w5 ⟨ua, un, uc, v5, l5, rfl, hl5, q1, q2, q3⟩
        have hcs := sp_cells hk q3
        have hg5 := hcs.2 gb (unhide FG)
        rw [unhide FO] at hg5
        have hx5 := hcs.1
        rw [unhide F1, unhide ep] at hx5
        rw [unhide F2, unhide EA] at q1
        have HIN := hide (Inv.put (j := j) q3 (unhide F1) (unhide F2) (unhide F3) (unhide F4) (unhide F5) (unhide F6) (unhide F7) (by have := (unhide F7 k hk).2; omega))
        rw [unhide F2] at q2 HIN
        dsimp only at hg5
        clear hcs hl5 q3 HSt HD0
        go_simp
        refine hK.out _ _ ⟨hx5, q1, hg5⟩ (fun hHeld1 => ?_)
        clear hK
        refine wpAnyH_take (i := 9) (oi := _) (v := .tuple #[.slice ua un uc, .bool true]) rfl (by kernel_rfl) (by kernel_rfl) (by kernel_rfl) (fun _ _ _ h => h) (Or.inl ⟨by rfl, (by intro w hSw; go_simp)⟩) (by assumption) ?_
        refine wpAnyH_take (i := 10) (oi := _) (v := .slice ua un uc) rfl (by kernel_rfl) (by kernel_rfl) (by kernel_rfl) (fun _ _ _ h => h) (Or.inl ⟨by rfl, (by intro w hSw; go_simp)⟩) (by assumption) ?_
        refine wpAnyH_take (i := 11) (oi := _) (v := .bool true) rfl (by kernel_rfl) (by kernel_rfl) (by kernel_rfl) (fun _ _ _ h => h) (Or.inl ⟨by rfl, (by intro w hSw; go_simp)⟩) (by assumption) ?_
        go_simp
        refine wpAnyH_take (i := 12) (oi := _) (v := .slice ua un uc) rfl (by kernel_rfl) (by kernel_rfl) (by kernel_rfl) (fun _ _ _ h => h) (Or.inl ⟨by rfl, (by intro w hSw; go_simp)⟩) (by assumption) ?_
        refine wpAnyH_take (i := 13) (oi := _) (v := .bool true) rfl (by kernel_rfl) (by kernel_rfl) (by kernel_rfl) (fun _ _ _ h => h) (Or.inl ⟨by rfl, (by intro w hSw; go_simp)⟩) (by assumption) ?_
        go_simp
        refine wpAnyH_done (by kernel_rfl) ?_ _
        clear hg5 hx5 hHeld hHeld1
        have hbrl : br < w5.heap.size := World.block_lt_of_cell? _ _ q1
        go_wp2
        go_roundg (gk - 1)
        case measure => have := unhide hj; omega
        case rel => exact ⟨j + 1, by have := unhide hj; unfold Hid; omega, by go_num, HIN⟩
      · have hRla : Rt wa (.slice la ll lc) l := (unhide HRl).below (unhide HA).bel
        have HRla := hide hRla
        have g4 := (unhide GCS).2.2.2.2
        have hgbl : gb < wa.heap.size := World.block_lt_of_cell? _ _ g4
        have hC := hide (lent_any hRla (by rw [unhide ell]; omega))
        obtain ⟨G, hG⟩ : ∃ G, Hid (G = gk) := ⟨gk, rfl⟩
        clear hRla cx cr
        go_wp2_with fail
        refine (unhide hC).mono ?_
        rintro e w5 ⟨u, rfl, hNu⟩
        have hOu := hNu.1
        rw [lentL_length, unhide ell] at hOu
        obtain ⟨g, cu, eu⟩ := own_slice (n := ll + 63) hOu
        subst eu
        have hga : Hid (wa.heap.size ≤ g ∧ g < w5.heap.size) := hNu.1.lt g rfl
        have HOu : Hid (w5.ownsRow 0 9 1 (.slice (some ⟨g, 0, none⟩) (ll + 64) cu) (ll + 64) ((lentL l).map Value.string)) := by
          refine ⟨hOu.1, ?_⟩
          rcases hOu.2 with q | ⟨g', cap', cur, q1, q2, q3⟩
          · exact .inl q
          · exact .inr ⟨g', cap', cur, q1, Nat.zero_le _, q3⟩
        have HBa5 := hide hNu.2
        have hlv5 : w5.cell? ⟨gb, 4, none⟩ = some (.slice la ll lc) := (hNu.2.cell (p := ⟨gb, 4, none⟩) hgbl).trans g4
        have hgb5 : gb < w5.heap.size := Nat.lt_of_lt_of_le hgbl hNu.2.size
        have hRl5 : Rt w5 (.slice la ll lc) l := (unhide HRla).below hNu.2
        have hcu : ll + 64 ≤ cu := by
          rcases hOu.2 with ⟨q, _⟩ | ⟨g', cap', cur, q1, _, _, q3, _⟩
          · cases q
          · cases q1; exact q3
        clear hNu hOu hC g4
        by_cases hnd : l.Nodup
        · have hFr := hide (rfrom_yes hRl5 (by rw [unhide ell]; omega) hnd)
          clear hRl5
          go_wp2_with fail
          refine (unhide hFr).mono ?_
          rintro e w6 ⟨r, rfl, hNr⟩
          obtain ⟨ra, rc, er⟩ := hNr.rt.slice
          rw [unhide ell] at er
          subst er
          have HNr := hide hNr
          have HB56 := hide hNr.2
          clear hNr
          have hlv6 : w6.cell? ⟨gb, 4, none⟩ = some (.slice la ll lc) := ((unhide HB56).cell (p := ⟨gb, 4, none⟩) hgb5).trans hlv5
          have hRu6 : Rt w6 (.slice (some ⟨g, 0, none⟩) (ll + 64) cu) (lentL l) := (Rt.own (rs := lentL l) (by rw [lentL_length, unhide ell]; exact unhide HOu)).below (unhide HB56)
          have hRt6 : Rt w6 (.slice (some ⟨g, 0, none⟩) ll cu) l := by
            have h1 := Rt.take (rs := lentL l) (by rw [lentL_length, unhide ell]; exact hRu6) (j := ll) (by rw [lentL_length, unhide ell]; omega)
            rw [show (lentL l).take ll = l from by unfold lentL; rw [← unhide ell]; simp] at h1
            exact h1
          have hFi := hide (from_yes hRt6 (unhide HOKS) (by rw [unhide ell]; omega) hnd)
          have HRu6 := hide hRu6
          clear hRt6 hRu6 hFr hlv5
          go_wp2_with fail
          refine (unhide hFi).mono ?_
          rintro e w7 ⟨py, rfl, hY⟩
          have HY := hide hY
          have HB67 := hide hY.bel
          clear hY
          have hlv7 : w7.cell? ⟨gb, 4, none⟩ = some (.slice la ll lc) := ((unhide HB67).cell (p := ⟨gb, 4, none⟩) (Nat.lt_of_lt_of_le hgb5 (unhide HB56).size)).trans hlv6
          have hBa7 : Below wa.heap.size wa w7 := (unhide HBa5).trans (((unhide HB56).mono (unhide HBa5).size).trans ((unhide HB67).mono (Nat.le_trans (unhide HBa5).size (unhide HB56).size)))
          have HBa7 := hide hBa7
          have hKe := hide (kept_any ((unhide HRu6).below (unhide HB67)) ((unhide HRla).below hBa7) (by rw [unhide ell]; omega))
          have hOu7 : w7.ownsRow 0 9 1 (.slice (some ⟨g, 0, none⟩) (ll + 64) cu) (ll + 64) ((lentL l).map Value.string) := own_keep (unhide HOu) (fun x hx => by
            have hx2 := ((unhide HOu).lt x hx).2
            rw [(unhide HB67).block x (Nat.lt_of_lt_of_le hx2 (unhide HB56).size), (unhide HB56).block x hx2])
          have HOv : Hid (∃ xs : List ByteArray, xs.length = ll + 64 ∧ w7.ownsRow 0 9 1 (.slice (some ⟨g, 0, none⟩) (ll + 64) cu) (ll + 64) (xs.map Value.string)) := ⟨lentL l, by rw [lentL_length, unhide ell], hOu7⟩
          have hbn := bool_neqS
          clear hlv6 hOu7 hBa7 hFi HRu6
          go_wp2_with fail
          refine (unhide hKe).mono ?_
          rintro e wz ⟨rfl, hwz⟩
          rw [hwz]
          clear hwz wz hKe
          go_wp2_with fail
          go_loopg [16] (ll + 64) (fun g2 t16 wx => ∃ i : Nat, Hid (i + g2 = ll + 64) ∧ t16 = .int .i64 (i : Int) ∧ Hid (Fr (fun x => x = g) w7 wx) ∧ Hid (∃ xs : List ByteArray, xs.length = ll + 64 ∧ wx.ownsRow 0 9 1 (.slice (some ⟨g, 0, none⟩) (ll + 64) cu) (ll + 64) (xs.map Value.string)))
          case atStart => exact ⟨0, by unfold Hid; omega, rfl, Fr.refl _ _, HOv⟩
          case round =>
            clear HOv
            obtain ⟨i, hi, rfl, HF8, HOv⟩ := hrel
            by_cases hin : i < ll + 64
            · obtain ⟨xs, hxl, hxo⟩ := unhide HOv
              have hcx := hxo.cells (g := g) rfl i (.string (tx xs i)) (by rw [List.getElem?_map, List.getElem?_eq_getElem (by omega)]; simp [tx, List.getD, List.getElem?_eq_getElem (show i < xs.length by omega)])
              rw [addr_add0] at hcx
              have hfx : wr.frozen? ⟨g, i, none⟩ = false := by
                rcases hxo.2 with ⟨q, _⟩ | ⟨g', cap', cur, q, _, hgg, _⟩
                · cases q
                · cases q; simp [World.frozen?, hgg]
              have HOv2 : Hid (∃ xs : List ByteArray, xs.length = ll + 64 ∧ (wr.setCell ⟨g, i, none⟩ (.string ⟨#[119, 114, 105, 116, 116, 101, 110, 32, 111, 118, 101, 114]⟩)).ownsRow 0 9 1 (.slice (some ⟨g, 0, none⟩) (ll + 64) cu) (ll + 64) (xs.map Value.string)) := by
                refine ⟨xs.set i ⟨#[119, 114, 105, 116, 116, 101, 110, 32, 111, 118, 101, 114]⟩, by rw [List.length_set]; exact hxl, ?_⟩
                have := own_store (by rw [hxl]; exact hxo) g i rfl ⟨#[119, 114, 105, 116, 116, 101, 110, 32, 111, 118, 101, 114]⟩
                rw [hxl] at this
                exact this
              have HF9 := hide ((unhide HF8).setCell ⟨g, i, none⟩ (.inr rfl) (.string ⟨#[119, 114, 105, 116, 116, 101, 110, 32, 111, 118, 101, 114]⟩))
              have hgl : g < wr.heap.size := World.block_lt_of_cell? _ _ hcx
              have j1 : (0 : Int) ≤ (i : Int) := by omega
              have j2 : (i : Int) < (ll : Int) + 64 := by omega
              clear hxo hxl HOv
              go_wp2
              go_roundg (gk - 1)
              case measure => have := unhide hi; omega
              case rel => exact ⟨i + 1, by have := unhide hi; unfold Hid; omega, by go_num, HF9, HOv2⟩
            · have j2 : ¬ (i : Int) < (ll : Int) + 64 := by omega
              have hBa8 : Below wa.heap.size wa wr := (unhide HBa7).trans ((unhide HF8).below (unhide HBa7).size (fun x hx e => by have := unhide hga; omega))
              obtain ⟨b, v, hIx, _, hp1, hp2, hp3⟩ := unhide HY
              have hw56 := (unhide HB56).size
              have hwa5 := (unhide HBa5).size
              have hg5 := unhide hga
              have hft : ∀ x, Foot py b v x → w6.heap.size ≤ x := fun x hf => by
                rcases hf with q | q | q
                · omega
                · omega
                · exact hp3 x q
              have hI8 : Ix wr py b v l := hIx.keep (unhide HF8) (fun x hf e => by have := hft x hf; omega)
              have hrb : ∀ x, (Value.slice ra ll rc).ownBlock = some x → w5.heap.size ≤ x ∧ x < w6.heap.size := fun x hx => (unhide HNr).1.lt x hx
              have hR8 : Rt wr (.slice ra ll rc) l := (((unhide HNr).rt.below (unhide HB67))).fr (unhide HF8) (fun x hx e => by have := hrb x hx; omega)
              have hz8 := (unhide HF8).size
              have hz67 := (unhide HB67).size
              obtain ⟨q1, q2, q3, q4, q5⟩ := (unhide HA).anew hk hBa8 hI8 (fun x hf => by have := hft x hf; omega) hR8 (fun x hx => by have := hrb x hx; omega) (fun x hx hf => by have := hrb x hx; have := hft x hf; omega)
              have HIN := hide (Inv.put (j := j) q5 (unhide F1) (unhide F2) (unhide F3) (unhide F4) (unhide F5) (unhide F6) (unhide F7) (by rw [unhide ell]; omega))
              rw [unhide F1, unhide F2] at q3 q4 HIN
              rw [unhide F1] at q1 q2
              have hbl : bx < wr.heap.size := World.block_lt_of_cell? _ _ q1
              have hbrl : br < wr.heap.size := by have := World.block_lt_of_cell? _ _ q3; simpa [World.setCell] using this
              clear hIx hp1 hp2 hp3 hft hI8 hrb hR8 q5 hBa8 hz8 hz67 hw56 hwa5
              go_wp2
              go_roundg (G - 1)
              case measure => have := unhide hj; have := unhide hG; omega
              case rel => exact ⟨j + 1, by have := unhide hj; have := unhide hG; unfold Hid; omega, by go_num, HIN⟩
        · have hFr := hide (rfrom_no hRl5 (by rw [unhide ell]; omega) hnd)
          clear hRl5
          go_wp2_with fail
          refine (unhide hFr).mono ?_
          rintro e w6 ⟨rfl, hB56⟩
          have HB56 := hide hB56
          clear hB56
          have hlv6 : w6.cell? ⟨gb, 4, none⟩ = some (.slice la ll lc) := ((unhide HB56).cell (p := ⟨gb, 4, none⟩) hgb5).trans hlv5
          have hRu6 : Rt w6 (.slice (some ⟨g, 0, none⟩) (ll + 64) cu) (lentL l) := (Rt.own (rs := lentL l) (by rw [lentL_length, unhide ell]; exact unhide HOu)).below (unhide HB56)
          have hRt6 : Rt w6 (.slice (some ⟨g, 0, none⟩) ll cu) l := by
            have h1 := Rt.take (rs := lentL l) (by rw [lentL_length, unhide ell]; exact hRu6) (j := ll) (by rw [lentL_length, unhide ell]; omega)
            rw [show (lentL l).take ll = l from by unfold lentL; rw [← unhide ell]; simp] at h1
            exact h1
          have hFi := hide (from_no hRt6 (unhide HOKS) (by rw [unhide ell]; omega) hnd)
          have HRu6 := hide hRu6
          clear hRt6 hRu6 hFr hlv5
          go_wp2_with fail
          refine (unhide hFi).mono ?_
          rintro e w7 ⟨rfl, hB67⟩
          have HB67 := hide hB67
          clear hB67
          have hlv7 : w7.cell? ⟨gb, 4, none⟩ = some (.slice la ll lc) := ((unhide HB67).cell (p := ⟨gb, 4, none⟩) (Nat.lt_of_lt_of_le hgb5 (unhide HB56).size)).trans hlv6
          have hBa7 : Below wa.heap.size wa w7 := (unhide HBa5).trans (((unhide HB56).mono (unhide HBa5).size).trans ((unhide HB67).mono (Nat.le_trans (unhide HBa5).size (unhide HB56).size)))
          have HBa7 := hide hBa7
          have hKe := hide (kept_any ((unhide HRu6).below (unhide HB67)) ((unhide HRla).below hBa7) (by rw [unhide ell]; omega))
          have hOu7 : w7.ownsRow 0 9 1 (.slice (some ⟨g, 0, none⟩) (ll + 64) cu) (ll + 64) ((lentL l).map Value.string) := own_keep (unhide HOu) (fun x hx => by
            have hx2 := ((unhide HOu).lt x hx).2
            rw [(unhide HB67).block x (Nat.lt_of_lt_of_le hx2 (unhide HB56).size), (unhide HB56).block x hx2])
          have HOv : Hid (∃ xs : List ByteArray, xs.length = ll + 64 ∧ w7.ownsRow 0 9 1 (.slice (some ⟨g, 0, none⟩) (ll + 64) cu) (ll + 64) (xs.map Value.string)) := ⟨lentL l, by rw [lentL_length, unhide ell], hOu7⟩
          have hbn := bool_neqS
          clear hlv6 hOu7 hBa7 hFi HRu6
          go_wp2_with fail
          refine (unhide hKe).mono ?_
          rintro e wz ⟨rfl, hwz⟩
          rw [hwz]
          clear hwz wz hKe
          go_wp2_with fail
          go_loopg [16] (ll + 64) (fun g2 t16 wx => ∃ i : Nat, Hid (i + g2 = ll + 64) ∧ t16 = .int .i64 (i : Int) ∧ Hid (Fr (fun x => x = g) w7 wx) ∧ Hid (∃ xs : List ByteArray, xs.length = ll + 64 ∧ wx.ownsRow 0 9 1 (.slice (some ⟨g, 0, none⟩) (ll + 64) cu) (ll + 64) (xs.map Value.string)))
          case atStart => exact ⟨0, by unfold Hid; omega, rfl, Fr.refl _ _, HOv⟩
          case round =>
            clear HOv
            obtain ⟨i, hi, rfl, HF8, HOv⟩ := hrel
            by_cases hin : i < ll + 64
            · obtain ⟨xs, hxl, hxo⟩ := unhide HOv
              have hcx := hxo.cells (g := g) rfl i (.string (tx xs i)) (by rw [List.getElem?_map, List.getElem?_eq_getElem (by omega)]; simp [tx, List.getD, List.getElem?_eq_getElem (show i < xs.length by omega)])
              rw [addr_add0] at hcx
              have hfx : wr.frozen? ⟨g, i, none⟩ = false := by
                rcases hxo.2 with ⟨q, _⟩ | ⟨g', cap', cur, q, _, hgg, _⟩
                · cases q
                · cases q; simp [World.frozen?, hgg]
              have HOv2 : Hid (∃ xs : List ByteArray, xs.length = ll + 64 ∧ (wr.setCell ⟨g, i, none⟩ (.string ⟨#[119, 114, 105, 116, 116, 101, 110, 32, 111, 118, 101, 114]⟩)).ownsRow 0 9 1 (.slice (some ⟨g, 0, none⟩) (ll + 64) cu) (ll + 64) (xs.map Value.string)) := by
                refine ⟨xs.set i ⟨#[119, 114, 105, 116, 116, 101, 110, 32, 111, 118, 101, 114]⟩, by rw [List.length_set]; exact hxl, ?_⟩
                have := own_store (by rw [hxl]; exact hxo) g i rfl ⟨#[119, 114, 105, 116, 116, 101, 110, 32, 111, 118, 101, 114]⟩
                rw [hxl] at this
                exact this
              have HF9 := hide ((unhide HF8).setCell ⟨g, i, none⟩ (.inr rfl) (.string ⟨#[119, 114, 105, 116, 116, 101, 110, 32, 111, 118, 101, 114]⟩))
              have hgl : g < wr.heap.size := World.block_lt_of_cell? _ _ hcx
              have j1 : (0 : Int) ≤ (i : Int) := by omega
              have j2 : (i : Int) < (ll : Int) + 64 := by omega
              clear hxo hxl HOv
              go_wp2
              go_roundg (gk - 1)
              case measure => have := unhide hi; omega
              case rel => exact ⟨i + 1, by have := unhide hi; unfold Hid; omega, by go_num, HF9, HOv2⟩
            · have j2 : ¬ (i : Int) < (ll : Int) + 64 := by omega
              have hBa8 : Below wa.heap.size wa wr := (unhide HBa7).trans ((unhide HF8).below (unhide HBa7).size (fun x hx e => by have := unhide hga; omega))
              have HIN : Hid (Inv w bx br (j + 1) u5 u6 wr) := ⟨d2, (unhide HA).below hBa8, unhide F1, unhide F2, unhide F3, unhide F4, unhide F5, Nat.le_succ_of_le (unhide F6), fun i hi => by have := unhide F7 i hi; exact ⟨this.1, by omega⟩⟩
              clear hBa8
              go_wp2
              go_roundg (G - 1)
              case measure => have := unhide hj; have := unhide hG; omega
              case rel => exact ⟨j + 1, by have := unhide hj; have := unhide hG; unfold Hid; omega, by go_num, HIN⟩
      · have hC := hide (new_any wa)
        go_wp2_with fail
        refine (unhide hC).mono ?_
        rintro e w5 ⟨rfl, hX5, hB5⟩
        obtain ⟨q1, q2, q3, q4, q5⟩ := (unhide HA).anew hk hB5 hX5 (fun x hf => by
          rcases hf with r | r | r
          · omega
          · omega
          · simp [Value.ownBlock] at r) (u := .slice none 0 0) (l' := []) ⟨none, 0, rfl, Nat.le_refl _, Nat.zero_le _, fun i hi => by simp at hi⟩ (fun x hx => by simp [Value.ownBlock] at hx) (fun x hx => by simp [Value.ownBlock] at hx)
        have HIN := hide (Inv.put q5 (unhide F1) (unhide F2) (unhide F3) (unhide F4) (unhide F5) (unhide F6) (unhide F7) (by simp))
        have q6 := q5.bxc k hk
        have q6 : ((w5.setCell ⟨d2.bx, k, none⟩ (.pointer (some ⟨wa.heap.size + 1, 0, none⟩))).setCell ⟨d2.br, k, none⟩ (.slice none 0 0)).cell? ⟨d2.bx, k, none⟩ = some (.pointer (some ⟨wa.heap.size + 1, 0, none⟩)) := by
          have e : (d2.put k (wa.heap.size + 1) wa.heap.size (.slice none 0 0) [] (.slice none 0 0) []).P k = wa.heap.size + 1 := updF_at _ _ _
          rw [e] at q6
          exact q6
        rw [unhide F1, unhide F2] at q3 q4 q6 HIN
        rw [unhide F1] at q1 q2
        have hbl : bx < w5.heap.size := World.block_lt_of_cell? _ _ q1
        clear hC hX5 hB5 q5 cx cr
        go_wp2
        go_roundg (gk - 1)
        case measure => have := unhide hj; omega
        case rel => exact ⟨j + 1, by have := unhide hj; unfold Hid; omega, by go_num, HIN⟩
    · have hjM : j ≤ M := by have := unhide hj; omega
      have hLo := loose_any hS e5 (by omega)
      rw [e3, e4] at hLo
      have HLo := hide hLo
      have HS := hide hS
      have E7 := hide e7
      obtain ⟨p0, ep0⟩ : ∃ p, Hid (d.P 0 = p) := ⟨_, rfl⟩
      obtain ⟨p1, ep1⟩ : ∃ p, Hid (d.P 1 = p) := ⟨_, rfl⟩
      obtain ⟨a0, c0, eA0⟩ := (hS.ar 0 (by omega)).slice
      obtain ⟨a1, c1, eA1⟩ := (hS.ar 1 (by omega)).slice
      obtain ⟨n0, en0⟩ : ∃ n, Hid ((d.dr 0).length = n) := ⟨_, rfl⟩
      obtain ⟨n1, en1⟩ : ∃ n, Hid ((d.dr 1).length = n) := ⟨_, rfl⟩
      rw [unhide en0] at eA0
      rw [unhide en1] at eA1
      have hn0 : n0 ≤ 8796093021952 + j := by rw [← unhide en0, ← (e7 0 (by omega)).1]; exact (e7 0 (by omega)).2
      have hn1 : n1 ≤ 8796093021952 + j := by rw [← unhide en1, ← (e7 1 (by omega)).1]; exact (e7 1 (by omega)).2
      have EA0 := hide eA0
      have EA1 := hide eA1
      have E1 := hide e1
      have E2 := hide e2
      clear hS e1 e2 e3 e4 e5 e6 e7 hLo eA0 eA1 hIn
      go_wp2_with fail
      refine (unhide HLo).mono ?_
      rintro e w4 ⟨rfl, hF4⟩
      obtain ⟨hsp, hB4⟩ := (unhide HS).spent hF4 (fun b q => q)
      have hbelow : ∀ W, Below w4.heap.size w4 W → (W.cell? ⟨bx, 0, none⟩ = some (.pointer (some ⟨p0, 0, none⟩)) ∧ W.cell? ⟨bx, 1, none⟩ = some (.pointer (some ⟨p1, 0, none⟩)) ∧ W.cell? ⟨br, 0, none⟩ = some (.slice a0 n0 c0) ∧ W.cell? ⟨br, 1, none⟩ = some (.slice a1 n1 c1)) ∧ Ix W p0 (d.B 0) (d.V 0) (d.dr 0) ∧ Ix W p1 (d.B 1) (d.V 1) (d.dr 1) ∧ Rt W (.slice a0 n0 c0) (d.dr 0) ∧ Rt W (.slice a1 n1 c1) (d.dr 1) ∧ Below w.heap.size w W := fun W hW => by
        obtain ⟨i0, r0, x0, y0⟩ := hsp 0 (by omega)
        obtain ⟨i1, r1, x1, y1⟩ := hsp 1 (by omega)
        rw [unhide E1, unhide ep0] at x0
        rw [unhide E1, unhide ep1] at x1
        rw [unhide E2, unhide EA0] at y0
        rw [unhide E2, unhide EA1] at y1
        rw [unhide ep0, (unhide E7 0 (by omega)).1] at i0
        rw [unhide ep1, (unhide E7 1 (by omega)).1] at i1
        rw [unhide EA0] at r0
        rw [unhide EA1] at r1
        exact ⟨⟨(hW.cell (p := ⟨bx, 0, none⟩) (World.block_lt_of_cell? _ _ x0)).trans x0, (hW.cell (p := ⟨bx, 1, none⟩) (World.block_lt_of_cell? _ _ x1)).trans x1, (hW.cell (p := ⟨br, 0, none⟩) (World.block_lt_of_cell? _ _ y0)).trans y0, (hW.cell (p := ⟨br, 1, none⟩) (World.block_lt_of_cell? _ _ y1)).trans y1⟩, i0.below hW, i1.below hW, r0.below hW, r1.below hW, hB4.trans (hW.mono hB4.size)⟩
      have HBEL := hide hbelow
      have HBd : Hid (Below w4.heap.size w4 w4.drew) := (Below.refl _ _).drew
      have hIt0 := items_any (unhide HBEL _ (unhide HBd)).2.1 (by rw [unhide en0]; omega)
      rw [unhide en0] at hIt0
      have HIt0 := hide hIt0
      have HSd := hide (unhide HBEL _ (unhide HBd)).1
      clear hF4 hsp hB4 hbelow HLo hIt0
      go_wp2_with fail
      refine wp_region_held_drew (S := fun wx => wx.cell? ⟨bx, 0, none⟩ = some (.pointer (some ⟨p0, 0, none⟩)) ∧ wx.cell? ⟨bx, 1, none⟩ = some (.pointer (some ⟨p1, 0, none⟩)) ∧ wx.cell? ⟨br, 0, none⟩ = some (.slice a0 n0 c0) ∧ wx.cell? ⟨br, 1, none⟩ = some (.slice a1 n1 c1)) (by kernel_rfl) (unhide HSd) (fun hHeld => ?_)
      refine wpAnyH_take (i := 0) (oi := _) (v := .pointer (some ⟨bx, 0, none⟩)) rfl (by kernel_rfl) (by kernel_rfl) (by kernel_rfl) (fun _ _ _ h => h) (Or.inl ⟨by rfl, (by intro w hSw; go_simp)⟩) (by assumption) ?_
      refine wpAnyH_take (i := 1) (oi := _) (v := .pointer (some ⟨p0, 0, none⟩)) rfl (by kernel_rfl) (by kernel_rfl) (by kernel_rfl) (fun _ _ _ h => h) (Or.inl ⟨by rfl, (by intro w hSw; obtain ⟨hs1, hs2, hs3, hs4⟩ := hSw; go_simp)⟩) (by assumption) ?_
      go_simp
      refine wpAnyH_take (i := 3) (oi := _) (v := .pointer (some ⟨br, 0, none⟩)) rfl (by kernel_rfl) (by kernel_rfl) (by kernel_rfl) (fun _ _ _ h => h) (Or.inl ⟨by rfl, (by intro w hSw; go_simp)⟩) (by assumption) ?_
      refine wpAnyH_take (i := 4) (oi := _) (v := .slice a0 n0 c0) rfl (by kernel_rfl) (by kernel_rfl) (by kernel_rfl) (fun _ _ _ h => h) (Or.inl ⟨by rfl, (by intro w hSw; obtain ⟨hs1, hs2, hs3, hs4⟩ := hSw; go_simp)⟩) (by assumption) ?_
      go_simp
      refine wpAnyH_ready (rs := [2]) (by kernel_rfl) (by simp) ?_
      refine AllReadyH.cons (o := _) rfl (fun K hK => ?_) AllReadyH.nil
      go_simp
      refine (unhide HIt0).mono ?_
      rintro e w5 ⟨rfl, hown5, hB5⟩
      have HB45 : Hid (Below w4.heap.size w4 w5) := (unhide HBd).trans (hB5.mono (unhide HBd).size)
      have hSm := hide (same_any (Rt.own (rs := d.dr 0) (by rw [unhide en0]; exact hown5)) (unhide HBEL _ (unhide HB45)).2.2.2.1)
      clear hown5 hB5 HIt0
      go_simp
      refine hK.out _ _ (unhide HBEL _ (unhide HB45)).1 (fun hHeld1 => ?_)
      clear hK
      refine wpAnyH_ready (rs := [5]) (by kernel_rfl) (by simp) ?_
      refine AllReadyH.cons (o := _) rfl (fun K2 hK2 => ?_) AllReadyH.nil
      go_simp
      refine (unhide hSm).mono ?_
      rintro e w6 ⟨rfl, q6, hw6⟩
      have HB46 : Hid (Below w4.heap.size w4 w6) := by rw [hw6]; exact (unhide HB45).trans ((Fr.drewN (S := fun _ => False) (w := w5) q6).below (unhide HB45).size (fun _ _ e => e))
      clear hw6 hSm
      have hIt1 := items_any (unhide HBEL _ (unhide HB46)).2.2.1 (by rw [unhide en1]; omega)
      rw [unhide en1] at hIt1
      have HIt1 := hide hIt1
      clear hIt1
      go_simp
      refine hK2.out _ _ (unhide HBEL _ (unhide HB46)).1 (fun hHeld2 => ?_)
      clear hK2
      refine wpAnyH_take (i := 6) (oi := _) (v := .bool true) rfl (by kernel_rfl) (by kernel_rfl) (by kernel_rfl) (fun _ _ _ h => h) (Or.inl ⟨by rfl, (by intro w hSw; go_simp)⟩) (by assumption) ?_
      go_simp
      refine wpAnyH_take (i := 7) (oi := _) (v := .pointer (some ⟨bx, 1, none⟩)) rfl (by kernel_rfl) (by kernel_rfl) (by kernel_rfl) (fun _ _ _ h => h) (Or.inl ⟨by rfl, (by intro w hSw; go_simp)⟩) (by assumption) ?_
      refine wpAnyH_take (i := 8) (oi := _) (v := .pointer (some ⟨p1, 0, none⟩)) rfl (by kernel_rfl) (by kernel_rfl) (by kernel_rfl) (fun _ _ _ h => h) (Or.inl ⟨by rfl, (by intro w hSw; obtain ⟨hs1, hs2, hs3, hs4⟩ := hSw; go_simp)⟩) (by assumption) ?_
      go_simp
      refine wpAnyH_take (i := 10) (oi := _) (v := .pointer (some ⟨br, 1, none⟩)) rfl (by kernel_rfl) (by kernel_rfl) (by kernel_rfl) (fun _ _ _ h => h) (Or.inl ⟨by rfl, (by intro w hSw; go_simp)⟩) (by assumption) ?_
      refine wpAnyH_take (i := 11) (oi := _) (v := .slice a1 n1 c1) rfl (by kernel_rfl) (by kernel_rfl) (by kernel_rfl) (fun _ _ _ h => h) (Or.inl ⟨by rfl, (by intro w hSw; obtain ⟨hs1, hs2, hs3, hs4⟩ := hSw; go_simp)⟩) (by assumption) ?_
      go_simp
      refine wpAnyH_ready (rs := [9]) (by kernel_rfl) (by simp) ?_
      refine AllReadyH.cons (o := _) rfl (fun K3 hK3 => ?_) AllReadyH.nil
      go_simp
      refine (unhide HIt1).mono ?_
      rintro e w7 ⟨rfl, hown7, hB7⟩
      have HB47 : Hid (Below w4.heap.size w4 w7) := (unhide HB46).trans (hB7.mono (unhide HB46).size)
      have hSm := hide (same_any (Rt.own (rs := d.dr 1) (by rw [unhide en1]; exact hown7)) (unhide HBEL _ (unhide HB47)).2.2.2.2.1)
      clear hown7 hB7 HIt1
      go_simp
      refine hK3.out _ _ (unhide HBEL _ (unhide HB47)).1 (fun hHeld3 => ?_)
      clear hK3
      refine wpAnyH_ready (rs := [12]) (by kernel_rfl) (by simp) ?_
      refine AllReadyH.cons (o := _) rfl (fun K4 hK4 => ?_) AllReadyH.nil
      go_simp
      refine (unhide hSm).mono ?_
      rintro e w8 ⟨rfl, q8, hw8⟩
      have HB48 : Hid (Below w4.heap.size w4 w8) := by rw [hw8]; exact (unhide HB47).trans ((Fr.drewN (S := fun _ => False) (w := w7) q8).below (unhide HB47).size (fun _ _ e => e))
      clear hw8 hSm
      go_simp
      refine hK4.out _ _ (unhide HBEL _ (unhide HB48)).1 (fun hHeld4 => ?_)
      clear hK4
      refine wpAnyH_take (i := 13) (oi := _) (v := .bool true) rfl (by kernel_rfl) (by kernel_rfl) (by kernel_rfl) (fun _ _ _ h => h) (Or.inl ⟨by rfl, (by intro w hSw; go_simp)⟩) (by assumption) ?_
      refine wpAnyH_take (i := 14) (oi := _) (v := .bool true) rfl (by kernel_rfl) (by kernel_rfl) (by kernel_rfl) (fun _ _ _ h => h) (Or.inl ⟨by rfl, (by intro w hSw; go_simp)⟩) (by assumption) ?_
      go_simp
      refine wpAnyH_done (by kernel_rfl) ?_ _
      have HFIN := hide (unhide HBEL _ (unhide HB48)).2.2.2.2.2
      clear hHeld hHeld1 hHeld2 hHeld3 hHeld4
      go_wp2
      go_ret
      exact ⟨rfl, unhide HFIN⟩
end Go.Proofs.Ythmcalapofjmfaa
