/-
  Is an instruction idle: the document's side.
-/
import Derived.Test.YtiamoinhmkhaoaaFd0
namespace Go.Proofs.Ytiamoinhmkhaoaa
open Go.RowKit
set_option linter.unusedVariables false
set_option linter.unusedSimpArgs false
set_option maxRecDepth 100000 in
set_option maxHeartbeats 12800000 in
theorem idleR_any {w : World} {D : Nat → Prop} {Z : Nat → Prop} {fn regs : Int} {bl : List Bk} {v tv : Value} {uss : List (List Rset)} {ts : List T2} {b i : Nat} {u : Bk} {x : RIn} (h : BksV D w bl v) (hT : TM Z w tv uss ts) (hs : Shp bl uss) (hsup : ∀ b i, Sup (tab uss b i)) (hN : bl.length ≤ 1048576) (hu : bl[b]? = some u) (hx : u.ins[i]? = some x) (hI : u.ins.length ≤ 1048576) :
    Calls Try.prog 14 #[.agg #[.int .i64 fn, .int .i64 regs, v], tv, .int .i64 (b : Int), .int .i64 (i : Int)] w fun e w' => e = .returned (.bool (idle (tab uss b (i + 1)) x)) ∧ Below w.heap.size w w' := by
  obtain ⟨va, vc, rfl, hv1, hv2⟩ := NV.shape h
  obtain ⟨N, hNN⟩ : ∃ z, Hid (bl.length = z) := ⟨_, hide rfl⟩
  have hbN : b < N := by rw [← unhide hNN]; exact (List.getElem?_eq_some_iff.1 hu).1
  obtain ⟨n, hnn⟩ : ∃ z, Hid (u.ins.length = z) := ⟨_, hide rfl⟩
  have hin : i < n := by rw [← unhide hnn]; exact (List.getElem?_eq_some_iff.1 hx).1
  obtain ⟨vb, vo, ia, ic, na, nc, ea, hvb, hIns, _, hic, _, hicl, _, hcc⟩ := h.blk hu
  subst ea
  obtain ⟨ib, io, aa, ac, ea, ec, e4, hib, hP, ha1, ha2, he1, he2, hcx⟩ := InsV.at8 hIns hx
  subst e4
  obtain ⟨i1, hi1⟩ : ∃ z : Nat, Hid (i + 1 = z) := ⟨_, hide rfl⟩
  have hi1' := unhide hi1
  obtain ⟨us, M1, hus, hM1, hTM1, hul⟩ := hs.at hu (i := i1) (by rw [unhide hnn]; omega)
  obtain ⟨tb, tof, tc, ra, ro, rc, g1, go1, gc1, et, x1, x2, x3, x4, x5, x6, _, _⟩ := hT.read hus hM1
  rw [hs.len] at et
  subst et
  have hsp := hsup b i1
  rw [hTM1] at hsp
  rw [hi1', hTM1]
  rw [unhide hnn] at hul hI hcc hicl
  rw [hul] at x2
  rw [unhide hNN] at hN hv1 ⊢
  unfold maxLen at hv2 hic ha2 he2
  obtain ⟨W0, hW0⟩ : ∃ W, Hid (w.alloc (.cells #[.int .i64 fn, .int .i64 regs, .slice (some ⟨vb, vo, none⟩) N vc] 24) = W) := ⟨_, hide rfl⟩
  have hB0 : Below w.heap.size w W0 := by rw [← unhide hW0]; exact box1n w _
  have hz0 : W0.heap.size = w.heap.size + 1 := by rw [← unhide hW0]; simp
  have hn := heap_alloc_new w (.cells #[.int .i64 fn, .int .i64 regs, .slice (some ⟨vb, vo, none⟩) N vc] 24)
  rw [unhide hW0] at hn
  have c2 := (blk_cells hn).1 2
  have cl := (blk_cells hn).2.2
  simp at c2
  obtain ⟨t0, _, t1, _⟩ := hcc W0 hB0
  obtain ⟨AL, hAL⟩ : ∃ z, Hid (x.args.length = z) := ⟨_, hide rfl⟩
  obtain ⟨EL, hEL⟩ : ∃ z, Hid (x.ex.length = z) := ⟨_, hide rfl⟩
  rw [unhide hAL, unhide hEL] at hcx
  obtain ⟨k0, k1, k2, k3, k4, k5, k6, k7, k8⟩ := hcx W0 hB0
  obtain ⟨W, hW⟩ : ∃ W, Hid (W0.alloc (.cells #[.int .i64 x.op, .int .i64 x.code, .int .i64 x.dst, .slice aa AL ac, .int .i64 x.n, .int .i64 x.pc, .int .i64 x.need, .slice ea EL ec] 43) = W) := ⟨_, hide rfl⟩
  have hBW : Below W0.heap.size W0 W := by rw [← unhide hW]; exact box1n W0 _
  have HW : Hid (Below w.heap.size w W) := hB0.trans (hBW.mono hB0.size)
  have hnW := heap_alloc_new W0 (.cells #[.int .i64 x.op, .int .i64 x.code, .int .i64 x.dst, .slice aa AL ac, .int .i64 x.n, .int .i64 x.pc, .int .i64 x.need, .slice ea EL ec] 43)
  rw [unhide hW, hz0] at hnW
  have HR1 : Hid (∀ V, Below W.heap.size W V → w.heap.size + 1 < V.heap.size ∧ V.cell? ⟨w.heap.size + 1, 0, none⟩ = some (.int .i64 x.op) ∧ V.cell? ⟨w.heap.size + 1, 1, none⟩ = some (.int .i64 x.code) ∧ V.cell? ⟨w.heap.size + 1, 2, none⟩ = some (.int .i64 x.dst) ∧ V.cell? ⟨w.heap.size + 1, 3, none⟩ = some (.slice aa AL ac) ∧ V.cell? ⟨w.heap.size + 1, 4, none⟩ = some (.int .i64 x.n) ∧ V.cell? ⟨w.heap.size + 1, 5, none⟩ = some (.int .i64 x.pc) ∧ V.cell? ⟨w.heap.size + 1, 6, none⟩ = some (.int .i64 x.need) ∧ V.cell? ⟨w.heap.size + 1, 7, none⟩ = some (.slice ea EL ec)) := fun V hV => by
    obtain ⟨q1, _, q3⟩ := blk_cells ((hV.block _ (Array.getElem?_eq_some_iff.1 hnW).1).trans hnW)
    exact ⟨q3, q1 0, q1 1, q1 2, q1 3, q1 4, q1 5, q1 6, q1 7⟩
  have HR2 : Hid (∀ V, Below W.heap.size W V → V.cell? ⟨tb, tof + b, none⟩ = some (.slice (some ⟨ra, ro, none⟩) (n + 1) rc) ∧ tb < V.heap.size ∧ V.cell? ⟨ra, ro + i1, none⟩ = some (.slice (some ⟨g1, go1, none⟩) 512 gc1) ∧ ra < V.heap.size) := fun V hV => by
    have hwV := (unhide HW).trans (hV.mono (unhide HW).size)
    exact ⟨(hwV.cell (p := ⟨tb, tof + b, none⟩) x1).trans x2, Nat.lt_of_lt_of_le x1 hwV.size, (hwV.cell (p := ⟨ra, ro + i1, none⟩) x3).trans x4, Nat.lt_of_lt_of_le x3 hwV.size⟩
  have HIN : Hid (∀ V, Below W.heap.size W V → Calls Try.prog 35 #[.slice (some ⟨g1, go1, none⟩) 512 gc1, .int .i64 x.dst] V fun e w' => e = .returned (.bool (inS M1 x.dst)) ∧ ∃ m, w' = V.drewN m) := fun V hV => in_any (Ro.fr x6 (Fr.of_below (S := fun _ => False) ((unhide HW).trans (hV.mono (unhide HW).size))) (fun _ _ e => e)) hsp x.dst
  have HQU : Hid (∀ V, Calls Try.prog 34 #[.agg #[.int .i64 x.op, .int .i64 x.code, .int .i64 x.dst, .slice aa AL ac, .int .i64 x.n, .int .i64 x.pc, .int .i64 x.need, .slice ea EL ec]] V fun e w' => e = .returned (.bool (quiet x)) ∧ Below V.heap.size V w') := fun V => quiet_any rfl
  have HS0 : Hid (Below W.heap.size W W.drew) := bl_drew W
  have b0 : (0 : Int) ≤ (b : Int) := by omega
  have b1 : (b : Int) < (N : Int) := by omega
  have j0 : (0 : Int) ≤ (i : Int) := by omega
  have j1 : (i : Int) < (n : Int) := by omega
  have ei1 : (i : Int) + 1 = (i1 : Int) := by omega
  have j2 : (0 : Int) ≤ (i1 : Int) := by omega
  have j3 : (i1 : Int) < (n : Int) + 1 := by omega
  have wi1 : IntKind.i64.wrap (i1 : Int) = (i1 : Int) := by go_arith
  have hW' := unhide hW
  have hW0' := unhide hW0
  clear h hT hs hsup hu hx hP hIns hus hM1 hTM1 hul x1 x2 x3 x4 x5 x6 hsp hn hnW hBW hB0
  cases hq : quiet x with
  | false =>
    have HVL : Hid (idle M1 x = false) := by unfold Hid; simp [idle, hq]
    rw [hq] at HQU
    clear hq HIN
    go_enter Try.func14, Try.ntmps14
    go_wp2_with fail
    clear c2 cl t0 t1 k0 k1 k2 k3 k4 k5 k6 k7 k8 hcc hcx
    refine wp_region_held_drew (S := fun V => Below W.heap.size W V) (by kernel_rfl) (unhide HS0) (fun hHeld => ?_)
    clear hHeld
    refine wpAnyH_take (i := 0) (oi := _) (v := .agg #[.int .i64 x.op, .int .i64 x.code, .int .i64 x.dst, .slice aa AL ac, .int .i64 x.n, .int .i64 x.pc, .int .i64 x.need, .slice ea EL ec]) rfl (by kernel_rfl) (by kernel_rfl) (by kernel_rfl) (fun _ _ _ h => h) (Or.inl ⟨by rfl, (by intro w' hSw; obtain ⟨q0, q1, q2, q3, q4, q5, q6, q7, q8⟩ := unhide HR1 w' hSw; go_simp; first | done | rfl)⟩) (unhide HS0) ?_
    go_simp
    refine wpAnyH_ready (rs := [1]) (by kernel_rfl) (by simp) ?_
    refine AllReadyH.cons (o := _) rfl (fun K hK => ?_) AllReadyH.nil
    go_simp
    refine (unhide HQU _).mono ?_
    rintro e Y ⟨rfl, hY⟩
    have HY : Hid (Below W.heap.size W Y) := (unhide HS0).trans hY
    refine hK.out _ _ (unhide HY) (fun hHeld => ?_)
    clear hHeld hK K hY
    refine wpAnyH_take (i := 2) (oi := _) (v := .bool false) rfl (by kernel_rfl) (by kernel_rfl) (by kernel_rfl) (fun _ _ _ h => h) (Or.inl ⟨by rfl, (by intro w' hSw; go_simp; first | done | rfl)⟩) (unhide HY) ?_
    go_simp
    refine wpAnyH_take (i := 3) (oi := _) (v := undef) rfl (by kernel_rfl) (by kernel_rfl) (by kernel_rfl) (fun _ _ _ h => h) (Or.inr ⟨by rfl, rfl⟩) (unhide HY) ?_
    go_simp
    refine wpAnyH_take (i := 4) (oi := _) (v := undef) rfl (by kernel_rfl) (by kernel_rfl) (by kernel_rfl) (fun _ _ _ h => h) (Or.inr ⟨by rfl, rfl⟩) (unhide HY) ?_
    go_simp
    refine wpAnyH_take (i := 5) (oi := _) (v := undef) rfl (by kernel_rfl) (by kernel_rfl) (by kernel_rfl) (fun _ _ _ h => h) (Or.inr ⟨by rfl, rfl⟩) (unhide HY) ?_
    go_simp
    refine wpAnyH_take (i := 6) (oi := _) (v := undef) rfl (by kernel_rfl) (by kernel_rfl) (by kernel_rfl) (fun _ _ _ h => h) (Or.inr ⟨by rfl, rfl⟩) (unhide HY) ?_
    go_simp
    refine wpAnyH_take (i := 7) (oi := _) (v := undef) rfl (by kernel_rfl) (by kernel_rfl) (by kernel_rfl) (fun _ _ _ h => h) (Or.inr ⟨by rfl, rfl⟩) (unhide HY) ?_
    go_simp
    refine wpAnyH_take (i := 8) (oi := _) (v := undef) rfl (by kernel_rfl) (by kernel_rfl) (by kernel_rfl) (fun _ _ _ h => h) (Or.inr ⟨by rfl, rfl⟩) (unhide HY) ?_
    go_simp
    refine wpAnyH_take (i := 9) (oi := _) (v := undef) rfl (by kernel_rfl) (by kernel_rfl) (by kernel_rfl) (fun _ _ _ h => h) (Or.inr ⟨by rfl, rfl⟩) (unhide HY) ?_
    go_simp
    refine wpAnyH_take (i := 10) (oi := _) (v := undef) rfl (by kernel_rfl) (by kernel_rfl) (by kernel_rfl) (fun _ _ _ h => h) (Or.inr ⟨by rfl, rfl⟩) (unhide HY) ?_
    go_simp
    refine wpAnyH_take (i := 11) (oi := _) (v := undef) rfl (by kernel_rfl) (by kernel_rfl) (by kernel_rfl) (fun _ _ _ h => h) (Or.inr ⟨by rfl, rfl⟩) (unhide HY) ?_
    go_simp
    refine wpAnyH_take (i := 12) (oi := _) (v := undef) rfl (by kernel_rfl) (by kernel_rfl) (by kernel_rfl) (fun _ _ _ h => h) (Or.inr ⟨by rfl, rfl⟩) (unhide HY) ?_
    go_simp
    refine wpAnyH_take (i := 13) (oi := _) (v := undef) rfl (by kernel_rfl) (by kernel_rfl) (by kernel_rfl) (fun _ _ _ h => h) (Or.inr ⟨by rfl, rfl⟩) (unhide HY) ?_
    go_simp
    refine wpAnyH_take (i := 14) (oi := _) (v := undef) rfl (by kernel_rfl) (by kernel_rfl) (by kernel_rfl) (fun _ _ _ h => h) (Or.inr ⟨by rfl, rfl⟩) (unhide HY) ?_
    go_simp
    refine wpAnyH_take (i := 15) (oi := _) (v := .bool false) rfl (by kernel_rfl) (by kernel_rfl) (by kernel_rfl) (fun _ _ _ h => h) (Or.inl ⟨by rfl, (by intro w' hSw; go_simp; first | done | rfl)⟩) (unhide HY) ?_
    go_simp
    refine wpAnyH_take (i := 16) (oi := _) (v := .bool false) rfl (by kernel_rfl) (by kernel_rfl) (by kernel_rfl) (fun _ _ _ h => h) (Or.inl ⟨by rfl, (by intro w' hSw; go_simp; first | done | rfl)⟩) (unhide HY) ?_
    go_simp
    refine wpAnyH_done (by kernel_rfl) ?_ _
    go_wp2_with fail
    go_ret
    exact ⟨by rw [unhide HVL]; rfl, (unhide HW).trans ((unhide HY).mono (unhide HW).size)⟩

  | true =>
    rw [hq] at HQU
    cases hi2 : inS M1 x.dst with
    | true =>
      have HVL : Hid (idle M1 x = false) := by unfold Hid; simp [idle, hq, hi2]
      rw [hi2] at HIN
      clear hq hi2
      go_enter Try.func14, Try.ntmps14
      go_wp2_with fail
      clear c2 cl t0 t1 k0 k1 k2 k3 k4 k5 k6 k7 k8 hcc hcx
      refine wp_region_held_drew (S := fun V => Below W.heap.size W V) (by kernel_rfl) (unhide HS0) (fun hHeld => ?_)
      clear hHeld
      refine wpAnyH_take (i := 0) (oi := _) (v := .agg #[.int .i64 x.op, .int .i64 x.code, .int .i64 x.dst, .slice aa AL ac, .int .i64 x.n, .int .i64 x.pc, .int .i64 x.need, .slice ea EL ec]) rfl (by kernel_rfl) (by kernel_rfl) (by kernel_rfl) (fun _ _ _ h => h) (Or.inl ⟨by rfl, (by intro w' hSw; obtain ⟨q0, q1, q2, q3, q4, q5, q6, q7, q8⟩ := unhide HR1 w' hSw; go_simp; first | done | rfl)⟩) (unhide HS0) ?_
      go_simp
      refine wpAnyH_ready (rs := [1]) (by kernel_rfl) (by simp) ?_
      refine AllReadyH.cons (o := _) rfl (fun K hK => ?_) AllReadyH.nil
      go_simp
      refine (unhide HQU _).mono ?_
      rintro e Y ⟨rfl, hY⟩
      have HY : Hid (Below W.heap.size W Y) := (unhide HS0).trans hY
      refine hK.out _ _ (unhide HY) (fun hHeld => ?_)
      clear hHeld hK K hY
      refine wpAnyH_take (i := 2) (oi := _) (v := .bool true) rfl (by kernel_rfl) (by kernel_rfl) (by kernel_rfl) (fun _ _ _ h => h) (Or.inl ⟨by rfl, (by intro w' hSw; go_simp; first | done | rfl)⟩) (unhide HY) ?_
      go_simp
      refine wpAnyH_take (i := 3) (oi := _) (v := .slice (some ⟨tb, tof, none⟩) N tc) rfl (by kernel_rfl) (by kernel_rfl) (by kernel_rfl) (fun _ _ _ h => h) (Or.inl ⟨by rfl, (by intro w' hSw; go_simp; first | done | rfl)⟩) (unhide HY) ?_
      go_simp
      refine wpAnyH_take (i := 4) (oi := _) (v := .int .i64 (b : Int)) rfl (by kernel_rfl) (by kernel_rfl) (by kernel_rfl) (fun _ _ _ h => h) (Or.inl ⟨by rfl, (by intro w' hSw; go_simp; first | done | rfl)⟩) (unhide HY) ?_
      go_simp
      refine wpAnyH_take (i := 5) (oi := _) (v := .pointer (some ⟨tb, tof + b, none⟩)) rfl (by kernel_rfl) (by kernel_rfl) (by kernel_rfl) (fun _ _ _ h => h) (Or.inl ⟨by rfl, (by intro w' hSw; go_simp; first | done | rfl)⟩) (unhide HY) ?_
      go_simp
      refine wpAnyH_take (i := 6) (oi := _) (v := .slice (some ⟨ra, ro, none⟩) (n + 1) rc) rfl (by kernel_rfl) (by kernel_rfl) (by kernel_rfl) (fun _ _ _ h => h) (Or.inl ⟨by rfl, (by intro w' hSw; obtain ⟨s1, s2, s3, s4⟩ := unhide HR2 w' hSw; go_simp; first | done | rfl)⟩) (unhide HY) ?_
      go_simp
      refine wpAnyH_take (i := 7) (oi := _) (v := .int .i64 (i : Int)) rfl (by kernel_rfl) (by kernel_rfl) (by kernel_rfl) (fun _ _ _ h => h) (Or.inl ⟨by rfl, (by intro w' hSw; go_simp; first | done | rfl)⟩) (unhide HY) ?_
      go_simp
      refine wpAnyH_take (i := 8) (oi := _) (v := .int .i64 (i1 : Int)) rfl (by kernel_rfl) (by kernel_rfl) (by kernel_rfl) (fun _ _ _ h => h) (Or.inl ⟨by rfl, (by intro w' hSw; go_simp; first | done | rfl)⟩) (unhide HY) ?_
      go_simp
      refine wpAnyH_take (i := 9) (oi := _) (v := .pointer (some ⟨ra, ro + i1, none⟩)) rfl (by kernel_rfl) (by kernel_rfl) (by kernel_rfl) (fun _ _ _ h => h) (Or.inl ⟨by rfl, (by intro w' hSw; go_simp; first | done | rfl)⟩) (unhide HY) ?_
      go_simp
      refine wpAnyH_take (i := 10) (oi := _) (v := .slice (some ⟨g1, go1, none⟩) 512 gc1) rfl (by kernel_rfl) (by kernel_rfl) (by kernel_rfl) (fun _ _ _ h => h) (Or.inl ⟨by rfl, (by intro w' hSw; obtain ⟨s1, s2, s3, s4⟩ := unhide HR2 w' hSw; go_simp; first | done | rfl)⟩) (unhide HY) ?_
      go_simp
      refine wpAnyH_take (i := 11) (oi := _) (v := .pointer (some ⟨w.heap.size + 1, 2, none⟩)) rfl (by kernel_rfl) (by kernel_rfl) (by kernel_rfl) (fun _ _ _ h => h) (Or.inl ⟨by rfl, (by intro w' hSw; go_simp; first | done | rfl)⟩) (unhide HY) ?_
      go_simp
      refine wpAnyH_take (i := 12) (oi := _) (v := .int .i64 x.dst) rfl (by kernel_rfl) (by kernel_rfl) (by kernel_rfl) (fun _ _ _ h => h) (Or.inl ⟨by rfl, (by intro w' hSw; obtain ⟨q0, q1, q2, q3, q4, q5, q6, q7, q8⟩ := unhide HR1 w' hSw; go_simp; first | done | rfl)⟩) (unhide HY) ?_
      go_simp
      refine wpAnyH_ready (rs := [13]) (by kernel_rfl) (by simp) ?_
      refine AllReadyH.cons (o := _) rfl (fun K hK => ?_) AllReadyH.nil
      go_simp
      refine (unhide HIN _ (unhide HY)).mono ?_
      rintro e Y2 ⟨rfl, m2, hm2⟩
      have HY2 : Hid (Below W.heap.size W Y2) := by rw [hm2]; exact (unhide HY).trans ((bl_drewN Y m2).mono (unhide HY).size)
      refine hK.out _ _ (unhide HY2) (fun hHeld => ?_)
      clear hHeld hK K hm2
      refine wpAnyH_take (i := 14) (oi := _) (v := .bool false) rfl (by kernel_rfl) (by kernel_rfl) (by kernel_rfl) (fun _ _ _ h => h) (Or.inl ⟨by rfl, (by intro w' hSw; go_simp; first | done | rfl)⟩) (unhide HY2) ?_
      go_simp
      refine wpAnyH_take (i := 15) (oi := _) (v := .bool false) rfl (by kernel_rfl) (by kernel_rfl) (by kernel_rfl) (fun _ _ _ h => h) (Or.inl ⟨by rfl, (by intro w' hSw; go_simp; first | done | rfl)⟩) (unhide HY2) ?_
      go_simp
      refine wpAnyH_take (i := 16) (oi := _) (v := .bool false) rfl (by kernel_rfl) (by kernel_rfl) (by kernel_rfl) (fun _ _ _ h => h) (Or.inl ⟨by rfl, (by intro w' hSw; go_simp; first | done | rfl)⟩) (unhide HY2) ?_
      go_simp
      refine wpAnyH_done (by kernel_rfl) ?_ _
      go_wp2_with fail
      go_ret
      exact ⟨by rw [unhide HVL]; rfl, (unhide HW).trans ((unhide HY2).mono (unhide HW).size)⟩

    | false =>
      have HVL : Hid (idle M1 x = true) := by unfold Hid; simp [idle, hq, hi2]
      rw [hi2] at HIN
      clear hq hi2
      go_enter Try.func14, Try.ntmps14
      go_wp2_with fail
      clear c2 cl t0 t1 k0 k1 k2 k3 k4 k5 k6 k7 k8 hcc hcx
      refine wp_region_held_drew (S := fun V => Below W.heap.size W V) (by kernel_rfl) (unhide HS0) (fun hHeld => ?_)
      clear hHeld
      refine wpAnyH_take (i := 0) (oi := _) (v := .agg #[.int .i64 x.op, .int .i64 x.code, .int .i64 x.dst, .slice aa AL ac, .int .i64 x.n, .int .i64 x.pc, .int .i64 x.need, .slice ea EL ec]) rfl (by kernel_rfl) (by kernel_rfl) (by kernel_rfl) (fun _ _ _ h => h) (Or.inl ⟨by rfl, (by intro w' hSw; obtain ⟨q0, q1, q2, q3, q4, q5, q6, q7, q8⟩ := unhide HR1 w' hSw; go_simp; first | done | rfl)⟩) (unhide HS0) ?_
      go_simp
      refine wpAnyH_ready (rs := [1]) (by kernel_rfl) (by simp) ?_
      refine AllReadyH.cons (o := _) rfl (fun K hK => ?_) AllReadyH.nil
      go_simp
      refine (unhide HQU _).mono ?_
      rintro e Y ⟨rfl, hY⟩
      have HY : Hid (Below W.heap.size W Y) := (unhide HS0).trans hY
      refine hK.out _ _ (unhide HY) (fun hHeld => ?_)
      clear hHeld hK K hY
      refine wpAnyH_take (i := 2) (oi := _) (v := .bool true) rfl (by kernel_rfl) (by kernel_rfl) (by kernel_rfl) (fun _ _ _ h => h) (Or.inl ⟨by rfl, (by intro w' hSw; go_simp; first | done | rfl)⟩) (unhide HY) ?_
      go_simp
      refine wpAnyH_take (i := 3) (oi := _) (v := .slice (some ⟨tb, tof, none⟩) N tc) rfl (by kernel_rfl) (by kernel_rfl) (by kernel_rfl) (fun _ _ _ h => h) (Or.inl ⟨by rfl, (by intro w' hSw; go_simp; first | done | rfl)⟩) (unhide HY) ?_
      go_simp
      refine wpAnyH_take (i := 4) (oi := _) (v := .int .i64 (b : Int)) rfl (by kernel_rfl) (by kernel_rfl) (by kernel_rfl) (fun _ _ _ h => h) (Or.inl ⟨by rfl, (by intro w' hSw; go_simp; first | done | rfl)⟩) (unhide HY) ?_
      go_simp
      refine wpAnyH_take (i := 5) (oi := _) (v := .pointer (some ⟨tb, tof + b, none⟩)) rfl (by kernel_rfl) (by kernel_rfl) (by kernel_rfl) (fun _ _ _ h => h) (Or.inl ⟨by rfl, (by intro w' hSw; go_simp; first | done | rfl)⟩) (unhide HY) ?_
      go_simp
      refine wpAnyH_take (i := 6) (oi := _) (v := .slice (some ⟨ra, ro, none⟩) (n + 1) rc) rfl (by kernel_rfl) (by kernel_rfl) (by kernel_rfl) (fun _ _ _ h => h) (Or.inl ⟨by rfl, (by intro w' hSw; obtain ⟨s1, s2, s3, s4⟩ := unhide HR2 w' hSw; go_simp; first | done | rfl)⟩) (unhide HY) ?_
      go_simp
      refine wpAnyH_take (i := 7) (oi := _) (v := .int .i64 (i : Int)) rfl (by kernel_rfl) (by kernel_rfl) (by kernel_rfl) (fun _ _ _ h => h) (Or.inl ⟨by rfl, (by intro w' hSw; go_simp; first | done | rfl)⟩) (unhide HY) ?_
      go_simp
      refine wpAnyH_take (i := 8) (oi := _) (v := .int .i64 (i1 : Int)) rfl (by kernel_rfl) (by kernel_rfl) (by kernel_rfl) (fun _ _ _ h => h) (Or.inl ⟨by rfl, (by intro w' hSw; go_simp; first | done | rfl)⟩) (unhide HY) ?_
      go_simp
      refine wpAnyH_take (i := 9) (oi := _) (v := .pointer (some ⟨ra, ro + i1, none⟩)) rfl (by kernel_rfl) (by kernel_rfl) (by kernel_rfl) (fun _ _ _ h => h) (Or.inl ⟨by rfl, (by intro w' hSw; go_simp; first | done | rfl)⟩) (unhide HY) ?_
      go_simp
      refine wpAnyH_take (i := 10) (oi := _) (v := .slice (some ⟨g1, go1, none⟩) 512 gc1) rfl (by kernel_rfl) (by kernel_rfl) (by kernel_rfl) (fun _ _ _ h => h) (Or.inl ⟨by rfl, (by intro w' hSw; obtain ⟨s1, s2, s3, s4⟩ := unhide HR2 w' hSw; go_simp; first | done | rfl)⟩) (unhide HY) ?_
      go_simp
      refine wpAnyH_take (i := 11) (oi := _) (v := .pointer (some ⟨w.heap.size + 1, 2, none⟩)) rfl (by kernel_rfl) (by kernel_rfl) (by kernel_rfl) (fun _ _ _ h => h) (Or.inl ⟨by rfl, (by intro w' hSw; go_simp; first | done | rfl)⟩) (unhide HY) ?_
      go_simp
      refine wpAnyH_take (i := 12) (oi := _) (v := .int .i64 x.dst) rfl (by kernel_rfl) (by kernel_rfl) (by kernel_rfl) (fun _ _ _ h => h) (Or.inl ⟨by rfl, (by intro w' hSw; obtain ⟨q0, q1, q2, q3, q4, q5, q6, q7, q8⟩ := unhide HR1 w' hSw; go_simp; first | done | rfl)⟩) (unhide HY) ?_
      go_simp
      refine wpAnyH_ready (rs := [13]) (by kernel_rfl) (by simp) ?_
      refine AllReadyH.cons (o := _) rfl (fun K hK => ?_) AllReadyH.nil
      go_simp
      refine (unhide HIN _ (unhide HY)).mono ?_
      rintro e Y2 ⟨rfl, m2, hm2⟩
      have HY2 : Hid (Below W.heap.size W Y2) := by rw [hm2]; exact (unhide HY).trans ((bl_drewN Y m2).mono (unhide HY).size)
      refine hK.out _ _ (unhide HY2) (fun hHeld => ?_)
      clear hHeld hK K hm2
      refine wpAnyH_take (i := 14) (oi := _) (v := .bool true) rfl (by kernel_rfl) (by kernel_rfl) (by kernel_rfl) (fun _ _ _ h => h) (Or.inl ⟨by rfl, (by intro w' hSw; go_simp; first | done | rfl)⟩) (unhide HY2) ?_
      go_simp
      refine wpAnyH_take (i := 15) (oi := _) (v := .bool true) rfl (by kernel_rfl) (by kernel_rfl) (by kernel_rfl) (fun _ _ _ h => h) (Or.inl ⟨by rfl, (by intro w' hSw; go_simp; first | done | rfl)⟩) (unhide HY2) ?_
      go_simp
      refine wpAnyH_take (i := 16) (oi := _) (v := .bool true) rfl (by kernel_rfl) (by kernel_rfl) (by kernel_rfl) (fun _ _ _ h => h) (Or.inl ⟨by rfl, (by intro w' hSw; go_simp; first | done | rfl)⟩) (unhide HY2) ?_
      go_simp
      refine wpAnyH_done (by kernel_rfl) ?_ _
      go_wp2_with fail
      go_ret
      exact ⟨by rw [unhide HVL]; rfl, (unhide HW).trans ((unhide HY2).mono (unhide HW).size)⟩

end Go.Proofs.Ytiamoinhmkhaoaa
