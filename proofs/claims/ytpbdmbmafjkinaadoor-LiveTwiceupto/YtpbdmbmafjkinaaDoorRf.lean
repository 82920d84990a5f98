/-
  The document's Run.
-/
import Derived.Test.YtpbdmbmafjkinaaDoorFd0
import Derived.Test.YtpbdmbmafjkinaaDoorCr
import Derived.Test.YtpbdmbmafjkinaaDoorFd
namespace Go.Proofs.YtpbdmbmafjkinaaDoor
open Go.RowKit
set_option linter.unusedVariables false
set_option linter.unusedSimpArgs false
set_option maxRecDepth 100000 in
set_option maxHeartbeats 12800000 in
theorem idleR_any {w : World} {D : Nat → Prop} {Z : Nat → Prop} {fn regs : Int} {bl : List Bk} {v tv : Value} {uss : List (List Rset)} {ts : List T2} {b i : Nat} {u : Bk} {x : RIn} (h : BksV D w bl v) (hT : TM Z w tv uss ts) (hs : Shp bl uss) (hsup : ∀ b i, Sup (tab uss b i)) (hN : bl.length ≤ 1048576) (hu : bl[b]? = some u) (hx : u.ins[i]? = some x) (hI : u.ins.length ≤ 1048576) :
    Calls Tryd.prog 68 #[.agg #[.int .i64 fn, .int .i64 regs, v], tv, .int .i64 (b : Int), .int .i64 (i : Int)] w fun e w' => e = .returned (.bool (idle (tab uss b (i + 1)) x)) ∧ Below w.heap.size w w' := by
  obtain ⟨va, vc, rfl, hv1, hv2⟩ := NV.shape h
  obtain ⟨N, hNN⟩ : ∃ z, Hid (bl.length = z) := ⟨_, hide rfl⟩
  have hbN : b < N := by rw [← unhide hNN]; exact (List.getElem?_eq_some_iff.1 hu).1
  obtain ⟨n, hnn⟩ : ∃ z, Hid (u.ins.length = z) := ⟨_, hide rfl⟩
  have hin : i < n := by rw [← unhide hnn]; exact (List.getElem?_eq_some_iff.1 hx).1
  obtain ⟨vb, vo, ia, ic, na, nc, ea, hvb, hIns, _, hic, _, hicl, _, hcc⟩ := h.blk hu
  subst ea
  obtain ⟨ib, io, aa, ac, ea, ec, e4, hib, hP, ha1, ha2, he1, he2, hcx⟩ := InsV.at8 hIns hx
  subst e4
  obtain ⟨i1, hi1⟩ : ∃ z : Nat, Hid (i + 1 = z) := ⟨_, hide rfl⟩
  have hi1' := unhide hi1
  obtain ⟨us, M1, hus, hM1, hTM1, hul⟩ := hs.at hu (i := i1) (by rw [unhide hnn]; omega)
  obtain ⟨tb, tof, tc, ra, ro, rc, g1, go1, gc1, et, x1, x2, x3, x4, x5, x6, _, _⟩ := hT.read hus hM1
  rw [hs.len] at et
  subst et
  have hsp := hsup b i1
  rw [hTM1] at hsp
  rw [hi1', hTM1]
  rw [unhide hnn] at hul hI hcc hicl
  rw [hul] at x2
  rw [unhide hNN] at hN hv1 ⊢
  unfold maxLen at hv2 hic ha2 he2
  obtain ⟨W0, hW0⟩ : ∃ W, Hid (w.alloc (.cells #[.int .i64 fn, .int .i64 regs, .slice (some ⟨vb, vo, none⟩) N vc] 24) = W) := ⟨_, hide rfl⟩
  have hB0 : Below w.heap.size w W0 := by rw [← unhide hW0]; exact box1n w _
  have hz0 : W0.heap.size = w.heap.size + 1 := by rw [← unhide hW0]; simp
  have hn := heap_alloc_new w (.cells #[.int .i64 fn, .int .i64 regs, .slice (some ⟨vb, vo, none⟩) N vc] 24)
  rw [unhide hW0] at hn
  have c2 := (blk_cells hn).1 2
  have cl := (blk_cells hn).2.2
  simp at c2
  obtain ⟨t0, _, t1, _⟩ := hcc W0 hB0
  obtain ⟨AL, hAL⟩ : ∃ z, Hid (x.args.length = z) := ⟨_, hide rfl⟩
  obtain ⟨EL, hEL⟩ : ∃ z, Hid (x.ex.length = z) := ⟨_, hide rfl⟩
  rw [unhide hAL, unhide hEL] at hcx
  obtain ⟨k0, k1, k2, k3, k4, k5, k6, k7, k8⟩ := hcx W0 hB0
  obtain ⟨W, hW⟩ : ∃ W, Hid (W0.alloc (.cells #[.int .i64 x.op, .int .i64 x.code, .int .i64 x.dst, .slice aa AL ac, .int .i64 x.n, .int .i64 x.pc, .int .i64 x.need, .slice ea EL ec] 51) = W) := ⟨_, hide rfl⟩
  have hBW : Below W0.heap.size W0 W := by rw [← unhide hW]; exact box1n W0 _
  have HW : Hid (Below w.heap.size w W) := hB0.trans (hBW.mono hB0.size)
  have hnW := heap_alloc_new W0 (.cells #[.int .i64 x.op, .int .i64 x.code, .int .i64 x.dst, .slice aa AL ac, .int .i64 x.n, .int .i64 x.pc, .int .i64 x.need, .slice ea EL ec] 51)
  rw [unhide hW, hz0] at hnW
  have HR1 : Hid (∀ V, Below W.heap.size W V → w.heap.size + 1 < V.heap.size ∧ V.cell? ⟨w.heap.size + 1, 0, none⟩ = some (.int .i64 x.op) ∧ V.cell? ⟨w.heap.size + 1, 1, none⟩ = some (.int .i64 x.code) ∧ V.cell? ⟨w.heap.size + 1, 2, none⟩ = some (.int .i64 x.dst) ∧ V.cell? ⟨w.heap.size + 1, 3, none⟩ = some (.slice aa AL ac) ∧ V.cell? ⟨w.heap.size + 1, 4, none⟩ = some (.int .i64 x.n) ∧ V.cell? ⟨w.heap.size + 1, 5, none⟩ = some (.int .i64 x.pc) ∧ V.cell? ⟨w.heap.size + 1, 6, none⟩ = some (.int .i64 x.need) ∧ V.cell? ⟨w.heap.size + 1, 7, none⟩ = some (.slice ea EL ec)) := fun V hV => by
    obtain ⟨q1, _, q3⟩ := blk_cells ((hV.block _ (Array.getElem?_eq_some_iff.1 hnW).1).trans hnW)
    exact ⟨q3, q1 0, q1 1, q1 2, q1 3, q1 4, q1 5, q1 6, q1 7⟩
  have HR2 : Hid (∀ V, Below W.heap.size W V → V.cell? ⟨tb, tof + b, none⟩ = some (.slice (some ⟨ra, ro, none⟩) (n + 1) rc) ∧ tb < V.heap.size ∧ V.cell? ⟨ra, ro + i1, none⟩ = some (.slice (some ⟨g1, go1, none⟩) 512 gc1) ∧ ra < V.heap.size) := fun V hV => by
    have hwV := (unhide HW).trans (hV.mono (unhide HW).size)
    exact ⟨(hwV.cell (p := ⟨tb, tof + b, none⟩) x1).trans x2, Nat.lt_of_lt_of_le x1 hwV.size, (hwV.cell (p := ⟨ra, ro + i1, none⟩) x3).trans x4, Nat.lt_of_lt_of_le x3 hwV.size⟩
  have HIN : Hid (∀ V, Below W.heap.size W V → Calls Tryd.prog 62 #[.slice (some ⟨g1, go1, none⟩) 512 gc1, .int .i64 x.dst] V fun e w' => e = .returned (.bool (inS M1 x.dst)) ∧ ∃ m, w' = V.drewN m) := fun V hV => in_any (Ro.fr x6 (Fr.of_below (S := fun _ => False) ((unhide HW).trans (hV.mono (unhide HW).size))) (fun _ _ e => e)) hsp x.dst
  have HQU : Hid (∀ V, Calls Tryd.prog 61 #[.agg #[.int .i64 x.op, .int .i64 x.code, .int .i64 x.dst, .slice aa AL ac, .int .i64 x.n, .int .i64 x.pc, .int .i64 x.need, .slice ea EL ec]] V fun e w' => e = .returned (.bool (quiet x)) ∧ Below V.heap.size V w') := fun V => quiet_any rfl
  have HS0 : Hid (Below W.heap.size W W.drew) := bl_drew W
  have b0 : (0 : Int) ≤ (b : Int) := by omega
  have b1 : (b : Int) < (N : Int) := by omega
  have j0 : (0 : Int) ≤ (i : Int) := by omega
  have j1 : (i : Int) < (n : Int) := by omega
  have ei1 : (i : Int) + 1 = (i1 : Int) := by omega
  have j2 : (0 : Int) ≤ (i1 : Int) := by omega
  have j3 : (i1 : Int) < (n : Int) + 1 := by omega
  have wi1 : IntKind.i64.wrap (i1 : Int) = (i1 : Int) := by go_arith
  have hW' := unhide hW
  have hW0' := unhide hW0
  clear h hT hs hsup hu hx hP hIns hus hM1 hTM1 hul x1 x2 x3 x4 x5 x6 hsp hn hnW hBW hB0
  cases hq : quiet x with
  | false =>
    have HVL : Hid (idle M1 x = false) := by unfold Hid; simp [idle, hq]
    rw [hq] at HQU
    clear hq HIN
    go_enter Tryd.func68, Tryd.ntmps68
    go_wp2_with fail
    clear c2 cl t0 t1 k0 k1 k2 k3 k4 k5 k6 k7 k8 hcc hcx
    refine wp_region_held_drew (S := fun V => Below W.heap.size W V) (by kernel_rfl) (unhide HS0) (fun hHeld => ?_)
    clear hHeld
    refine wpAnyH_take (i := 0) (oi := _) (v := .agg #[.int .i64 x.op, .int .i64 x.code, .int .i64 x.dst, .slice aa AL ac, .int .i64 x.n, .int .i64 x.pc, .int .i64 x.need, .slice ea EL ec]) rfl (by kernel_rfl) (by kernel_rfl) (by kernel_rfl) (fun _ _ _ h => h) (Or.inl ⟨by rfl, (by intro w' hSw; obtain ⟨q0, q1, q2, q3, q4, q5, q6, q7, q8⟩ := unhide HR1 w' hSw; go_simp; first | done | rfl)⟩) (unhide HS0) ?_
    go_simp
    refine wpAnyH_ready (rs := [1]) (by kernel_rfl) (by simp) ?_
    refine AllReadyH.cons (o := _) rfl (fun K hK => ?_) AllReadyH.nil
    go_simp
    refine (unhide HQU _).mono ?_
    rintro e Y ⟨rfl, hY⟩
    have HY : Hid (Below W.heap.size W Y) := (unhide HS0).trans hY
    refine hK.out _ _ (unhide HY) (fun hHeld => ?_)
    clear hHeld hK K hY
    refine wpAnyH_take (i := 2) (oi := _) (v := .bool false) rfl (by kernel_rfl) (by kernel_rfl) (by kernel_rfl) (fun _ _ _ h => h) (Or.inl ⟨by rfl, (by intro w' hSw; go_simp; first | done | rfl)⟩) (unhide HY) ?_
    go_simp
    refine wpAnyH_take (i := 3) (oi := _) (v := undef) rfl (by kernel_rfl) (by kernel_rfl) (by kernel_rfl) (fun _ _ _ h => h) (Or.inr ⟨by rfl, rfl⟩) (unhide HY) ?_
    go_simp
    refine wpAnyH_take (i := 4) (oi := _) (v := undef) rfl (by kernel_rfl) (by kernel_rfl) (by kernel_rfl) (fun _ _ _ h => h) (Or.inr ⟨by rfl, rfl⟩) (unhide HY) ?_
    go_simp
    refine wpAnyH_take (i := 5) (oi := _) (v := undef) rfl (by kernel_rfl) (by kernel_rfl) (by kernel_rfl) (fun _ _ _ h => h) (Or.inr ⟨by rfl, rfl⟩) (unhide HY) ?_
    go_simp
    refine wpAnyH_take (i := 6) (oi := _) (v := undef) rfl (by kernel_rfl) (by kernel_rfl) (by kernel_rfl) (fun _ _ _ h => h) (Or.inr ⟨by rfl, rfl⟩) (unhide HY) ?_
    go_simp
    refine wpAnyH_take (i := 7) (oi := _) (v := undef) rfl (by kernel_rfl) (by kernel_rfl) (by kernel_rfl) (fun _ _ _ h => h) (Or.inr ⟨by rfl, rfl⟩) (unhide HY) ?_
    go_simp
    refine wpAnyH_take (i := 8) (oi := _) (v := undef) rfl (by kernel_rfl) (by kernel_rfl) (by kernel_rfl) (fun _ _ _ h => h) (Or.inr ⟨by rfl, rfl⟩) (unhide HY) ?_
    go_simp
    refine wpAnyH_take (i := 9) (oi := _) (v := undef) rfl (by kernel_rfl) (by kernel_rfl) (by kernel_rfl) (fun _ _ _ h => h) (Or.inr ⟨by rfl, rfl⟩) (unhide HY) ?_
    go_simp
    refine wpAnyH_take (i := 10) (oi := _) (v := undef) rfl (by kernel_rfl) (by kernel_rfl) (by kernel_rfl) (fun _ _ _ h => h) (Or.inr ⟨by rfl, rfl⟩) (unhide HY) ?_
    go_simp
    refine wpAnyH_take (i := 11) (oi := _) (v := undef) rfl (by kernel_rfl) (by kernel_rfl) (by kernel_rfl) (fun _ _ _ h => h) (Or.inr ⟨by rfl, rfl⟩) (unhide HY) ?_
    go_simp
    refine wpAnyH_take (i := 12) (oi := _) (v := undef) rfl (by kernel_rfl) (by kernel_rfl) (by kernel_rfl) (fun _ _ _ h => h) (Or.inr ⟨by rfl, rfl⟩) (unhide HY) ?_
    go_simp
    refine wpAnyH_take (i := 13) (oi := _) (v := undef) rfl (by kernel_rfl) (by kernel_rfl) (by kernel_rfl) (fun _ _ _ h => h) (Or.inr ⟨by rfl, rfl⟩) (unhide HY) ?_
    go_simp
    refine wpAnyH_take (i := 14) (oi := _) (v := undef) rfl (by kernel_rfl) (by kernel_rfl) (by kernel_rfl) (fun _ _ _ h => h) (Or.inr ⟨by rfl, rfl⟩) (unhide HY) ?_
    go_simp
    refine wpAnyH_take (i := 15) (oi := _) (v := .bool false) rfl (by kernel_rfl) (by kernel_rfl) (by kernel_rfl) (fun _ _ _ h => h) (Or.inl ⟨by rfl, (by intro w' hSw; go_simp; first | done | rfl)⟩) (unhide HY) ?_
    go_simp
    refine wpAnyH_take (i := 16) (oi := _) (v := .bool false) rfl (by kernel_rfl) (by kernel_rfl) (by kernel_rfl) (fun _ _ _ h => h) (Or.inl ⟨by rfl, (by intro w' hSw; go_simp; first | done | rfl)⟩) (unhide HY) ?_
    go_simp
    refine wpAnyH_done (by kernel_rfl) ?_ _
    go_wp2_with fail
    go_ret
    exact ⟨by rw [unhide HVL]; rfl, (unhide HW).trans ((unhide HY).mono (unhide HW).size)⟩

  | true =>
    rw [hq] at HQU
    cases hi2 : inS M1 x.dst with
    | true =>
      have HVL : Hid (idle M1 x = false) := by unfold Hid; simp [idle, hq, hi2]
      rw [hi2] at HIN
      clear hq hi2
      go_enter Tryd.func68, Tryd.ntmps68
      go_wp2_with fail
      clear c2 cl t0 t1 k0 k1 k2 k3 k4 k5 k6 k7 k8 hcc hcx
      refine wp_region_held_drew (S := fun V => Below W.heap.size W V) (by kernel_rfl) (unhide HS0) (fun hHeld => ?_)
      clear hHeld
      refine wpAnyH_take (i := 0) (oi := _) (v := .agg #[.int .i64 x.op, .int .i64 x.code, .int .i64 x.dst, .slice aa AL ac, .int .i64 x.n, .int .i64 x.pc, .int .i64 x.need, .slice ea EL ec]) rfl (by kernel_rfl) (by kernel_rfl) (by kernel_rfl) (fun _ _ _ h => h) (Or.inl ⟨by rfl, (by intro w' hSw; obtain ⟨q0, q1, q2, q3, q4, q5, q6, q7, q8⟩ := unhide HR1 w' hSw; go_simp; first | done | rfl)⟩) (unhide HS0) ?_
      go_simp
      refine wpAnyH_ready (rs := [1]) (by kernel_rfl) (by simp) ?_
      refine AllReadyH.cons (o := _) rfl (fun K hK => ?_) AllReadyH.nil
      go_simp
      refine (unhide HQU _).mono ?_
      rintro e Y ⟨rfl, hY⟩
      have HY : Hid (Below W.heap.size W Y) := (unhide HS0).trans hY
      refine hK.out _ _ (unhide HY) (fun hHeld => ?_)
      clear hHeld hK K hY
      refine wpAnyH_take (i := 2) (oi := _) (v := .bool true) rfl (by kernel_rfl) (by kernel_rfl) (by kernel_rfl) (fun _ _ _ h => h) (Or.inl ⟨by rfl, (by intro w' hSw; go_simp; first | done | rfl)⟩) (unhide HY) ?_
      go_simp
      refine wpAnyH_take (i := 3) (oi := _) (v := .slice (some ⟨tb, tof, none⟩) N tc) rfl (by kernel_rfl) (by kernel_rfl) (by kernel_rfl) (fun _ _ _ h => h) (Or.inl ⟨by rfl, (by intro w' hSw; go_simp; first | done | rfl)⟩) (unhide HY) ?_
      go_simp
      refine wpAnyH_take (i := 4) (oi := _) (v := .int .i64 (b : Int)) rfl (by kernel_rfl) (by kernel_rfl) (by kernel_rfl) (fun _ _ _ h => h) (Or.inl ⟨by rfl, (by intro w' hSw; go_simp; first | done | rfl)⟩) (unhide HY) ?_
      go_simp
      refine wpAnyH_take (i := 5) (oi := _) (v := .pointer (some ⟨tb, tof + b, none⟩)) rfl (by kernel_rfl) (by kernel_rfl) (by kernel_rfl) (fun _ _ _ h => h) (Or.inl ⟨by rfl, (by intro w' hSw; go_simp; first | done | rfl)⟩) (unhide HY) ?_
      go_simp
      refine wpAnyH_take (i := 6) (oi := _) (v := .slice (some ⟨ra, ro, none⟩) (n + 1) rc) rfl (by kernel_rfl) (by kernel_rfl) (by kernel_rfl) (fun _ _ _ h => h) (Or.inl ⟨by rfl, (by intro w' hSw; obtain ⟨s1, s2, s3, s4⟩ := unhide HR2 w' hSw; go_simp; first | done | rfl)⟩) (unhide HY) ?_
      go_simp
      refine wpAnyH_take (i := 7) (oi := _) (v := .int .i64 (i : Int)) rfl (by kernel_rfl) (by kernel_rfl) (by kernel_rfl) (fun _ _ _ h => h) (Or.inl ⟨by rfl, (by intro w' hSw; go_simp; first | done | rfl)⟩) (unhide HY) ?_
      go_simp
      refine wpAnyH_take (i := 8) (oi := _) (v := .int .i64 (i1 : Int)) rfl (by kernel_rfl) (by kernel_rfl) (by kernel_rfl) (fun _ _ _ h => h) (Or.inl ⟨by rfl, (by intro w' hSw; go_simp; first | done | rfl)⟩) (unhide HY) ?_
      go_simp
      refine wpAnyH_take (i := 9) (oi := _) (v := .pointer (some ⟨ra, ro + i1, none⟩)) rfl (by kernel_rfl) (by kernel_rfl) (by kernel_rfl) (fun _ _ _ h => h) (Or.inl ⟨by rfl, (by intro w' hSw; go_simp; first | done | rfl)⟩) (unhide HY) ?_
      go_simp
      refine wpAnyH_take (i := 10) (oi := _) (v := .slice (some ⟨g1, go1, none⟩) 512 gc1) rfl (by kernel_rfl) (by kernel_rfl) (by kernel_rfl) (fun _ _ _ h => h) (Or.inl ⟨by rfl, (by intro w' hSw; obtain ⟨s1, s2, s3, s4⟩ := unhide HR2 w' hSw; go_simp; first | done | rfl)⟩) (unhide HY) ?_
      go_simp
      refine wpAnyH_take (i := 11) (oi := _) (v := .pointer (some ⟨w.heap.size + 1, 2, none⟩)) rfl (by kernel_rfl) (by kernel_rfl) (by kernel_rfl) (fun _ _ _ h => h) (Or.inl ⟨by rfl, (by intro w' hSw; go_simp; first | done | rfl)⟩) (unhide HY) ?_
      go_simp
      refine wpAnyH_take (i := 12) (oi := _) (v := .int .i64 x.dst) rfl (by kernel_rfl) (by kernel_rfl) (by kernel_rfl) (fun _ _ _ h => h) (Or.inl ⟨by rfl, (by intro w' hSw; obtain ⟨q0, q1, q2, q3, q4, q5, q6, q7, q8⟩ := unhide HR1 w' hSw; go_simp; first | done | rfl)⟩) (unhide HY) ?_
      go_simp
      refine wpAnyH_ready (rs := [13]) (by kernel_rfl) (by simp) ?_
      refine AllReadyH.cons (o := _) rfl (fun K hK => ?_) AllReadyH.nil
      go_simp
      refine (unhide HIN _ (unhide HY)).mono ?_
      rintro e Y2 ⟨rfl, m2, hm2⟩
      have HY2 : Hid (Below W.heap.size W Y2) := by rw [hm2]; exact (unhide HY).trans ((bl_drewN Y m2).mono (unhide HY).size)
      refine hK.out _ _ (unhide HY2) (fun hHeld => ?_)
      clear hHeld hK K hm2
      refine wpAnyH_take (i := 14) (oi := _) (v := .bool false) rfl (by kernel_rfl) (by kernel_rfl) (by kernel_rfl) (fun _ _ _ h => h) (Or.inl ⟨by rfl, (by intro w' hSw; go_simp; first | done | rfl)⟩) (unhide HY2) ?_
      go_simp
      refine wpAnyH_take (i := 15) (oi := _) (v := .bool false) rfl (by kernel_rfl) (by kernel_rfl) (by kernel_rfl) (fun _ _ _ h => h) (Or.inl ⟨by rfl, (by intro w' hSw; go_simp; first | done | rfl)⟩) (unhide HY2) ?_
      go_simp
      refine wpAnyH_take (i := 16) (oi := _) (v := .bool false) rfl (by kernel_rfl) (by kernel_rfl) (by kernel_rfl) (fun _ _ _ h => h) (Or.inl ⟨by rfl, (by intro w' hSw; go_simp; first | done | rfl)⟩) (unhide HY2) ?_
      go_simp
      refine wpAnyH_done (by kernel_rfl) ?_ _
      go_wp2_with fail
      go_ret
      exact ⟨by rw [unhide HVL]; rfl, (unhide HW).trans ((unhide HY2).mono (unhide HW).size)⟩

    | false =>
      have HVL : Hid (idle M1 x = true) := by unfold Hid; simp [idle, hq, hi2]
      rw [hi2] at HIN
      clear hq hi2
      go_enter Tryd.func68, Tryd.ntmps68
      go_wp2_with fail
      clear c2 cl t0 t1 k0 k1 k2 k3 k4 k5 k6 k7 k8 hcc hcx
      refine wp_region_held_drew (S := fun V => Below W.heap.size W V) (by kernel_rfl) (unhide HS0) (fun hHeld => ?_)
      clear hHeld
      refine wpAnyH_take (i := 0) (oi := _) (v := .agg #[.int .i64 x.op, .int .i64 x.code, .int .i64 x.dst, .slice aa AL ac, .int .i64 x.n, .int .i64 x.pc, .int .i64 x.need, .slice ea EL ec]) rfl (by kernel_rfl) (by kernel_rfl) (by kernel_rfl) (fun _ _ _ h => h) (Or.inl ⟨by rfl, (by intro w' hSw; obtain ⟨q0, q1, q2, q3, q4, q5, q6, q7, q8⟩ := unhide HR1 w' hSw; go_simp; first | done | rfl)⟩) (unhide HS0) ?_
      go_simp
      refine wpAnyH_ready (rs := [1]) (by kernel_rfl) (by simp) ?_
      refine AllReadyH.cons (o := _) rfl (fun K hK => ?_) AllReadyH.nil
      go_simp
      refine (unhide HQU _).mono ?_
      rintro e Y ⟨rfl, hY⟩
      have HY : Hid (Below W.heap.size W Y) := (unhide HS0).trans hY
      refine hK.out _ _ (unhide HY) (fun hHeld => ?_)
      clear hHeld hK K hY
      refine wpAnyH_take (i := 2) (oi := _) (v := .bool true) rfl (by kernel_rfl) (by kernel_rfl) (by kernel_rfl) (fun _ _ _ h => h) (Or.inl ⟨by rfl, (by intro w' hSw; go_simp; first | done | rfl)⟩) (unhide HY) ?_
      go_simp
      refine wpAnyH_take (i := 3) (oi := _) (v := .slice (some ⟨tb, tof, none⟩) N tc) rfl (by kernel_rfl) (by kernel_rfl) (by kernel_rfl) (fun _ _ _ h => h) (Or.inl ⟨by rfl, (by intro w' hSw; go_simp; first | done | rfl)⟩) (unhide HY) ?_
      go_simp
      refine wpAnyH_take (i := 4) (oi := _) (v := .int .i64 (b : Int)) rfl (by kernel_rfl) (by kernel_rfl) (by kernel_rfl) (fun _ _ _ h => h) (Or.inl ⟨by rfl, (by intro w' hSw; go_simp; first | done | rfl)⟩) (unhide HY) ?_
      go_simp
      refine wpAnyH_take (i := 5) (oi := _) (v := .pointer (some ⟨tb, tof + b, none⟩)) rfl (by kernel_rfl) (by kernel_rfl) (by kernel_rfl) (fun _ _ _ h => h) (Or.inl ⟨by rfl, (by intro w' hSw; go_simp; first | done | rfl)⟩) (unhide HY) ?_
      go_simp
      refine wpAnyH_take (i := 6) (oi := _) (v := .slice (some ⟨ra, ro, none⟩) (n + 1) rc) rfl (by kernel_rfl) (by kernel_rfl) (by kernel_rfl) (fun _ _ _ h => h) (Or.inl ⟨by rfl, (by intro w' hSw; obtain ⟨s1, s2, s3, s4⟩ := unhide HR2 w' hSw; go_simp; first | done | rfl)⟩) (unhide HY) ?_
      go_simp
      refine wpAnyH_take (i := 7) (oi := _) (v := .int .i64 (i : Int)) rfl (by kernel_rfl) (by kernel_rfl) (by kernel_rfl) (fun _ _ _ h => h) (Or.inl ⟨by rfl, (by intro w' hSw; go_simp; first | done | rfl)⟩) (unhide HY) ?_
      go_simp
      refine wpAnyH_take (i := 8) (oi := _) (v := .int .i64 (i1 : Int)) rfl (by kernel_rfl) (by kernel_rfl) (by kernel_rfl) (fun _ _ _ h => h) (Or.inl ⟨by rfl, (by intro w' hSw; go_simp; first | done | rfl)⟩) (unhide HY) ?_
      go_simp
      refine wpAnyH_take (i := 9) (oi := _) (v := .pointer (some ⟨ra, ro + i1, none⟩)) rfl (by kernel_rfl) (by kernel_rfl) (by kernel_rfl) (fun _ _ _ h => h) (Or.inl ⟨by rfl, (by intro w' hSw; go_simp; first | done | rfl)⟩) (unhide HY) ?_
      go_simp
      refine wpAnyH_take (i := 10) (oi := _) (v := .slice (some ⟨g1, go1, none⟩) 512 gc1) rfl (by kernel_rfl) (by kernel_rfl) (by kernel_rfl) (fun _ _ _ h => h) (Or.inl ⟨by rfl, (by intro w' hSw; obtain ⟨s1, s2, s3, s4⟩ := unhide HR2 w' hSw; go_simp; first | done | rfl)⟩) (unhide HY) ?_
      go_simp
      refine wpAnyH_take (i := 11) (oi := _) (v := .pointer (some ⟨w.heap.size + 1, 2, none⟩)) rfl (by kernel_rfl) (by kernel_rfl) (by kernel_rfl) (fun _ _ _ h => h) (Or.inl ⟨by rfl, (by intro w' hSw; go_simp; first | done | rfl)⟩) (unhide HY) ?_
      go_simp
      refine wpAnyH_take (i := 12) (oi := _) (v := .int .i64 x.dst) rfl (by kernel_rfl) (by kernel_rfl) (by kernel_rfl) (fun _ _ _ h => h) (Or.inl ⟨by rfl, (by intro w' hSw; obtain ⟨q0, q1, q2, q3, q4, q5, q6, q7, q8⟩ := unhide HR1 w' hSw; go_simp; first | done | rfl)⟩) (unhide HY) ?_
      go_simp
      refine wpAnyH_ready (rs := [13]) (by kernel_rfl) (by simp) ?_
      refine AllReadyH.cons (o := _) rfl (fun K hK => ?_) AllReadyH.nil
      go_simp
      refine (unhide HIN _ (unhide HY)).mono ?_
      rintro e Y2 ⟨rfl, m2, hm2⟩
      have HY2 : Hid (Below W.heap.size W Y2) := by rw [hm2]; exact (unhide HY).trans ((bl_drewN Y m2).mono (unhide HY).size)
      refine hK.out _ _ (unhide HY2) (fun hHeld => ?_)
      clear hHeld hK K hm2
      refine wpAnyH_take (i := 14) (oi := _) (v := .bool true) rfl (by kernel_rfl) (by kernel_rfl) (by kernel_rfl) (fun _ _ _ h => h) (Or.inl ⟨by rfl, (by intro w' hSw; go_simp; first | done | rfl)⟩) (unhide HY2) ?_
      go_simp
      refine wpAnyH_take (i := 15) (oi := _) (v := .bool true) rfl (by kernel_rfl) (by kernel_rfl) (by kernel_rfl) (fun _ _ _ h => h) (Or.inl ⟨by rfl, (by intro w' hSw; go_simp; first | done | rfl)⟩) (unhide HY2) ?_
      go_simp
      refine wpAnyH_take (i := 16) (oi := _) (v := .bool true) rfl (by kernel_rfl) (by kernel_rfl) (by kernel_rfl) (fun _ _ _ h => h) (Or.inl ⟨by rfl, (by intro w' hSw; go_simp; first | done | rfl)⟩) (unhide HY2) ?_
      go_simp
      refine wpAnyH_done (by kernel_rfl) ?_ _
      go_wp2_with fail
      go_ret
      exact ⟨by rw [unhide HVL]; rfl, (unhide HW).trans ((unhide HY2).mono (unhide HW).size)⟩


set_option linter.unusedVariables false
set_option linter.unusedSimpArgs false

/-- The first k blocks turned. -/
noncomputable def mixC (bl : List Bk) (k : Nat) : List Bk := bl.mapIdx (fun b u => if b < k then kepB bl b u else u)
theorem mix_zero (bl : List Bk) : mixC bl 0 = bl := by
  unfold mixC
  refine List.ext_getElem? (fun i => ?_)
  rw [List.getElem?_mapIdx]
  cases bl[i]? <;> simp
theorem mix_len (bl : List Bk) (k : Nat) : (mixC bl k).length = bl.length := by unfold mixC; exact List.length_mapIdx
theorem mix_at {bl : List Bk} {k : Nat} {u : Bk} (h : bl[k]? = some u) : (mixC bl k)[k]? = some u := by
  unfold mixC
  rw [List.getElem?_mapIdx, h]
  simp
theorem mix_all (bl : List Bk) : mixC bl bl.length = kepC bl := by
  unfold mixC kepC
  refine List.ext_getElem? (fun i => ?_)
  rw [List.getElem?_mapIdx, List.getElem?_mapIdx]
  cases hb : bl[i]? with
  | none => rfl
  | some u => have := (List.getElem?_eq_some_iff.1 hb).1; simp [this]
theorem mix_next {bl : List Bk} {k : Nat} {u : Bk} (h : bl[k]? = some u) : (mixC bl k).set k (kepB bl k u) = mixC bl (k + 1) := by
  have hk := (List.getElem?_eq_some_iff.1 h).1
  refine List.ext_getElem? (fun i => ?_)
  by_cases e : k = i
  · subst e
    rw [List.getElem?_set_self (by rw [mix_len]; exact hk)]
    unfold mixC
    rw [List.getElem?_mapIdx, h]
    simp
  · rw [List.getElem?_set_ne e]
    unfold mixC
    rw [List.getElem?_mapIdx, List.getElem?_mapIdx]
    have q : (i < k) = (i < k + 1) := by
      apply propext
      omega
    cases bl[i]? with
    | none => rfl
    | some u => simp only [Option.map_some, q]
structure RQ (w1 : World) (fn regs : Int) (db : Nat) (bl : List Bk) (dv : Value) (k : Nat) (Xs : List TB) (W : World) : Prop where
  bw : Below w1.heap.size w1 W
  bd : W.heap[db]? = some (.cells #[.int .i64 fn, .int .i64 regs, dv] 24)
  lt : w1.heap.size ≤ db
  dl : ∀ q, dv.ownBlock = some q → q < db
  ow : OW enTB 3 (PB 0) blB (fun z => w1.heap.size ≤ z) W dv (mixC bl k) Xs
structure RJ (w1 : World) (fn regs : Int) (db : Nat) (bl : List Bk) (dv : Value) (k : Nat) (Xs : List TB) (X : World) (K : List RIn) (lv : Value) (ts : List TI) (W : World) : Prop where
  rq : RQ w1 fn regs db bl dv k Xs X
  bw : Below X.heap.size X W
  ow : OW enT 8 InT blT (fun z => X.heap.size ≤ z) W lv K ts
section
variable {w w1 wr V W X y1 Wa W2 : World} {fn regs : Int} {v dv lv v' : Value} {bl : List Bk} {Xs : List TB} {db k m : Nat} {K : List RIn} {ts : List TI}
theorem RQ.on (h : RQ w1 fn regs db bl dv k Xs X) (b : Below X.heap.size X W) : RQ w1 fn regs db bl dv k Xs W :=
  ⟨bl_past h.bw b, (b.block _ (Array.getElem?_eq_some_iff.1 h.bd).1).trans h.bd, h.lt, h.dl, h.ow.below (stayB 0) b⟩
theorem RJ.on (h : RJ w1 fn regs db bl dv k Xs X K lv ts W) (b : Below W.heap.size W W2) : RJ w1 fn regs db bl dv k Xs X K lv ts W2 :=
  ⟨h.rq, bl_past h.bw b, h.ow.below stayT b⟩
theorem RJ.step (h : RJ w1 fn regs db bl dv k Xs X K lv ts W) {x : RIn} {r : InR} (hc : CiT W x r y1) (ha : Below y1.heap.size y1 Wa) (hr : Ro W2 8 v' m (flt enIn (ts.map Prod.fst) ++ enIn r)) (hm : m = ts.length + 1) (hg : Wa.grownBy W2 lv.ownBlock) (hat : v'.ownBlock = lv.ownBlock ∨ v'.ownBlock = some Wa.heap.size) :
    ∃ ts', RJ w1 fn regs db bl dv k Xs X (K ++ [x]) v' ts' W2 := by
  obtain ⟨t, rfl, hb, hI, hbl⟩ := hc
  have s1 := h.bw.size
  have s2 := hb.size
  have s3 := ha.size
  have hiv : ∀ q, lv.ownBlock = some q → X.heap.size ≤ q := h.ow.rb
  have hivl : ∀ q, lv.ownBlock = some q → q < W.heap.size := fun q hq => h.ow.row.lt q hq
  rw [fltT] at hr
  obtain ⟨o1, o2⟩ := OW.push' stayT (h.ow.below stayT hb) hI (fun z hz => ⟨by have q := hbl z hz; show X.heap.size ≤ z; omega, hI.lt hz, fun e => by have q := hbl z hz; have := hivl z e; omega⟩) (fun z hz y hy e => by have q := hbl z hz; have := (h.ow.in (.inr ⟨y, hy, e⟩)).2; omega) ha (by show X.heap.size ≤ Wa.heap.size; omega) hr (by rw [hm, h.ow.len]) hg hat
  refine ⟨ts ++ [t], h.rq, ?_, o1⟩
  exact (bl_past h.bw hb).trans (o2.below (by omega) (fun z hz e => by have e' : lv.ownBlock = some z := e; have := hiv z e'; omega))
theorem RJ.done {u : Bk} (h : RJ w1 fn regs db bl dv k Xs X (kepL (wS bl k) u.ins) lv ts W) (hu : bl[k]? = some u) {g off cap : Nat} (e : dv = .slice (some ⟨g, off, none⟩) bl.length cap) :
    ∃ Xs', RQ w1 fn regs db bl dv (k + 1) Xs' (W.setCell ⟨g, off + k * 3 + 1, none⟩ lv) := by
  have c := h.rq.on h.bw
  have s1 := h.bw.size
  have hk := (List.getElem?_eq_some_iff.1 hu).1
  have hiv : ∀ q, lv.ownBlock = some q → X.heap.size ≤ q := h.ow.rb
  have hivl : ∀ q, lv.ownBlock = some q → q < W.heap.size := fun q hq => h.ow.row.lt q hq
  have hts : ∀ y ∈ ts, ∀ q, blT y q → X.heap.size ≤ q ∧ q < W.heap.size := fun y hy q hq => h.ow.in (.inr ⟨y, hy, hq⟩)
  obtain ⟨x, hx⟩ : ∃ x, Xs[k]? = some x := ⟨_, List.getElem?_eq_getElem (by rw [c.ow.len, mix_len]; exact hk)⟩
  have hP := c.ow.el k u x (mix_at hu) hx
  have hgo : dv.ownBlock = some g := by rw [e]; rfl
  have hgX : g < X.heap.size := h.rq.ow.row.lt g hgo
  have hxin : ∀ q, blB x q → w1.heap.size ≤ q ∧ q < X.heap.size ∧ dv.ownBlock ≠ some q := fun q hq => h.rq.ow.eb k x q hx hq
  have e2 : dv = .slice (some ⟨g, off, none⟩) (mixC bl k).length cap := by rw [mix_len]; exact e
  obtain ⟨r1, r2⟩ := c.ow.row.put1 zTB e2 (i := k) (c := 1) (x' := ((⟨x.1.pc, lv, x.1.nv⟩, ts) : TB)) (u := lv) hx (by omega) rfl
  have hWs := h.rq.bw.size
  have hnv : ∀ q, x.1.nv.ownBlock = some q → 0 < q ∧ q < X.heap.size := fun q hq => ⟨(hP.nb q hq).1, (hxin q (.inr (.inr hq))).2.1⟩
  have hw1 : Below w1.heap.size w1 (W.setCell ⟨g, off + k * 3 + 1, none⟩ lv) := c.bw.trans (r2.below c.bw.size (fun z hz q => by have q' : z = g := q; have := c.ow.rb g hgo; omega))
  refine ⟨Xs.set k (⟨x.1.pc, lv, x.1.nv⟩, ts), hw1, ?_, h.rq.lt, h.rq.dl, ?_⟩
  · exact (r2.block db (Array.getElem?_eq_some_iff.1 c.bd).1 (fun q => by have q' : db = g := q; have := h.rq.dl g hgo; omega)).trans c.bd
  · rw [← mix_next hu]
    refine OW.setX (stayB 0) c.ow hx r2 (fun z hz => .inl (by have q : z = g := hz; rw [q]; exact hgo)) r1 ?_ (fun z hz => ?_) (fun j y z hj hy hz q => ?_)
    · refine ⟨hP.pc, (h.ow.fr stayT r2 (fun z hz hi q => by have q' : z = g := q; have := (h.ow.in hi).1; omega)).mono (fun z _ hz => by have hz' : X.heap.size ≤ z := hz; have := hiv; show 0 < z; omega), hP.nx.fr r2 (fun z hz q => by have q' : z = g := q; subst q'; exact (hxin z (.inr (.inr hz))).2.2 hgo), fun z hz => ⟨(hP.nb z hz).1, fun q => by have q' : lv.ownBlock = some z := q; have := hiv z q'; have := (hnv z hz).2; omega, fun y hy q => by have := (hts y hy z q).1; have := (hnv z hz).2; omega⟩⟩
    · have hs := r2.size
      rcases hz with q | ⟨y, hy, q⟩ | q
      · have q' : lv.ownBlock = some z := q
        have a := hiv z q'
        have b := hivl z q'
        exact ⟨by show w1.heap.size ≤ z; omega, by omega, fun e3 => by rw [hgo] at e3; cases e3; omega⟩
      · have a := hts y hy z q
        exact ⟨by show w1.heap.size ≤ z; omega, by omega, fun e3 => by rw [hgo] at e3; cases e3; omega⟩
      · have a := hxin z (.inr (.inr q))
        exact ⟨a.1, by omega, a.2.2⟩
    · have hyX := (h.rq.ow.eb j y z hy q).2.1
      rcases hz with q2 | ⟨y2, hy2, q2⟩ | q2
      · have q' : lv.ownBlock = some z := q2
        have a := hiv z q'
        omega
      · have a := (hts y2 hy2 z q2).1
        omega
      · exact h.rq.ow.ap k j x y z (fun q => hj q.symm) hx hy (.inr (.inr q2)) q
theorem RQ.start {Ts : List TB} {w2 : World} (hb : Below w1.heap.size w1 w2) (h : OW enTB 3 (PB 0) blB (fun z => w1.heap.size ≤ z) w2 dv bl Ts) : RQ w1 fn regs w2.heap.size bl dv 0 Ts (w2.alloc (.cells #[.int .i64 fn, .int .i64 regs, dv] 24)) :=
  ⟨bl_past hb (box1n _ _), heap_alloc_new w2 _, hb.size, fun q hq => h.row.lt q hq, by rw [mix_zero]; exact h.below (stayB 0) (box1n _ _)⟩
theorem fd_sup {uss : List (List Rset)} (hs : Shp bl uss) (ht : ∀ (b : Nat) (u : Bk), bl[b]? = some u → ∀ i, i ≤ u.ins.length → tab uss b i = backL (wS bl b) (u.ins.drop i)) : ∀ b i, Sup (tab uss b i) := fun b i => by
  cases hb : bl[b]? with
  | none =>
    have : uss[b]? = none := by rw [List.getElem?_eq_none_iff] at hb ⊢; rw [hs.len]; exact hb
    unfold tab
    rw [this]
    exact fun r hr => rfl
  | some u =>
    by_cases hi : i ≤ u.ins.length
    · rw [ht b u hb i hi]
      exact backL_sup (wS_sup bl b) _
    · obtain ⟨us, hus⟩ : ∃ us, uss[b]? = some us := ⟨_, List.getElem?_eq_getElem (by rw [hs.len]; exact (List.getElem?_eq_some_iff.1 hb).1)⟩
      have hl := hs.row b us u hus hb
      have : us[i]? = none := by rw [List.getElem?_eq_none_iff]; omega
      unfold tab
      rw [hus]
      simp only [Option.bind_some, this]
      exact fun r hr => rfl
end

set_option linter.unusedVariables false
set_option linter.unusedSimpArgs false

set_option maxRecDepth 100000 in
set_option maxHeartbeats 12800000 in
theorem refRun_any {w : World} {D : Nat → Prop} {fn regs : Int} {bl : List Bk} {v : Value} (h : BksV D w bl v) (hO : ∀ b ∈ bl, OkL b) (hN : bl.length ≤ 1048576) :
    Calls Tryd.prog 49 #[.agg #[.int .i64 fn, .int .i64 regs, v]] w fun e w' => AnsC w fn regs (kepC bl) e w' := by
  obtain ⟨va, vc, rfl, ha1, ha2⟩ := NV.shape h
  obtain ⟨N, hNN⟩ : ∃ N, Hid (bl.length = N) := ⟨_, hide rfl⟩
  have HHB : Hid (∀ W, Below w.heap.size w W → BksV D W bl (.slice va N vc)) := fun W hW => by rw [← unhide hNN]; exact BksV.mv D D (fun _ => False) w W bl _ h (Fr.of_below hW) (fun k hk d => ⟨fun q => q, d⟩)
  have HF : Hid (∀ W, Below w.heap.size w W → Calls Tryd.prog 20 #[.agg #[.int .i64 fn, .int .i64 regs, .slice va N vc]] W (FdP W bl)) := fun W hW => find_any (unhide HHB W hW) hN hO
  have HC : Hid (∀ W, Below w.heap.size w W → Calls Tryd.prog 51 #[.agg #[.int .i64 fn, .int .i64 regs, .slice va N vc]] W fun e w' => AnsC W fn regs bl e w') := fun W hW => copyRegs_any (unhide HHB W hW) hO hN
  have HO := hide hO
  have HB2 := hide (BX.two w #[.int .i64 fn, .int .i64 regs, .slice va N vc] #[.int .i64 0, .int .i64 0, .slice none 0 0] 24 24)
  obtain ⟨W0, hW0⟩ : ∃ z, Hid ((w.alloc (.cells #[.int .i64 fn, .int .i64 regs, .slice va N vc] 24)).alloc (.cells #[.int .i64 0, .int .i64 0, .slice none 0 0] 24) = z) := ⟨_, hide rfl⟩
  rw [unhide hW0] at HB2
  have hW0' := unhide hW0
  rw [unhide hNN] at hN ha1 ⊢
  unfold maxLen at ha2
  clear h hO
  have gb := blk_cells ((unhide HB2).h 0 _ rfl)
  have z0 := gb.1 0
  have z1 := gb.1 1
  have z2 := gb.1 2
  have zl := gb.2.2
  simp at z0 z1 z2 zl
  clear gb
  go_enter Tryd.func49, Tryd.ntmps49
  go_wp2_with fail
  refine (unhide HF _ (unhide HB2).b).mono ?_
  rintro e w1 ⟨tv, uss, tts, rfl, hb1, hTM, hSH, hTB⟩
  have HX1 := hide ((unhide HB2).go hb1)
  have HTM := hide hTM
  have HSH := hide hSH
  have HTB := hide hTB
  have HSUP := hide (fd_sup hSH hTB)
  clear hTM hSH hTB hb1 z0 z1 z2 zl hW0' hW0 HF HB2
  have gb := blk_cells ((unhide HX1).h 0 _ rfl)
  have z0 := gb.1 0
  have z1 := gb.1 1
  have z2 := gb.1 2
  have zl := gb.2.2
  simp at z0 z1 z2 zl
  clear gb
  go_wp2_with fail
  refine (unhide HC _ (unhide HX1).b).mono ?_
  rintro e w2 ⟨dv, Ts, rfl, hb2, hT⟩
  obtain ⟨dva, dvc, edv, -, -⟩ := hT.row.shape
  rw [unhide hNN] at edv
  have HST := hide (RQ.start (fn := fn) (regs := regs) hb2 hT)
  subst edv

  clear hT hb2 z0 z1 z2 zl HC
  go_wp2_with fail
  obtain ⟨db, hdb⟩ : ∃ db, Hid (w2.heap.size = db) := ⟨_, hide rfl⟩
  obtain ⟨V0, hV0⟩ : ∃ V0, Hid (w2.alloc (.cells #[.int .i64 fn, .int .i64 regs, .slice dva N dvc] 24) = V0) := ⟨_, hide rfl⟩
  rw [unhide hdb, unhide hV0] at HST
  rw [unhide hdb, unhide hV0]
  go_loopg [5] N (fun gg t5 wr => ∃ (k : Nat) (Xs : List TB), Hid (k + gg = N) ∧ t5 = .int .i64 (k : Int) ∧ Hid (RQ w1 fn regs db bl (.slice dva N dvc) k Xs wr))
  case atStart => exact ⟨0, _, by unfold Hid; omega, rfl, HST⟩
  case round =>
    clear HST hV0 hdb
    obtain ⟨k, Xs, hk, rfl, hS⟩ := hrel
    have HXk := hide ((unhide HX1).fr (Fr.of_below (S := fun _ => False) (unhide hS).bw) (fun _ _ _ q => q) (fun _ _ q => q))
    by_cases hlt : k < N
    case neg =>
      have hkN : N = k := by have := unhide hk; omega
      subst hkN
      have HTK : Hid (mixC bl N = kepC bl) := by rw [← unhide hNN]; exact mix_all bl
      have i1 : ¬ (N : Int) < (N : Int) := by omega
      have gb := blk_cells ((unhide HXk).h 0 _ rfl)
      have c2 := gb.1 2
      have cl := gb.2.2
      have gd := blk_cells (unhide hS).bd
      have d0 := gd.1 0
      have d1 := gd.1 1
      have d2 := gd.1 2
      have dl := gd.2.2
      have gr := blk_cells ((unhide HXk).h 1 _ rfl)
      have r0 := gr.1 0
      have r1 := gr.1 1
      have r2 := gr.1 2
      have rf0 := gr.2.1 0
      have rf1 := gr.2.1 1
      have rf2 := gr.2.1 2
      have rl := gr.2.2
      simp at c2 cl d0 d1 d2 dl r0 r1 r2 rf0 rf1 rf2 rl
      have hw1s := (unhide HX1).lt (i := 1) rfl
      simp at hw1s
      have HW : Hid (∀ W, Fr (fun q => q = w.heap.size + 1) wr W → AnsC w fn regs (kepC bl) (.returned (.agg #[.int .i64 fn, .int .i64 regs, .slice dva N dvc])) W) := fun W hW => by
        have q := (unhide hS).ow
        rw [unhide HTK] at q
        exact ⟨_, Xs, rfl, (unhide HXk).b.trans (hW.below (unhide HXk).b.size (fun q hq e => by have e' : q = w.heap.size + 1 := e; omega)), (OW.frZ (stayB 0) q hW (fun z hz hz2 e => by have hz3 : w1.heap.size ≤ z := hz2; have e' : z = w.heap.size + 1 := e; omega)).mono (fun z _ hz => by have hz3 : w1.heap.size ≤ z := hz; show w.heap.size ≤ z; omega)⟩
      clear gb gd gr
      go_wp2_with fail
      refine bodyPost_ret (v := .agg #[.int .i64 fn, .int .i64 regs, .slice dva N dvc]) ?_ rfl ?_
      · rw [results_cell_one rfl]
        go_simp
      · apply unhide HW
        repeat (first | refine Fr.setCell (S := fun q => q = w.heap.size + 1) ?_ _ (.inr rfl) _ | with_reducible exact Fr.refl _ _)
    have i0 : (0 : Int) ≤ (k : Int) := by omega
    have i1 : (k : Int) < (N : Int) := by omega
    obtain ⟨u, hu⟩ : ∃ s, bl[k]? = some s := ⟨_, List.getElem?_eq_getElem (by rw [unhide hNN]; exact hlt)⟩
    obtain ⟨vb, vo, ia, ic, na, nc, rfl, hvb, hIns, hNx, hic, hnc, hil, hnl, hcell⟩ := BksV.blk (unhide HHB w (Below.refl _ _)) hu
    have HOU := hide (unhide HO u (List.mem_of_getElem? hu))
    have HU := hide hu
    obtain ⟨IL, hIL⟩ : ∃ z, Hid (u.ins.length = z) := ⟨_, hide rfl⟩
    obtain ⟨NL, hNL⟩ : ∃ z, Hid (u.nx.length = z) := ⟨_, hide rfl⟩
    rw [unhide hIL] at hil hcell hIns
    rw [unhide hNL] at hcell
    have HBL := hide hcell
    have HIN := hide hIns
    unfold maxLen at hic
    clear hcell hIns hNx hu hnc hnl
    have gb := blk_cells ((unhide HXk).h 0 _ rfl)
    have c2 := gb.1 2
    have cl := gb.2.2
    simp at c2 cl
    clear gb
    obtain ⟨wO, rfl⟩ : ∃ z, z = wr := ⟨wr, rfl⟩
    obtain ⟨gO, rfl⟩ : ∃ z, z = gk := ⟨gk, rfl⟩
    have HQ0 : Hid (RJ w1 fn regs db bl (.slice dva N dvc) k Xs wO [] (.slice none 0 0) [] wO) := ⟨unhide hS, Below.refl _ _, OW.nil _⟩
    go_wp2_with fail
    clear c2 cl
    go_loopg [7, 6] IL (fun gg t7 t6 W => ∃ (j : Nat) (K : List RIn) (la : Option Addr) (ln lc : Nat) (ts : List TI), Hid (j + gg = IL) ∧ t7 = .int .i64 (j : Int) ∧ t6 = .slice la ln lc ∧ Hid (K ++ kepL (wS bl k) (u.ins.drop j) = kepL (wS bl k) u.ins ∧ K.length = ln ∧ ln ≤ j) ∧ Hid (RJ w1 fn regs db bl (.slice dva N dvc) k Xs wO K (.slice la ln lc) ts W))
    case atStart => exact ⟨0, [], none, 0, 0, [], by unfold Hid; omega, rfl, rfl, ⟨by simp, rfl, Nat.le_refl _⟩, HQ0⟩
    case round =>
      clear HQ0
      obtain ⟨j, K, la, ln, lc, ts, hj, rfl, rfl, hK, hQ⟩ := hrel
      have HR := hide ((unhide hQ).rq.on (unhide hQ).bw)
      have HXj := hide ((unhide HXk).go (unhide hQ).bw)
      obtain ⟨x0, x1, x2, x3⟩ := unhide HBL wr (unhide HXj).b
      have gb := blk_cells ((unhide HXj).h 0 _ rfl)
      have c0 := gb.1 0
      have c1 := gb.1 1
      have c2 := gb.1 2
      have cl := gb.2.2
      simp at c0 c1 c2 cl
      clear gb
      have j0 : (0 : Int) ≤ (j : Int) := by omega
      by_cases hjt : j < IL
      case neg =>
        have hjN : IL = j := by have := unhide hj; omega
        subst hjN
        have j1 : ¬ (IL : Int) < (IL : Int) := by omega
        have hKK : K = kepL (wS bl k) u.ins := by
          have q := (unhide hK).1
          rw [List.drop_eq_nil_of_le (by rw [unhide hIL]; exact Nat.le_refl _)] at q
          simpa [kepL] using q
        subst hKK
        obtain ⟨g, off, cc, edv, hgl, hgf, hgc⟩ : ∃ g off cc, (Value.slice dva N dvc) = .slice (some ⟨g, off, none⟩) N cc ∧ g < wr.heap.size ∧ (∀ z, wr.frozen? ⟨g, z, none⟩ = false) ∧ ∃ z, wr.cell? ⟨g, off + k * 3 + 1, none⟩ = some z := by
          have q := (unhide HR).ow.row
          rw [mix_len, unhide hNN] at q
          obtain ⟨y, hy⟩ : ∃ y, Xs[k]? = some y := ⟨_, List.getElem?_eq_getElem (by rw [(unhide HR).ow.len, mix_len, unhide hNN]; exact hlt)⟩
          have q2 : Ro wr 3 (.slice dva N dvc) Xs.length (flt enTB Xs) := by rw [(unhide HR).ow.len, mix_len, unhide hNN]; exact q
          obtain ⟨g, off, cc, eg, _, _, hgl, hgc⟩ := (Rx.of_ro q2).elem zTB hy
          have hlen : Xs.length = N := by rw [(unhide HR).ow.len, mix_len, unhide hNN]
          rw [hlen] at eg
          exact ⟨g, off, cc, eg, hgl, fun z => q.free eg z, ⟨_, hgc 1 _ rfl⟩⟩
        obtain ⟨e5, e6⟩ : dva = some ⟨g, off, none⟩ ∧ dvc = cc := by cases edv; exact ⟨rfl, rfl⟩
        subst e5
        subst e6
        clear edv
        obtain ⟨Xs', hT⟩ := (unhide hQ).done (unhide HU) (g := g) (off := off) (cap := dvc) (by rw [unhide hNN])
        have HT := hide hT
        have hgf1 := hgf (off + k * 3 + 1)
        obtain ⟨gz, hgz⟩ := hgc
        have gd := blk_cells (unhide HR).bd
        have d2 := gd.1 2
        have dl := gd.2.2
        simp at d2 dl
        clear gd hT hgf
        go_wp2_with fail
        go_roundg (N - (k + 1))
        case measure => have := unhide hk; omega
        case rel => exact ⟨k + 1, Xs', by have := unhide hk; unfold Hid; omega, by go_num, HT⟩
      have j1 : (j : Int) < (IL : Int) := by omega
      obtain ⟨x, hx⟩ : ∃ s, u.ins[j]? = some s := ⟨_, List.getElem?_eq_getElem (by rw [unhide hIL]; exact hjt)⟩
      have HX := hide hx
      have HID : Hid (∀ W, Below w1.heap.size w1 W → Calls Tryd.prog 68 #[.agg #[.int .i64 fn, .int .i64 regs, .slice (some ⟨vb, vo, none⟩) N vc], tv, .int .i64 (k : Int), .int .i64 (j : Int)] W fun e w' => e = .returned (.bool (idle (tab uss k (j + 1)) x)) ∧ Below W.heap.size W w') := fun W hW =>
        idleR_any (unhide HHB W ((unhide HX1).go hW).b) ((unhide HTM).on hW) (unhide HSH) (unhide HSUP) (by rw [unhide hNN]; exact hN) (unhide HU) hx (unhide HOU).1
      have HBI : Hid (tab uss k (j + 1) = backL (wS bl k) (u.ins.drop (j + 1))) := unhide HTB k u (unhide HU) (j + 1) (by rw [unhide hIL]; omega)
      have hKD := kepL_drop (wS bl k) u.ins hx
      rw [← unhide HBI] at hKD
      clear hx
      cases hid : idle (tab uss k (j + 1)) x with
      | true =>
        rw [hid, if_pos rfl] at hKD
        have HK2 : Hid (K ++ kepL (wS bl k) (u.ins.drop (j + 1)) = kepL (wS bl k) u.ins ∧ K.length = ln ∧ ln ≤ j + 1) := ⟨by rw [← hKD]; exact (unhide hK).1, (unhide hK).2.1, by have := (unhide hK).2.2; omega⟩
        rw [hid] at HID
        clear hKD hid
        go_wp2_with fail
        refine (unhide HID _ (unhide HR).bw).mono ?_
        rintro e y1 ⟨rfl, hb⟩
        have HQ2 := hide ((unhide hQ).on hb)
        clear hb c0 c1 c2 cl x0 x1 x2 x3
        go_wp2_with fail
        go_roundg (gk - 1)
        case measure => have := unhide hj; omega
        case rel => exact ⟨j + 1, K, la, ln, lc, ts, by have := unhide hj; unfold Hid; omega, by go_num, rfl, HK2, HQ2⟩
      | false =>
        rw [hid, if_neg (by simp)] at hKD
        have HK2 : Hid ((K ++ [x]) ++ kepL (wS bl k) (u.ins.drop (j + 1)) = kepL (wS bl k) u.ins ∧ (K ++ [x]).length = ln + 1 ∧ ln + 1 ≤ j + 1) := ⟨by rw [List.append_assoc, List.singleton_append, ← hKD]; exact (unhide hK).1, by rw [List.length_append, (unhide hK).2.1]; rfl, by have := (unhide hK).2.2; omega⟩
        rw [hid] at HID
        clear hKD hid
        go_wp2_with fail
        refine (unhide HID _ (unhide HR).bw).mono ?_
        rintro e y1 ⟨rfl, hb⟩
        have HQ2 := hide ((unhide hQ).on hb)
        have HXy := hide ((unhide HXj).go hb)
        clear hb c0 c1 c2 cl x0 x1 x2 x3 HXj HR
        obtain ⟨x0, x1, x2, x3⟩ := unhide HBL y1 (unhide HXy).b
        have gb := blk_cells ((unhide HXy).h 0 _ rfl)
        have c2 := gb.1 2
        have cl := gb.2.2
        simp at c2 cl
        clear gb
        obtain ⟨ib, io, aa, ac, ea, ec, rfl, hib, hInP, ha1', ha2', he1', he2', hic8⟩ := InsV.at8 (unhide HIN) (unhide HX)
        obtain ⟨hibw, y0', y1', y2, y3, y4, y5, y6, y7⟩ := hic8 y1 (unhide HXy).b
        have hbx := (unhide HOU).2.2 x (List.mem_of_getElem? (unhide HX))
        have HCP : Hid (Calls Tryd.prog 50 #[inV ⟨x.op, x.code, x.dst, .slice aa x.args.length ac, x.n, x.pc, x.need, .slice ea x.ex.length ec⟩] y1 fun e w' => ∃ r, e = .returned (inV r) ∧ CiT y1 x r w') := copyInT_any (InP.mv.bel hInP (unhide HXy).b) (by omega) (by omega) (fun s hs => by have := hbx.2.2 s hs; omega)
        unfold inV at HCP
        dsimp only at HCP
        obtain ⟨AL, hAL⟩ : ∃ z, Hid (x.args.length = z) := ⟨_, hide rfl⟩
        obtain ⟨EL, hEL⟩ : ∃ z, Hid (x.ex.length = z) := ⟨_, hide rfl⟩
        rw [unhide hAL] at y3 HCP
        rw [unhide hEL] at y7 HCP
        clear hic8 hInP hbx ha1' ha2' he1' he2'
        go_wp2_with fail
        refine (unhide HCP).mono ?_
        rintro e y8 ⟨r, rfl, hc⟩
        obtain ⟨a1, c1, a2, c3, e1, e2⟩ := hc.shape
        have hb1 := hc.bel
        obtain ⟨rop, rcode, rdst, rav, rn, rpc, rneed, rev⟩ := r
        simp only at e1 e2
        rw [unhide hAL] at e1
        rw [unhide hEL] at e2
        subst e1 e2
        have HC := hide hc
        have HTS : Hid ((ts.map Prod.fst).length = ln) := by unfold Hid; rw [List.length_map, (unhide HQ2).ow.len]; exact (unhide hK).2.1
        have HROW : Hid (Ro y8 8 (.slice la ln lc) (ts.map Prod.fst).length (flt enIn (ts.map Prod.fst))) := by
          have q := ((unhide HQ2).on hb1).ow.row
          rw [(unhide hK).2.1] at q
          rw [fltT]
          unfold Hid
          rw [unhide HTS]
          exact q
        have HLB : Hid ((ts.map Prod.fst).length ≤ 1099511627776) := by rw [unhide HTS]; have := (unhide HOU).1; rw [unhide hIL] at this; have := (unhide hK).2.2; unfold Hid; omega
        clear hc hb1 HCP x0 x1 x2 x3 c2 cl y0' y1' y2 y3 y4 y5 y6 y7 hibw
        go_wp2_with (first | (at_builtin; refine appIn rfl _ _ rfl _ (ts.map Prod.fst) rfl (Ro.fr (unhide HROW) (Fr.of_below (S := fun _ => False) (bl_past (box1n _ _) (box1n _ _))) (fun _ _ e => e)) ⟨y8.heap.size + 1, 0, none⟩ 1 ⟨rop, rcode, rdst, .slice a1 AL c1, rn, rpc, rneed, .slice a2 EL c3⟩ rfl (new_cellsB _ _ _ (by simp)) rfl rfl (unhide HLB) ?_))
        intro v' w' hr hg hat
        obtain ⟨ts', hT⟩ := (unhide HQ2).step (unhide HC) (bl_past (box1n _ _) (box1n _ _)) hr (by simp) hg (by simpa using hat)
        obtain ⟨v'a, v'c, ev', -, -⟩ := hr.shape
        rw [show (ts.length = ln) by have := unhide HTS; simpa using this] at ev'
        subst ev'
        have HT := hide hT
        clear hr hg hat hT HROW
        go_wp2_with fail
        go_roundg (gk - 1)
        case measure => have := unhide hj; omega
        case rel => exact ⟨j + 1, _, _, _, _, ts', by have := unhide hj; unfold Hid; omega, by go_num, rfl, HK2, HT⟩
end Go.Proofs.YtpbdmbmafjkinaaDoor
