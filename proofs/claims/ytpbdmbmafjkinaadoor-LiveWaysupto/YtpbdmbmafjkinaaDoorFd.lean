/-
  The document's Find: gone through again and again, until nothing is wanted anew.
-/
import Derived.Test.YtpbdmbmafjkinaaDoorFd0
namespace Go.Proofs.YtpbdmbmafjkinaaDoor
open Go.RowKit
set_option linter.unusedVariables false
set_option linter.unusedSimpArgs false
def FdP (w : World) (bl : List Bk) (e : Ending) (w' : World) : Prop :=
  ∃ tv uss ts, e = .returned tv ∧ Below w.heap.size w w' ∧ TM (fun k => w.heap.size ≤ k) w' tv uss ts ∧ Shp bl uss ∧ ∀ (b : Nat) (u : Bk), bl[b]? = some u → ∀ i, i ≤ u.ins.length → tab uss b i = backL (wS bl b) (u.ins.drop i)
/-- The blocks from the last one on are done. -/
def DB (bl : List Bk) (uss : List (List Rset)) (N j : Nat) : Prop := ∀ (b : Nat) (u : Bk), N - j ≤ b → bl[b]? = some u → ∀ r, isReg bl r → FixR uss u b r
def DK (uss : List (List Rset)) (rl : List Nat) (u : Bk) (b k : Nat) : Prop := ∀ r ∈ rl.take k, FixR uss u b r
def DI (uss : List (List Rset)) (u : Bk) (b r n m : Nat) : Prop := (nxB uss u.nx r = true → tab uss b u.ins.length r = true) ∧ ∀ (i : Nat) (x : RIn), n - m ≤ i → u.ins[i]? = some x → ruleS (tab uss b (i + 1)) x r = true → tab uss b i r = true
theorem DK_next {uss : List (List Rset)} {rl : List Nat} {u : Bk} {b k r n : Nat} (hr : rl[k]? = some r) (hn : u.ins.length = n) (h : DK uss rl u b k) (h2 : DI uss u b r n n) : DK uss rl u b (k + 1) := fun s hs => by
  rw [take_push hr] at hs
  rcases List.mem_append.1 hs with q | q
  · exact h s q
  · obtain rfl : s = r := by simpa using q
    exact ⟨h2.1, fun i x hx => h2.2 i x (by omega) hx⟩
theorem DB_next {bl : List Bk} {uss : List (List Rset)} {rl : List Nat} {u : Bk} {b N j : Nat} (hu : bl[b]? = some u) (hb : N - (j + 1) = b) (hj : j < N) (hrl : ∀ r, r ∈ rl ↔ isReg bl r) (h : DB bl uss N j) (h2 : DK uss rl u b rl.length) : DB bl uss N (j + 1) := fun b' u' hb' hu' r hr => by
  by_cases e : b' = b
  · subst e
    rw [hu] at hu'; cases hu'
    refine h2 r ?_
    rw [List.take_length]
    exact (hrl r).2 hr
  · exact h b' u' (by omega) hu' r hr
set_option maxRecDepth 100000 in
set_option maxHeartbeats 25600000 in
theorem find_any {w : World} {D0 : Nat → Prop} {fn regs : Int} {bl : List Bk} {v : Value} (h : BksV D0 w bl v) (hN : bl.length ≤ 1048576) (hO : ∀ u ∈ bl, OkL u) :
    Calls Tryd.prog 20 #[.agg #[.int .i64 fn, .int .i64 regs, v]] w (FdP w bl) := by
  obtain ⟨va, vc, rfl, hv1, hv2⟩ := NV.shape h
  obtain ⟨N, hNN⟩ : ∃ z, Hid (bl.length = z) := ⟨_, hide rfl⟩
  have HV := hide h
  have HO := hide hO
  rw [unhide hNN] at hN hv1 HV ⊢
  unfold maxLen at hv2
  obtain ⟨W, hW⟩ : ∃ W, Hid (w.alloc (.cells #[.int .i64 fn, .int .i64 regs, .slice va N vc] 24) = W) := ⟨_, hide rfl⟩
  have HW : Hid (Below w.heap.size w W) := by rw [← unhide hW]; exact box1n w _
  have hWs : W.heap.size = w.heap.size + 1 := by rw [← unhide hW]; simp
  have hn := heap_alloc_new w (.cells #[.int .i64 fn, .int .i64 regs, .slice va N vc] 24)
  rw [unhide hW] at hn
  have HBX := hide hn
  have c0 := (blk_cells hn).1 0
  have c1 := (blk_cells hn).1 1
  have c2 := (blk_cells hn).1 2
  have cl := (blk_cells hn).2.2
  simp at c0 c1 c2
  have HM : Hid (∀ X, Below w.heap.size w X → BksV D0 X bl (.slice va N vc)) := fun X hX => BksV.mv D0 D0 (fun _ => False) w X bl _ (unhide HV) (Fr.of_below hX) (fun k hk d => ⟨fun e => e, d⟩)
  have HNO := hide (nothing_any (fn := fn) (regs := regs) (unhide HM W (unhide HW)) (by rw [unhide hNN]; exact hN) (fun u hu => (unhide HO u hu).1))
  have hW' := unhide hW
  clear h hO hn
  go_enter Tryd.func20, Tryd.ntmps20
  go_wp2_with fail
  refine (unhide HNO).mono ?_
  rintro e W1 ⟨tv, ts, rfl, hB1, hT1⟩
  obtain ⟨ta, tc, rfl, ht1, ht2⟩ := hT1.row.shape
  have HB1 := hide hB1
  have hbx1 := (hB1.block _ cl).trans (unhide HBX)
  have d0 := (blk_cells hbx1).1 0
  have d1 := (blk_cells hbx1).1 1
  have d2 := (blk_cells hbx1).1 2
  have dl := (blk_cells hbx1).2.2
  simp at d0 d1 d2
  have HT1 := hide hT1
  have hwW1 : Below w.heap.size w W1 := (unhide HW).trans (hB1.mono (unhide HW).size)
  have HAK := hide (asked_any (fn := fn) (regs := regs) (unhide HM W1 hwW1) (by rw [unhide hNN]; exact hN) (unhide HO))
  have HW1 := hide hwW1
  have HBX1 := hide hbx1
  clear c0 c1 c2 hW' hW HNO hB1 hT1 hbx1 hwW1
  go_wp2_with fail
  refine (unhide HAK).mono ?_
  rintro e X2 ⟨rv, rl, rfl, hB2, hR2, hRo, hRl, hRm⟩
  obtain ⟨rva, rvc, rfl, hr1, hr2⟩ := hR2.shape
  obtain ⟨RL, hRL⟩ : ∃ z, Hid (rl.length = z) := ⟨_, hide rfl⟩
  obtain ⟨Z, hZ⟩ : ∃ Z : Nat → Prop, Hid (Z = fun k => W.heap.size ≤ k ∧ k < W1.heap.size) := ⟨_, hide rfl⟩
  have hZ1 : ∀ k, Z k → W.heap.size ≤ k ∧ k < W1.heap.size := fun k hk => by rw [unhide hZ] at hk; exact hk
  have HT2 : Hid (TM Z X2 (.slice ta (List.map rowsOf bl).length tc) (bl.map rowsOf) ts) := (TM.mono2 (unhide HT1) (fun k hk q => by rw [unhide hZ]; exact ⟨q, hk⟩)).on hB2
  have HFM : Hid (∀ X, Fr Z X2 X → Below w.heap.size w X ∧ w.heap.size < X.heap.size ∧ X.cell? ⟨w.heap.size, 0, none⟩ = some (.int .i64 fn) ∧ X.cell? ⟨w.heap.size, 1, none⟩ = some (.int .i64 regs) ∧ X.cell? ⟨w.heap.size, 2, none⟩ = some (.slice va N vc) ∧ Ro X 1 (.slice rva rl.length rvc) rl.length (flt enN rl)) := fun X f => by
    have b2 : X2.heap[w.heap.size]? = some (.cells #[.int .i64 fn, .int .i64 regs, .slice va N vc] 24) := (hB2.block _ dl).trans (unhide HBX1)
    have b3 : X.heap[w.heap.size]? = some (.cells #[.int .i64 fn, .int .i64 regs, .slice va N vc] 24) := (f.block _ (Array.getElem?_eq_some_iff.1 b2).1 (fun e => by have := hZ1 _ e; omega)).trans b2
    obtain ⟨q1, _, q3⟩ := blk_cells b3
    have hw2 : Below w.heap.size w X2 := (unhide HW1).trans (hB2.mono (unhide HW1).size)
    exact ⟨hw2.trans (f.below hw2.size (fun k hk e => by have := hZ1 _ e; omega)), q3, by rw [q1]; rfl, by rw [q1]; rfl, by rw [q1]; rfl, hR2.fr f (fun k hk e => by have h1 := hRo k hk; have h2 := hZ1 _ e; omega)⟩
  have HZ1 := hide hZ1
  have HRM := hide hRm
  unfold maxLen at hr2 ht2
  rw [List.length_map, unhide hNN] at HT2 ht1
  rw [unhide hRL] at HFM hr1 hRl
  clear hB2 hR2 hRo hRm d0 d1 d2 dl HAK HT1 HW1 HBX1 hZ1 HBX cl hZ
  -- the invariant
  have HI0 : Hid (Shp bl (bl.map rowsOf) ∧ TSnd bl (isReg bl) (tab (bl.map rowsOf))) := ⟨Shp.start bl, snd_start bl⟩
  obtain ⟨MU, hMU⟩ : ∃ z, Hid (cnt (bl.map rowsOf) + 1 = z) := ⟨_, hide rfl⟩
  have HM0 : Hid (Fr Z X2 X2 ∧ TM Z X2 (.slice ta N tc) (bl.map rowsOf) ts) := ⟨Fr.refl _ _, unhide HT2⟩
  simp only [List.length_map, unhide hNN, unhide hRL]
  clear HT2
  go_wp2_with fail
  go_loopg [5] MU (fun gg t5 wr => ∃ (ag : Bool) (uss : List (List Rset)), t5 = .bool ag ∧ Hid (Shp bl uss ∧ TSnd bl (isReg bl) (tab uss) ∧ (ag = true → cnt uss < gg) ∧ (ag = false → DB bl uss N N)) ∧ Hid (Fr Z X2 wr ∧ TM Z wr (.slice ta N tc) uss ts))
  case atStart => exact ⟨true, _, rfl, ⟨(unhide HI0).1, (unhide HI0).2, fun _ => by have := unhide hMU; omega, fun e => by cases e⟩, HM0⟩
  case round =>
    clear HI0 HM0
    obtain ⟨ag, uss0, rfl, hI, hMem⟩ := hrel
    cases ag with
    | false =>
      have HE : Hid (∀ (b : Nat) (u : Bk), bl[b]? = some u → ∀ i, i ≤ u.ins.length → tab uss0 b i = backL (wS bl b) (u.ins.drop i)) := fun b u hu i hi => table_eq (unhide hI).2.1 (fix_of (fun b u hu r hr => (unhide hI).2.2.2 rfl b u (by omega) hu r hr)) b u hu i hi
      go_wp2_with fail
      go_ret
      obtain ⟨q1, q2, _⟩ := unhide HFM _ (unhide hMem).1
      exact ⟨_, uss0, ts, rfl, q1, TM.mono (unhide hMem).2 (fun k hk => by have := unhide HZ1 k hk; omega), (unhide hI).1, unhide HE⟩
    | true =>
      have HFI0 : Hid (FI bl uss0 false uss0) := ⟨(unhide hI).1, (unhide hI).2.1, (fun e => by cases e), fun _ => rfl⟩
      have HG0 : Hid (cnt uss0 < gk) := (unhide hI).2.2.1 rfl
      obtain ⟨G0, HG1⟩ : ∃ G0, Hid (G0 + 1 = gk ∧ cnt uss0 ≤ G0) := ⟨gk - 1, hide ⟨by have := unhide HG0; omega, by have := unhide HG0; omega⟩⟩
      obtain ⟨hbel, cl, c0, c1, c2, _⟩ := unhide HFM _ (unhide hMem).1
      have n0 : (0 : Int) ≤ (N : Int) := by omega
      have wn1 : IntKind.i64.wrap ((N : Int) - 1) = (N : Int) - 1 := by go_arith
      clear hI
      go_wp2_with fail
      clear cl c0 c1 c2 hbel
      go_loopg [6, 5] N (fun gg t6 t5 wr => ∃ (j : Nat) (ag : Bool) (uss : List (List Rset)), Hid (j + gg = N) ∧ t6 = .int .i64 ((N : Int) - 1 - (j : Int)) ∧ t5 = .bool ag ∧ Hid (FI bl uss0 ag uss ∧ (ag = false → DB bl uss0 N j)) ∧ Hid (Fr Z X2 wr ∧ TM Z wr (.slice ta N tc) uss ts))
      case atStart => exact ⟨0, false, uss0, by unfold Hid; omega, by simp, rfl, hide ⟨unhide HFI0, fun _ b u hb hu => by have := (List.getElem?_eq_some_iff.1 hu).1; rw [unhide hNN] at this; omega⟩, hMem⟩
      case round =>
        clear HFI0 hMem
        obtain ⟨j, ag, uss, hj, rfl, rfl, hI, hMem⟩ := hrel
        obtain ⟨hbel, cl, c0, c1, c2, _⟩ := unhide HFM _ (unhide hMem).1
        by_cases hjN : j < N
        · obtain ⟨b, hb⟩ : ∃ b : Nat, Hid (N - (j + 1) = b) := ⟨_, hide rfl⟩
          have hb' := unhide hb
          have eb : (N : Int) - 1 - (j : Int) = (b : Int) := by omega
          rw [eb]
          have b0 : (0 : Int) ≤ (b : Int) := by omega
          have b1 : (b : Int) < (N : Int) := by omega
          obtain ⟨u, hu⟩ : ∃ u, bl[b]? = some u := ⟨_, List.getElem?_eq_getElem (by rw [unhide hNN]; omega)⟩
          obtain ⟨vb, vo, ia, ic, na, nc, ea, hvb, hIns, _, hic, _, hicl, _, hcc⟩ := (unhide HV).blk hu
          subst ea
          unfold maxLen at hic
          have HCC := hide hcc
          have HU := hide hu
          have HIN := hide hIns
          have HOU := hide (unhide HO u (List.mem_of_getElem? hu))
          have hui := (unhide HOU).1
          obtain ⟨n, hnn⟩ : ∃ z, Hid (u.ins.length = z) := ⟨_, hide rfl⟩
          rw [unhide hnn] at HCC hicl hui HIN
          obtain ⟨t0, _, t1, _⟩ := unhide HCC _ hbel
          clear hcc hu hIns
          go_wp2_with fail
          clear c0 c1 c2 cl t0 t1 hbel
          go_loopg [8, 5] RL (fun gg t8 t5 wr => ∃ (k : Nat) (ag : Bool) (uss : List (List Rset)), Hid (k + gg = RL) ∧ t8 = .int .i64 (k : Int) ∧ t5 = .bool ag ∧ Hid (FI bl uss0 ag uss ∧ (ag = false → DB bl uss0 N j) ∧ (ag = false → DK uss0 rl u b k)) ∧ Hid (Fr Z X2 wr ∧ TM Z wr (.slice ta N tc) uss ts))
          case atStart => exact ⟨0, ag, uss, by unfold Hid; omega, rfl, rfl, hide ⟨(unhide hI).1, (unhide hI).2, fun _ r hr => by simp at hr⟩, hMem⟩
          case round =>
            clear hI hMem
            obtain ⟨k, ag, uss, hk, rfl, rfl, hI, hMem⟩ := hrel
            obtain ⟨hbel, cl, c0, c1, c2, hrow⟩ := unhide HFM _ (unhide hMem).1
            by_cases hkR : k < RL
            · have k0 : (0 : Int) ≤ (k : Int) := by omega
              have k1 : (k : Int) < (RL : Int) := by omega
              obtain ⟨r, hr⟩ : ∃ r, rl[k]? = some r := ⟨_, List.getElem?_eq_getElem (by rw [unhide hRL]; exact hkR)⟩
              have hreg : isReg bl r := (unhide HRM r).1 (List.mem_of_getElem? hr)
              obtain ⟨rb, rof, rcp, e, _, _, hrb, hrc⟩ := Rx.elem zN (by have q := Rx.of_ro hrow; rw [unhide hRL]; exact q) hr
              rw [unhide hRL] at e
              cases e
              have rc0 := hrc 0 _ rfl
              rw [Nat.mul_one, Nat.add_zero] at rc0
              have r5 := hreg.1
              have r0 : (0 : Int) ≤ (r : Int) := by omega
              have r1 : (r : Int) < 512 := by omega
              obtain ⟨us, M, hus, hM, hTM, hul⟩ := (unhide hI).1.shp.at (unhide HU) (i := n) (by rw [unhide hnn]; exact Nat.le_refl _)
              rw [unhide hnn] at hul
              obtain ⟨tb, tof, tc2, ra, ro, rc, g, go, gc, e1, x1, x2, x3, x4, x5, x6, x7, x8⟩ := (unhide hMem).2.read hus hM
              rw [(unhide hI).1.shp.len, unhide hNN] at e1
              cases e1
              rw [hul] at x2
              obtain ⟨g', go', gc', e2, _, x9⟩ := x6.read
              cases e2
              obtain ⟨y1, y2⟩ := x9 r r5
              have HREG := hide hreg
              have HKR := hide hr
              have HUS := hide hus
              have HUM := hide hM
              have HTB := hide hTM
              have HZG := hide x7
              have HX8 := hide (x8 r r5)
              have nn0 : (0 : Int) ≤ (n : Int) := by omega
              have nn1 : (n : Int) < (n : Int) + 1 := by omega
              have wn2 : IntKind.i64.wrap ((n : Int) - 1) = (n : Int) - 1 := by go_arith
              clear hrc hreg hr hus hM hTM hul x6 x7 x8 x9 hrow
              cases hMr : M r with
              | true =>
                rw [hMr] at y1
                have HI3 : Hid (FI bl uss0 ag uss ∧ (ag = false → DB bl uss0 N j) ∧ (ag = false → DK uss0 rl u b k) ∧ (ag = false → DI uss0 u b r n 0)) := ⟨(unhide hI).1, (unhide hI).2.1, (unhide hI).2.2, fun e => ⟨fun _ => by rw [unhide hnn, ← (unhide hI).1.no e, unhide HTB]; exact hMr, fun i2 x2 hi2 hx2 => by have := (List.getElem?_eq_some_iff.1 hx2).1; rw [unhide hnn] at this; omega⟩⟩
                have HM3 := hMem
                clear hMr hI hMem HX8 HUS HUM HTB HZG
                go_wp2_with fail
                clear c0 c1 c2 cl rc0 hrb x1 x2 x3 x4 x5 y1 y2 hbel
                go_loopg [10, 5] n (fun gg t10 t5 wr => ∃ (m : Nat) (ag : Bool) (uss : List (List Rset)), Hid (m + gg = n) ∧ t10 = .int .i64 ((n : Int) - 1 - (m : Int)) ∧ t5 = .bool ag ∧ Hid (FI bl uss0 ag uss ∧ (ag = false → DB bl uss0 N j) ∧ (ag = false → DK uss0 rl u b k) ∧ (ag = false → DI uss0 u b r n m)) ∧ Hid (Fr Z X2 wr ∧ TM Z wr (.slice (some ⟨tb, tof, none⟩) N tc) uss ts))
                case atStart => exact ⟨0, ag, uss, by unfold Hid; omega, by simp, rfl, HI3, HM3⟩
                case round =>
                  clear HI3 HM3
                  obtain ⟨m, ag, uss, hm, rfl, rfl, hI, hMem⟩ := hrel
                  by_cases hmn : m < n
                  · obtain ⟨i, hi⟩ : ∃ i : Nat, Hid (n - 1 - m = i) := ⟨_, hide rfl⟩
                    have hi' := unhide hi
                    have ei : (n : Int) - 1 - (m : Int) = (i : Int) := by omega
                    rw [ei]
                    have i0 : (0 : Int) ≤ (i : Int) := by omega
                    have i1n : (i : Int) < (n : Int) := by omega
                    have i2n : (i : Int) < (n : Int) + 1 := by omega
                    obtain ⟨x, hx⟩ : ∃ x, u.ins[i]? = some x := ⟨_, List.getElem?_eq_getElem (by rw [unhide hnn]; omega)⟩
                    obtain ⟨us, M, hus, hM, hTM, hul⟩ := (unhide hI).1.shp.at (unhide HU) (i := i) (by rw [unhide hnn]; omega)
                    rw [unhide hnn] at hul
                    obtain ⟨tb2, tof2, tc2, ra, ro, rc, g, go, gc, e1, x1, x2, x3, x4, x5, x6, x7, x8⟩ := (unhide hMem).2.read hus hM
                    rw [(unhide hI).1.shp.len, unhide hNN] at e1
                    cases e1
                    rw [hul] at x2
                    obtain ⟨g', go', gc', e2, _, x9⟩ := x6.read
                    cases e2
                    obtain ⟨y1, y2⟩ := x9 r r5
                    obtain ⟨i1, hi1⟩ : ∃ z : Nat, Hid (i + 1 = z) := ⟨_, hide rfl⟩
                    have ei1 : (i : Int) + 1 = (i1 : Int) := by have := unhide hi1; omega
                    have wi2 : IntKind.i64.wrap ((i : Int) - 1) = (i : Int) - 1 := by go_arith
                    have i10 : (0 : Int) ≤ (i1 : Int) := by omega
                    have i11 : (i1 : Int) < (n : Int) + 1 := by omega
                    have wi1 : IntKind.i64.wrap (i1 : Int) = (i1 : Int) := by go_arith
                    obtain ⟨us1, M1, hus1, hM1, hTM1, _⟩ := (unhide hI).1.shp.at (unhide HU) (i := i1) (by rw [unhide hnn]; have := unhide hi1; omega)
                    rw [hus] at hus1
                    cases hus1
                    obtain ⟨tb3, tof3, tc3, ra1, ro1, rc1, g1, go1, gc1, e3, _, v2, _, v4, v5, v6, _, _⟩ := (unhide hMem).2.read hus hM1
                    rw [(unhide hI).1.shp.len, unhide hNN] at e3
                    cases e3
                    rw [hul, x2] at v2
                    cases v2
                    have hsup1 : Sup M1 := by have q := snd_sup (unhide hI).1.snd b i1; rwa [hTM1] at q
                    obtain ⟨ib, io, aa, ac, ea, ec, e4, hib, hP, ha1, ha2, he1, he2, hcx⟩ := InsV.at8 (unhide HIN) hx
                    subst e4
                    have HFF : Hid (∀ V, Below wr.heap.size wr V → Below w.heap.size w V) := fun V hV => (unhide HFM _ (unhide hMem).1).1.trans (hV.mono (unhide HFM _ (unhide hMem).1).1.size)
                    have HR1 : Hid (∀ V, Below wr.heap.size wr V → tb < V.heap.size ∧ V.cell? ⟨tb, tof + b, none⟩ = some (.slice (some ⟨ra, ro, none⟩) (n + 1) rc) ∧ ra < V.heap.size ∧ V.cell? ⟨ra, ro + i, none⟩ = some (.slice (some ⟨g, go, none⟩) 512 gc) ∧ g < V.heap.size ∧ V.cell? ⟨g, go + r, none⟩ = some (.bool (M r))) := fun V hV => ⟨Nat.lt_of_lt_of_le x1 hV.size, (hV.cell (p := ⟨tb, tof + b, none⟩) x1).trans x2, Nat.lt_of_lt_of_le x3 hV.size, (hV.cell (p := ⟨ra, ro + i, none⟩) x3).trans x4, Nat.lt_of_lt_of_le x5 hV.size, (hV.cell (p := ⟨g, go + r, none⟩) x5).trans y1⟩
                    have HR2 : Hid (∀ V, Below wr.heap.size wr V → w.heap.size < V.heap.size ∧ V.cell? ⟨w.heap.size, 2, none⟩ = some (.slice (some ⟨vb, vo, none⟩) N vc) ∧ vb < V.heap.size ∧ V.cell? ⟨vb, vo + b * 3 + 1, none⟩ = some (.slice (some ⟨ib, io, none⟩) n ic) ∧ ib < V.heap.size ∧ V.cell? ⟨ib, io + i * 8, none⟩ = some (.int .i64 x.op) ∧ V.cell? ⟨ib, io + i * 8 + 1, none⟩ = some (.int .i64 x.code) ∧ V.cell? ⟨ib, io + i * 8 + 2, none⟩ = some (.int .i64 x.dst) ∧ V.cell? ⟨ib, io + i * 8 + 3, none⟩ = some (.slice aa x.args.length ac) ∧ V.cell? ⟨ib, io + i * 8 + 4, none⟩ = some (.int .i64 x.n) ∧ V.cell? ⟨ib, io + i * 8 + 5, none⟩ = some (.int .i64 x.pc) ∧ V.cell? ⟨ib, io + i * 8 + 6, none⟩ = some (.int .i64 x.need) ∧ V.cell? ⟨ib, io + i * 8 + 7, none⟩ = some (.slice ea x.ex.length ec) ∧ True) := fun V hV => by
                      obtain ⟨_, f2, _, _, f5, _⟩ := unhide HFM _ (unhide hMem).1
                      obtain ⟨h1, _, h3, _⟩ := unhide HCC V (unhide HFF V hV)
                      obtain ⟨k0, k1, k2, k3, k4, k5, k6, k7, k8⟩ := hcx V (unhide HFF V hV)
                      exact ⟨Nat.lt_of_lt_of_le f2 hV.size, (hV.cell (p := ⟨w.heap.size, 2, none⟩) f2).trans f5, h1, h3, k0, k1, k2, k3, k4, k5, k6, k7, k8, trivial⟩
                    have HR3 : Hid (∀ V, Below wr.heap.size wr V → ra < V.heap.size ∧ V.cell? ⟨ra, ro + i1, none⟩ = some (.slice (some ⟨g1, go1, none⟩) 512 gc1)) := fun V hV => ⟨Nat.lt_of_lt_of_le x3 hV.size, (hV.cell (p := ⟨ra, ro + i1, none⟩) x3).trans v4⟩
                    have HRU := hide (fun V (hV : Below wr.heap.size wr V) => rule_any (InP.mv D0 D0 (fun _ => False) w V x _ hP (Fr.of_below (unhide HFF V hV)) (fun k hk d => ⟨fun e => e, d⟩)) (Ro.fr v6 (Fr.of_below (S := fun _ => False) hV) (fun _ _ e => e)) hsup1 r ((unhide HOU).2.2 x (List.mem_of_getElem? hx)).1 ((unhide HOU).2.2 x (List.mem_of_getElem? hx)).2.1 ((unhide HOU).2.2 x (List.mem_of_getElem? hx)).2.2)
                    have HX := hide hx
                    have HUS := hide hus
                    have HUM := hide hM
                    have HTB := hide hTM
                    have HTB1 : Hid (tab uss b (i + 1) = M1) := by rw [unhide hi1]; exact hTM1
                    have HX8 := hide (x8 r r5)
                    have HZG := hide x7
                    have HS0 : Hid (Below wr.heap.size wr wr.drew) := bl_drew wr
                    obtain ⟨AL, hAL⟩ : ∃ z, Hid (x.args.length = z) := ⟨_, hide rfl⟩
                    obtain ⟨EL, hEL⟩ : ∃ z, Hid (x.ex.length = z) := ⟨_, hide rfl⟩
                    rw [unhide hAL, unhide hEL] at HR2 HRU
                    clear hx hus hM hTM hM1 hTM1 hul x1 x2 x3 x4 x5 x6 x7 x8 x9 y1 y2 v4 v5 v6 hcx hP hsup1
                    cases hMr : M r with
                    | true =>
                      rw [hMr] at HR1
                      have HI2 : Hid (FI bl uss0 ag uss ∧ (ag = false → DB bl uss0 N j) ∧ (ag = false → DK uss0 rl u b k) ∧ (ag = false → DI uss0 u b r n (m + 1))) := ⟨(unhide hI).1, (unhide hI).2.1, (unhide hI).2.2.1, fun e => ⟨((unhide hI).2.2.2 e).1, fun i2 x2 hi2 hx2 hq => by
                        by_cases e2 : i2 = i
                        · subst e2
                          rw [← (unhide hI).1.no e, unhide HTB]; exact hMr
                        · exact ((unhide hI).2.2.2 e).2 i2 x2 (by omega) hx2 hq⟩⟩
                      have HM2 : Hid (Fr Z X2 wr.drew ∧ TM Z wr.drew (.slice (some ⟨tb, tof, none⟩) N tc) uss ts) := ⟨(unhide hMem).1.trans (Fr.of_below (bl_drew wr)), TM.on (unhide hMem).2 (bl_drew wr)⟩
                      clear hMr hI hMem HRU HUS HUM HTB HTB1 HX8
                      go_wp2_with fail
                      refine wp_region_held_drew (S := fun V => Below wr.heap.size wr V) (by kernel_rfl) (unhide HS0) (fun hHeld => ?_)
                      clear hHeld
                      refine wpAnyH_take (i := 0) (oi := _) (v := .slice (some ⟨tb, tof, none⟩) N tc) rfl (by kernel_rfl) (by kernel_rfl) (by kernel_rfl) (fun _ _ _ h => h) (Or.inl ⟨by rfl, (by intro w' hSw; go_simp; first | done | rfl)⟩) (unhide HS0) ?_
                      go_simp
                      refine wpAnyH_take (i := 1) (oi := _) (v := .int .i64 (b : Int)) rfl (by kernel_rfl) (by kernel_rfl) (by kernel_rfl) (fun _ _ _ h => h) (Or.inl ⟨by rfl, (by intro w' hSw; go_simp; first | done | rfl)⟩) (unhide HS0) ?_
                      go_simp
                      refine wpAnyH_take (i := 2) (oi := _) (v := .pointer (some ⟨tb, tof + b, none⟩)) rfl (by kernel_rfl) (by kernel_rfl) (by kernel_rfl) (fun _ _ _ h => h) (Or.inl ⟨by rfl, (by intro w' hSw; go_simp; first | done | rfl)⟩) (unhide HS0) ?_
                      go_simp
                      refine wpAnyH_take (i := 3) (oi := _) (v := .slice (some ⟨ra, ro, none⟩) (n + 1) rc) rfl (by kernel_rfl) (by kernel_rfl) (by kernel_rfl) (fun _ _ _ h => h) (Or.inl ⟨by rfl, (by intro w' hSw; obtain ⟨a1, a2, a3, a4, a5, a6⟩ := unhide HR1 w' hSw; go_simp; first | done | rfl)⟩) (unhide HS0) ?_
                      go_simp
                      refine wpAnyH_take (i := 4) (oi := _) (v := .int .i64 (i : Int)) rfl (by kernel_rfl) (by kernel_rfl) (by kernel_rfl) (fun _ _ _ h => h) (Or.inl ⟨by rfl, (by intro w' hSw; go_simp; first | done | rfl)⟩) (unhide HS0) ?_
                      go_simp
                      refine wpAnyH_take (i := 5) (oi := _) (v := .pointer (some ⟨ra, ro + i, none⟩)) rfl (by kernel_rfl) (by kernel_rfl) (by kernel_rfl) (fun _ _ _ h => h) (Or.inl ⟨by rfl, (by intro w' hSw; go_simp; first | done | rfl)⟩) (unhide HS0) ?_
                      go_simp
                      refine wpAnyH_take (i := 6) (oi := _) (v := .slice (some ⟨g, go, none⟩) 512 gc) rfl (by kernel_rfl) (by kernel_rfl) (by kernel_rfl) (fun _ _ _ h => h) (Or.inl ⟨by rfl, (by intro w' hSw; obtain ⟨a1, a2, a3, a4, a5, a6⟩ := unhide HR1 w' hSw; go_simp; first | done | rfl)⟩) (unhide HS0) ?_
                      go_simp
                      refine wpAnyH_take (i := 7) (oi := _) (v := .int .i64 (r : Int)) rfl (by kernel_rfl) (by kernel_rfl) (by kernel_rfl) (fun _ _ _ h => h) (Or.inl ⟨by rfl, (by intro w' hSw; go_simp; first | done | rfl)⟩) (unhide HS0) ?_
                      go_simp
                      refine wpAnyH_take (i := 8) (oi := _) (v := .pointer (some ⟨g, go + r, none⟩)) rfl (by kernel_rfl) (by kernel_rfl) (by kernel_rfl) (fun _ _ _ h => h) (Or.inl ⟨by rfl, (by intro w' hSw; go_simp; first | done | rfl)⟩) (unhide HS0) ?_
                      go_simp
                      refine wpAnyH_take (i := 9) (oi := _) (v := .bool true) rfl (by kernel_rfl) (by kernel_rfl) (by kernel_rfl) (fun _ _ _ h => h) (Or.inl ⟨by rfl, (by intro w' hSw; obtain ⟨a1, a2, a3, a4, a5, a6⟩ := unhide HR1 w' hSw; go_simp; first | done | rfl)⟩) (unhide HS0) ?_
                      go_simp
                      refine wpAnyH_take (i := 10) (oi := _) (v := .bool false) rfl (by kernel_rfl) (by kernel_rfl) (by kernel_rfl) (fun _ _ _ h => h) (Or.inl ⟨by rfl, (by intro w' hSw; go_simp; first | done | rfl)⟩) (unhide HS0) ?_
                      go_simp
                      refine wpAnyH_take (i := 11) (oi := _) (v := .bool false) rfl (by kernel_rfl) (by kernel_rfl) (by kernel_rfl) (fun _ _ _ h => h) (Or.inl ⟨by rfl, (by intro w' hSw; go_simp; first | done | rfl)⟩) (unhide HS0) ?_
                      go_simp
                      refine wpAnyH_take (i := 12) (oi := _) (v := undef) rfl (by kernel_rfl) (by kernel_rfl) (by kernel_rfl) (fun _ _ _ h => h) (Or.inr ⟨by rfl, rfl⟩) (unhide HS0) ?_
                      go_simp
                      refine wpAnyH_take (i := 13) (oi := _) (v := undef) rfl (by kernel_rfl) (by kernel_rfl) (by kernel_rfl) (fun _ _ _ h => h) (Or.inr ⟨by rfl, rfl⟩) (unhide HS0) ?_
                      go_simp
                      refine wpAnyH_take (i := 14) (oi := _) (v := undef) rfl (by kernel_rfl) (by kernel_rfl) (by kernel_rfl) (fun _ _ _ h => h) (Or.inr ⟨by rfl, rfl⟩) (unhide HS0) ?_
                      go_simp
                      refine wpAnyH_take (i := 15) (oi := _) (v := undef) rfl (by kernel_rfl) (by kernel_rfl) (by kernel_rfl) (fun _ _ _ h => h) (Or.inr ⟨by rfl, rfl⟩) (unhide HS0) ?_
                      go_simp
                      refine wpAnyH_take (i := 16) (oi := _) (v := undef) rfl (by kernel_rfl) (by kernel_rfl) (by kernel_rfl) (fun _ _ _ h => h) (Or.inr ⟨by rfl, rfl⟩) (unhide HS0) ?_
                      go_simp
                      refine wpAnyH_take (i := 17) (oi := _) (v := undef) rfl (by kernel_rfl) (by kernel_rfl) (by kernel_rfl) (fun _ _ _ h => h) (Or.inr ⟨by rfl, rfl⟩) (unhide HS0) ?_
                      go_simp
                      refine wpAnyH_take (i := 18) (oi := _) (v := undef) rfl (by kernel_rfl) (by kernel_rfl) (by kernel_rfl) (fun _ _ _ h => h) (Or.inr ⟨by rfl, rfl⟩) (unhide HS0) ?_
                      go_simp
                      refine wpAnyH_take (i := 19) (oi := _) (v := undef) rfl (by kernel_rfl) (by kernel_rfl) (by kernel_rfl) (fun _ _ _ h => h) (Or.inr ⟨by rfl, rfl⟩) (unhide HS0) ?_
                      go_simp
                      refine wpAnyH_take (i := 20) (oi := _) (v := undef) rfl (by kernel_rfl) (by kernel_rfl) (by kernel_rfl) (fun _ _ _ h => h) (Or.inr ⟨by rfl, rfl⟩) (unhide HS0) ?_
                      go_simp
                      refine wpAnyH_take (i := 21) (oi := _) (v := undef) rfl (by kernel_rfl) (by kernel_rfl) (by kernel_rfl) (fun _ _ _ h => h) (Or.inr ⟨by rfl, rfl⟩) (unhide HS0) ?_
                      go_simp
                      refine wpAnyH_take (i := 22) (oi := _) (v := undef) rfl (by kernel_rfl) (by kernel_rfl) (by kernel_rfl) (fun _ _ _ h => h) (Or.inr ⟨by rfl, rfl⟩) (unhide HS0) ?_
                      go_simp
                      refine wpAnyH_take (i := 23) (oi := _) (v := undef) rfl (by kernel_rfl) (by kernel_rfl) (by kernel_rfl) (fun _ _ _ h => h) (Or.inr ⟨by rfl, rfl⟩) (unhide HS0) ?_
                      go_simp
                      refine wpAnyH_take (i := 24) (oi := _) (v := undef) rfl (by kernel_rfl) (by kernel_rfl) (by kernel_rfl) (fun _ _ _ h => h) (Or.inr ⟨by rfl, rfl⟩) (unhide HS0) ?_
                      go_simp
                      refine wpAnyH_take (i := 25) (oi := _) (v := undef) rfl (by kernel_rfl) (by kernel_rfl) (by kernel_rfl) (fun _ _ _ h => h) (Or.inr ⟨by rfl, rfl⟩) (unhide HS0) ?_
                      go_simp
                      refine wpAnyH_take (i := 26) (oi := _) (v := undef) rfl (by kernel_rfl) (by kernel_rfl) (by kernel_rfl) (fun _ _ _ h => h) (Or.inr ⟨by rfl, rfl⟩) (unhide HS0) ?_
                      go_simp
                      refine wpAnyH_take (i := 27) (oi := _) (v := undef) rfl (by kernel_rfl) (by kernel_rfl) (by kernel_rfl) (fun _ _ _ h => h) (Or.inr ⟨by rfl, rfl⟩) (unhide HS0) ?_
                      go_simp
                      refine wpAnyH_take (i := 28) (oi := _) (v := undef) rfl (by kernel_rfl) (by kernel_rfl) (by kernel_rfl) (fun _ _ _ h => h) (Or.inr ⟨by rfl, rfl⟩) (unhide HS0) ?_
                      go_simp
                      refine wpAnyH_take (i := 29) (oi := _) (v := undef) rfl (by kernel_rfl) (by kernel_rfl) (by kernel_rfl) (fun _ _ _ h => h) (Or.inr ⟨by rfl, rfl⟩) (unhide HS0) ?_
                      go_simp
                      refine wpAnyH_take (i := 30) (oi := _) (v := undef) rfl (by kernel_rfl) (by kernel_rfl) (by kernel_rfl) (fun _ _ _ h => h) (Or.inr ⟨by rfl, rfl⟩) (unhide HS0) ?_
                      go_simp
                      refine wpAnyH_take (i := 31) (oi := _) (v := .bool false) rfl (by kernel_rfl) (by kernel_rfl) (by kernel_rfl) (fun _ _ _ h => h) (Or.inl ⟨by rfl, (by intro w' hSw; go_simp; first | done | rfl)⟩) (unhide HS0) ?_
                      go_simp
                      refine wpAnyH_done (by kernel_rfl) ?_ _
                      clear HR1 HR2 HR3 HS0
                      go_wp2_with fail
                      go_roundg (gk - 1)
                      case measure => have := unhide hm; omega
                      case rel => exact ⟨m + 1, ag, uss, by have := unhide hm; unfold Hid; omega, by rw [show (i : Int) - 1 = (n : Int) - 1 - ((m + 1 : Nat) : Int) by omega], rfl, HI2, HM2⟩

                    | false =>
                      rw [hMr] at HR1
                      cases hru : ruleS M1 x r with
                      | true =>
                        rw [hru] at HRU
                        have HFI2 : Hid (FI bl uss0 true (uss.set b (us.set i (pbit M r true)))) := (unhide hI).1.put (unhide HUS) (unhide HUM) (unhide HU) (unhide HREG) hMr (snd_rule (unhide hI).1.snd (unhide HU) (unhide HX) r5 (by rw [unhide HTB1]; exact hru))
                        clear hMr hru
                        go_wp2_with fail
                        refine wp_region_held_drew (S := fun V => Below wr.heap.size wr V) (by kernel_rfl) (unhide HS0) (fun hHeld => ?_)
                        clear hHeld
                        refine wpAnyH_take (i := 0) (oi := _) (v := .slice (some ⟨tb, tof, none⟩) N tc) rfl (by kernel_rfl) (by kernel_rfl) (by kernel_rfl) (fun _ _ _ h => h) (Or.inl ⟨by rfl, (by intro w' hSw; go_simp; first | done | rfl)⟩) (unhide HS0) ?_
                        go_simp
                        refine wpAnyH_take (i := 1) (oi := _) (v := .int .i64 (b : Int)) rfl (by kernel_rfl) (by kernel_rfl) (by kernel_rfl) (fun _ _ _ h => h) (Or.inl ⟨by rfl, (by intro w' hSw; go_simp; first | done | rfl)⟩) (unhide HS0) ?_
                        go_simp
                        refine wpAnyH_take (i := 2) (oi := _) (v := .pointer (some ⟨tb, tof + b, none⟩)) rfl (by kernel_rfl) (by kernel_rfl) (by kernel_rfl) (fun _ _ _ h => h) (Or.inl ⟨by rfl, (by intro w' hSw; go_simp; first | done | rfl)⟩) (unhide HS0) ?_
                        go_simp
                        refine wpAnyH_take (i := 3) (oi := _) (v := .slice (some ⟨ra, ro, none⟩) (n + 1) rc) rfl (by kernel_rfl) (by kernel_rfl) (by kernel_rfl) (fun _ _ _ h => h) (Or.inl ⟨by rfl, (by intro w' hSw; obtain ⟨a1, a2, a3, a4, a5, a6⟩ := unhide HR1 w' hSw; go_simp; first | done | rfl)⟩) (unhide HS0) ?_
                        go_simp
                        refine wpAnyH_take (i := 4) (oi := _) (v := .int .i64 (i : Int)) rfl (by kernel_rfl) (by kernel_rfl) (by kernel_rfl) (fun _ _ _ h => h) (Or.inl ⟨by rfl, (by intro w' hSw; go_simp; first | done | rfl)⟩) (unhide HS0) ?_
                        go_simp
                        refine wpAnyH_take (i := 5) (oi := _) (v := .pointer (some ⟨ra, ro + i, none⟩)) rfl (by kernel_rfl) (by kernel_rfl) (by kernel_rfl) (fun _ _ _ h => h) (Or.inl ⟨by rfl, (by intro w' hSw; go_simp; first | done | rfl)⟩) (unhide HS0) ?_
                        go_simp
                        refine wpAnyH_take (i := 6) (oi := _) (v := .slice (some ⟨g, go, none⟩) 512 gc) rfl (by kernel_rfl) (by kernel_rfl) (by kernel_rfl) (fun _ _ _ h => h) (Or.inl ⟨by rfl, (by intro w' hSw; obtain ⟨a1, a2, a3, a4, a5, a6⟩ := unhide HR1 w' hSw; go_simp; first | done | rfl)⟩) (unhide HS0) ?_
                        go_simp
                        refine wpAnyH_take (i := 7) (oi := _) (v := .int .i64 (r : Int)) rfl (by kernel_rfl) (by kernel_rfl) (by kernel_rfl) (fun _ _ _ h => h) (Or.inl ⟨by rfl, (by intro w' hSw; go_simp; first | done | rfl)⟩) (unhide HS0) ?_
                        go_simp
                        refine wpAnyH_take (i := 8) (oi := _) (v := .pointer (some ⟨g, go + r, none⟩)) rfl (by kernel_rfl) (by kernel_rfl) (by kernel_rfl) (fun _ _ _ h => h) (Or.inl ⟨by rfl, (by intro w' hSw; go_simp; first | done | rfl)⟩) (unhide HS0) ?_
                        go_simp
                        refine wpAnyH_take (i := 9) (oi := _) (v := .bool false) rfl (by kernel_rfl) (by kernel_rfl) (by kernel_rfl) (fun _ _ _ h => h) (Or.inl ⟨by rfl, (by intro w' hSw; obtain ⟨a1, a2, a3, a4, a5, a6⟩ := unhide HR1 w' hSw; go_simp; first | done | rfl)⟩) (unhide HS0) ?_
                        go_simp
                        refine wpAnyH_take (i := 10) (oi := _) (v := .bool true) rfl (by kernel_rfl) (by kernel_rfl) (by kernel_rfl) (fun _ _ _ h => h) (Or.inl ⟨by rfl, (by intro w' hSw; go_simp; first | done | rfl)⟩) (unhide HS0) ?_
                        go_simp
                        refine wpAnyH_take (i := 11) (oi := _) (v := .bool true) rfl (by kernel_rfl) (by kernel_rfl) (by kernel_rfl) (fun _ _ _ h => h) (Or.inl ⟨by rfl, (by intro w' hSw; go_simp; first | done | rfl)⟩) (unhide HS0) ?_
                        go_simp
                        refine wpAnyH_take (i := 12) (oi := _) (v := .pointer (some ⟨w.heap.size, 2, none⟩)) rfl (by kernel_rfl) (by kernel_rfl) (by kernel_rfl) (fun _ _ _ h => h) (Or.inl ⟨by rfl, (by intro w' hSw; go_simp; first | done | rfl)⟩) (unhide HS0) ?_
                        go_simp
                        refine wpAnyH_take (i := 13) (oi := _) (v := .slice (some ⟨vb, vo, none⟩) N vc) rfl (by kernel_rfl) (by kernel_rfl) (by kernel_rfl) (fun _ _ _ h => h) (Or.inl ⟨by rfl, (by intro w' hSw; obtain ⟨q1, q2, q3, q4, q5, q6, q7, q8, q9, q10, q11, q12, q13, q14⟩ := unhide HR2 w' hSw; go_simp; first | done | rfl)⟩) (unhide HS0) ?_
                        go_simp
                        refine wpAnyH_take (i := 14) (oi := _) (v := .int .i64 (b : Int)) rfl (by kernel_rfl) (by kernel_rfl) (by kernel_rfl) (fun _ _ _ h => h) (Or.inl ⟨by rfl, (by intro w' hSw; go_simp; first | done | rfl)⟩) (unhide HS0) ?_
                        go_simp
                        refine wpAnyH_take (i := 15) (oi := _) (v := .pointer (some ⟨vb, vo + b * 3, none⟩)) rfl (by kernel_rfl) (by kernel_rfl) (by kernel_rfl) (fun _ _ _ h => h) (Or.inl ⟨by rfl, (by intro w' hSw; go_simp; first | done | rfl)⟩) (unhide HS0) ?_
                        go_simp
                        refine wpAnyH_take (i := 16) (oi := _) (v := .pointer (some ⟨vb, vo + b * 3 + 1, none⟩)) rfl (by kernel_rfl) (by kernel_rfl) (by kernel_rfl) (fun _ _ _ h => h) (Or.inl ⟨by rfl, (by intro w' hSw; go_simp; first | done | rfl)⟩) (unhide HS0) ?_
                        go_simp
                        refine wpAnyH_take (i := 17) (oi := _) (v := .slice (some ⟨ib, io, none⟩) n ic) rfl (by kernel_rfl) (by kernel_rfl) (by kernel_rfl) (fun _ _ _ h => h) (Or.inl ⟨by rfl, (by intro w' hSw; obtain ⟨q1, q2, q3, q4, q5, q6, q7, q8, q9, q10, q11, q12, q13, q14⟩ := unhide HR2 w' hSw; go_simp; first | done | rfl)⟩) (unhide HS0) ?_
                        go_simp
                        refine wpAnyH_take (i := 18) (oi := _) (v := .int .i64 (i : Int)) rfl (by kernel_rfl) (by kernel_rfl) (by kernel_rfl) (fun _ _ _ h => h) (Or.inl ⟨by rfl, (by intro w' hSw; go_simp; first | done | rfl)⟩) (unhide HS0) ?_
                        go_simp
                        refine wpAnyH_take (i := 19) (oi := _) (v := .pointer (some ⟨ib, io + i * 8, none⟩)) rfl (by kernel_rfl) (by kernel_rfl) (by kernel_rfl) (fun _ _ _ h => h) (Or.inl ⟨by rfl, (by intro w' hSw; go_simp; first | done | rfl)⟩) (unhide HS0) ?_
                        go_simp
                        refine wpAnyH_take (i := 20) (oi := _) (v := .agg #[.int .i64 x.op, .int .i64 x.code, .int .i64 x.dst, .slice aa AL ac, .int .i64 x.n, .int .i64 x.pc, .int .i64 x.need, .slice ea EL ec]) rfl (by kernel_rfl) (by kernel_rfl) (by kernel_rfl) (fun _ _ _ h => h) (Or.inl ⟨by rfl, (by intro w' hSw; obtain ⟨q1, q2, q3, q4, q5, q6, q7, q8, q9, q10, q11, q12, q13, q14⟩ := unhide HR2 w' hSw; go_simp; first | done | rfl)⟩) (unhide HS0) ?_
                        go_simp
                        refine wpAnyH_take (i := 21) (oi := _) (v := .slice (some ⟨tb, tof, none⟩) N tc) rfl (by kernel_rfl) (by kernel_rfl) (by kernel_rfl) (fun _ _ _ h => h) (Or.inl ⟨by rfl, (by intro w' hSw; go_simp; first | done | rfl)⟩) (unhide HS0) ?_
                        go_simp
                        refine wpAnyH_take (i := 22) (oi := _) (v := .int .i64 (b : Int)) rfl (by kernel_rfl) (by kernel_rfl) (by kernel_rfl) (fun _ _ _ h => h) (Or.inl ⟨by rfl, (by intro w' hSw; go_simp; first | done | rfl)⟩) (unhide HS0) ?_
                        go_simp
                        refine wpAnyH_take (i := 23) (oi := _) (v := .pointer (some ⟨tb, tof + b, none⟩)) rfl (by kernel_rfl) (by kernel_rfl) (by kernel_rfl) (fun _ _ _ h => h) (Or.inl ⟨by rfl, (by intro w' hSw; go_simp; first | done | rfl)⟩) (unhide HS0) ?_
                        go_simp
                        refine wpAnyH_take (i := 24) (oi := _) (v := .slice (some ⟨ra, ro, none⟩) (n + 1) rc) rfl (by kernel_rfl) (by kernel_rfl) (by kernel_rfl) (fun _ _ _ h => h) (Or.inl ⟨by rfl, (by intro w' hSw; obtain ⟨a1, a2, a3, a4, a5, a6⟩ := unhide HR1 w' hSw; go_simp; first | done | rfl)⟩) (unhide HS0) ?_
                        go_simp
                        refine wpAnyH_take (i := 25) (oi := _) (v := .int .i64 (i : Int)) rfl (by kernel_rfl) (by kernel_rfl) (by kernel_rfl) (fun _ _ _ h => h) (Or.inl ⟨by rfl, (by intro w' hSw; go_simp; first | done | rfl)⟩) (unhide HS0) ?_
                        go_simp
                        refine wpAnyH_take (i := 26) (oi := _) (v := .int .i64 (i1 : Int)) rfl (by kernel_rfl) (by kernel_rfl) (by kernel_rfl) (fun _ _ _ h => h) (Or.inl ⟨by rfl, (by intro w' hSw; go_simp; first | done | rfl)⟩) (unhide HS0) ?_
                        go_simp
                        refine wpAnyH_take (i := 27) (oi := _) (v := .pointer (some ⟨ra, ro + i1, none⟩)) rfl (by kernel_rfl) (by kernel_rfl) (by kernel_rfl) (fun _ _ _ h => h) (Or.inl ⟨by rfl, (by intro w' hSw; go_simp; first | done | rfl)⟩) (unhide HS0) ?_
                        go_simp
                        refine wpAnyH_take (i := 28) (oi := _) (v := .slice (some ⟨g1, go1, none⟩) 512 gc1) rfl (by kernel_rfl) (by kernel_rfl) (by kernel_rfl) (fun _ _ _ h => h) (Or.inl ⟨by rfl, (by intro w' hSw; obtain ⟨z1, z2⟩ := unhide HR3 w' hSw; go_simp; first | done | rfl)⟩) (unhide HS0) ?_
                        go_simp
                        refine wpAnyH_take (i := 29) (oi := _) (v := .int .i64 (r : Int)) rfl (by kernel_rfl) (by kernel_rfl) (by kernel_rfl) (fun _ _ _ h => h) (Or.inl ⟨by rfl, (by intro w' hSw; go_simp; first | done | rfl)⟩) (unhide HS0) ?_
                        go_simp
                        refine wpAnyH_ready (rs := [30]) (by kernel_rfl) (by simp) ?_
                        refine AllReadyH.cons (o := _) rfl (fun K hK => ?_) AllReadyH.nil
                        go_simp
                        refine (unhide HRU _ (unhide HS0)).mono ?_
                        rintro e Y ⟨rfl, hY⟩
                        have HY : Hid (Below wr.heap.size wr Y) := (unhide HS0).trans hY
                        refine hK.out _ _ (unhide HY) (fun hHeld => ?_)
                        clear hHeld hK K hY
                        refine wpAnyH_take (i := 31) (oi := _) (v := .bool true) rfl (by kernel_rfl) (by kernel_rfl) (by kernel_rfl) (fun _ _ _ h => h) (Or.inl ⟨by rfl, (by intro w' hSw; go_simp; first | done | rfl)⟩) (unhide HY) ?_
                        go_simp
                        refine wpAnyH_done (by kernel_rfl) ?_ _
                        obtain ⟨us2, M2, hus2, hM2, _, hul2⟩ := (unhide hI).1.shp.at (unhide HU) (i := i) (by rw [unhide hnn]; omega)
                        rw [unhide HUS] at hus2
                        cases hus2
                        rw [unhide HUM] at hM2
                        cases hM2
                        rw [unhide hnn] at hul2
                        obtain ⟨tb4, tof4, tc4, ra4, ro4, rc4, g4, go4, gc4, e5, l1, l2, l3, l4, l5, l6, l7, l8⟩ := (TM.on (unhide hMem).2 (unhide HY)).read (unhide HUS) (unhide HUM)
                        rw [(unhide hI).1.shp.len, unhide hNN] at e5
                        cases e5
                        rw [hul2] at l2
                        obtain ⟨g5, go5, gc5, e6, _, l9⟩ := l6.read
                        cases e6
                        obtain ⟨l10, l11⟩ := l9 r r5
                        have HI2 : Hid (FI bl uss0 true (uss.set b (us.set i (pbit M r true))) ∧ (true = false → DB bl uss0 N j) ∧ (true = false → DK uss0 rl u b k) ∧ (true = false → DI uss0 u b r n (m + 1))) := ⟨unhide HFI2, (fun e => by cases e), (fun e => by cases e), (fun e => by cases e)⟩
                        have HM2 : Hid (Fr Z X2 (Y.setCell ⟨g4, go4 + r, none⟩ (.bool true)) ∧ TM Z (Y.setCell ⟨g4, go4 + r, none⟩ (.bool true)) (.slice (some ⟨tb, tof, none⟩) N tc) (uss.set b (us.set i (pbit M r true))) ts) := ⟨((unhide hMem).1.trans (Fr.of_below (unhide HY))).trans (Fr.setCell (S := Z) (Fr.refl _ Y) ⟨g4, go4 + r, none⟩ (.inr l7) _), l8 r r5⟩
                        clear HR1 HR2 HR3 HS0 HRU l6 l7 l8 l9 hul2 hI hMem HFI2
                        go_wp2_with fail
                        go_roundg (gk - 1)
                        case measure => have := unhide hm; omega
                        case rel => exact ⟨m + 1, true, _, by have := unhide hm; unfold Hid; omega, by rw [show (i : Int) - 1 = (n : Int) - 1 - ((m + 1 : Nat) : Int) by omega], rfl, HI2, HM2⟩

                      | false =>
                        rw [hru] at HRU
                        have HI2 : Hid (FI bl uss0 ag uss ∧ (ag = false → DB bl uss0 N j) ∧ (ag = false → DK uss0 rl u b k) ∧ (ag = false → DI uss0 u b r n (m + 1))) := ⟨(unhide hI).1, (unhide hI).2.1, (unhide hI).2.2.1, fun e => ⟨((unhide hI).2.2.2 e).1, fun i2 x2 hi2 hx2 hq => by
                          by_cases e2 : i2 = i
                          · subst e2
                            rw [unhide HX] at hx2
                            cases hx2
                            rw [← (unhide hI).1.no e, unhide HTB1, hru] at hq
                            cases hq
                          · exact ((unhide hI).2.2.2 e).2 i2 x2 (by omega) hx2 hq⟩⟩
                        clear hMr hru
                        go_wp2_with fail
                        refine wp_region_held_drew (S := fun V => Below wr.heap.size wr V) (by kernel_rfl) (unhide HS0) (fun hHeld => ?_)
                        clear hHeld
                        refine wpAnyH_take (i := 0) (oi := _) (v := .slice (some ⟨tb, tof, none⟩) N tc) rfl (by kernel_rfl) (by kernel_rfl) (by kernel_rfl) (fun _ _ _ h => h) (Or.inl ⟨by rfl, (by intro w' hSw; go_simp; first | done | rfl)⟩) (unhide HS0) ?_
                        go_simp
                        refine wpAnyH_take (i := 1) (oi := _) (v := .int .i64 (b : Int)) rfl (by kernel_rfl) (by kernel_rfl) (by kernel_rfl) (fun _ _ _ h => h) (Or.inl ⟨by rfl, (by intro w' hSw; go_simp; first | done | rfl)⟩) (unhide HS0) ?_
                        go_simp
                        refine wpAnyH_take (i := 2) (oi := _) (v := .pointer (some ⟨tb, tof + b, none⟩)) rfl (by kernel_rfl) (by kernel_rfl) (by kernel_rfl) (fun _ _ _ h => h) (Or.inl ⟨by rfl, (by intro w' hSw; go_simp; first | done | rfl)⟩) (unhide HS0) ?_
                        go_simp
                        refine wpAnyH_take (i := 3) (oi := _) (v := .slice (some ⟨ra, ro, none⟩) (n + 1) rc) rfl (by kernel_rfl) (by kernel_rfl) (by kernel_rfl) (fun _ _ _ h => h) (Or.inl ⟨by rfl, (by intro w' hSw; obtain ⟨a1, a2, a3, a4, a5, a6⟩ := unhide HR1 w' hSw; go_simp; first | done | rfl)⟩) (unhide HS0) ?_
                        go_simp
                        refine wpAnyH_take (i := 4) (oi := _) (v := .int .i64 (i : Int)) rfl (by kernel_rfl) (by kernel_rfl) (by kernel_rfl) (fun _ _ _ h => h) (Or.inl ⟨by rfl, (by intro w' hSw; go_simp; first | done | rfl)⟩) (unhide HS0) ?_
                        go_simp
                        refine wpAnyH_take (i := 5) (oi := _) (v := .pointer (some ⟨ra, ro + i, none⟩)) rfl (by kernel_rfl) (by kernel_rfl) (by kernel_rfl) (fun _ _ _ h => h) (Or.inl ⟨by rfl, (by intro w' hSw; go_simp; first | done | rfl)⟩) (unhide HS0) ?_
                        go_simp
                        refine wpAnyH_take (i := 6) (oi := _) (v := .slice (some ⟨g, go, none⟩) 512 gc) rfl (by kernel_rfl) (by kernel_rfl) (by kernel_rfl) (fun _ _ _ h => h) (Or.inl ⟨by rfl, (by intro w' hSw; obtain ⟨a1, a2, a3, a4, a5, a6⟩ := unhide HR1 w' hSw; go_simp; first | done | rfl)⟩) (unhide HS0) ?_
                        go_simp
                        refine wpAnyH_take (i := 7) (oi := _) (v := .int .i64 (r : Int)) rfl (by kernel_rfl) (by kernel_rfl) (by kernel_rfl) (fun _ _ _ h => h) (Or.inl ⟨by rfl, (by intro w' hSw; go_simp; first | done | rfl)⟩) (unhide HS0) ?_
                        go_simp
                        refine wpAnyH_take (i := 8) (oi := _) (v := .pointer (some ⟨g, go + r, none⟩)) rfl (by kernel_rfl) (by kernel_rfl) (by kernel_rfl) (fun _ _ _ h => h) (Or.inl ⟨by rfl, (by intro w' hSw; go_simp; first | done | rfl)⟩) (unhide HS0) ?_
                        go_simp
                        refine wpAnyH_take (i := 9) (oi := _) (v := .bool false) rfl (by kernel_rfl) (by kernel_rfl) (by kernel_rfl) (fun _ _ _ h => h) (Or.inl ⟨by rfl, (by intro w' hSw; obtain ⟨a1, a2, a3, a4, a5, a6⟩ := unhide HR1 w' hSw; go_simp; first | done | rfl)⟩) (unhide HS0) ?_
                        go_simp
                        refine wpAnyH_take (i := 10) (oi := _) (v := .bool true) rfl (by kernel_rfl) (by kernel_rfl) (by kernel_rfl) (fun _ _ _ h => h) (Or.inl ⟨by rfl, (by intro w' hSw; go_simp; first | done | rfl)⟩) (unhide HS0) ?_
                        go_simp
                        refine wpAnyH_take (i := 11) (oi := _) (v := .bool true) rfl (by kernel_rfl) (by kernel_rfl) (by kernel_rfl) (fun _ _ _ h => h) (Or.inl ⟨by rfl, (by intro w' hSw; go_simp; first | done | rfl)⟩) (unhide HS0) ?_
                        go_simp
                        refine wpAnyH_take (i := 12) (oi := _) (v := .pointer (some ⟨w.heap.size, 2, none⟩)) rfl (by kernel_rfl) (by kernel_rfl) (by kernel_rfl) (fun _ _ _ h => h) (Or.inl ⟨by rfl, (by intro w' hSw; go_simp; first | done | rfl)⟩) (unhide HS0) ?_
                        go_simp
                        refine wpAnyH_take (i := 13) (oi := _) (v := .slice (some ⟨vb, vo, none⟩) N vc) rfl (by kernel_rfl) (by kernel_rfl) (by kernel_rfl) (fun _ _ _ h => h) (Or.inl ⟨by rfl, (by intro w' hSw; obtain ⟨q1, q2, q3, q4, q5, q6, q7, q8, q9, q10, q11, q12, q13, q14⟩ := unhide HR2 w' hSw; go_simp; first | done | rfl)⟩) (unhide HS0) ?_
                        go_simp
                        refine wpAnyH_take (i := 14) (oi := _) (v := .int .i64 (b : Int)) rfl (by kernel_rfl) (by kernel_rfl) (by kernel_rfl) (fun _ _ _ h => h) (Or.inl ⟨by rfl, (by intro w' hSw; go_simp; first | done | rfl)⟩) (unhide HS0) ?_
                        go_simp
                        refine wpAnyH_take (i := 15) (oi := _) (v := .pointer (some ⟨vb, vo + b * 3, none⟩)) rfl (by kernel_rfl) (by kernel_rfl) (by kernel_rfl) (fun _ _ _ h => h) (Or.inl ⟨by rfl, (by intro w' hSw; go_simp; first | done | rfl)⟩) (unhide HS0) ?_
                        go_simp
                        refine wpAnyH_take (i := 16) (oi := _) (v := .pointer (some ⟨vb, vo + b * 3 + 1, none⟩)) rfl (by kernel_rfl) (by kernel_rfl) (by kernel_rfl) (fun _ _ _ h => h) (Or.inl ⟨by rfl, (by intro w' hSw; go_simp; first | done | rfl)⟩) (unhide HS0) ?_
                        go_simp
                        refine wpAnyH_take (i := 17) (oi := _) (v := .slice (some ⟨ib, io, none⟩) n ic) rfl (by kernel_rfl) (by kernel_rfl) (by kernel_rfl) (fun _ _ _ h => h) (Or.inl ⟨by rfl, (by intro w' hSw; obtain ⟨q1, q2, q3, q4, q5, q6, q7, q8, q9, q10, q11, q12, q13, q14⟩ := unhide HR2 w' hSw; go_simp; first | done | rfl)⟩) (unhide HS0) ?_
                        go_simp
                        refine wpAnyH_take (i := 18) (oi := _) (v := .int .i64 (i : Int)) rfl (by kernel_rfl) (by kernel_rfl) (by kernel_rfl) (fun _ _ _ h => h) (Or.inl ⟨by rfl, (by intro w' hSw; go_simp; first | done | rfl)⟩) (unhide HS0) ?_
                        go_simp
                        refine wpAnyH_take (i := 19) (oi := _) (v := .pointer (some ⟨ib, io + i * 8, none⟩)) rfl (by kernel_rfl) (by kernel_rfl) (by kernel_rfl) (fun _ _ _ h => h) (Or.inl ⟨by rfl, (by intro w' hSw; go_simp; first | done | rfl)⟩) (unhide HS0) ?_
                        go_simp
                        refine wpAnyH_take (i := 20) (oi := _) (v := .agg #[.int .i64 x.op, .int .i64 x.code, .int .i64 x.dst, .slice aa AL ac, .int .i64 x.n, .int .i64 x.pc, .int .i64 x.need, .slice ea EL ec]) rfl (by kernel_rfl) (by kernel_rfl) (by kernel_rfl) (fun _ _ _ h => h) (Or.inl ⟨by rfl, (by intro w' hSw; obtain ⟨q1, q2, q3, q4, q5, q6, q7, q8, q9, q10, q11, q12, q13, q14⟩ := unhide HR2 w' hSw; go_simp; first | done | rfl)⟩) (unhide HS0) ?_
                        go_simp
                        refine wpAnyH_take (i := 21) (oi := _) (v := .slice (some ⟨tb, tof, none⟩) N tc) rfl (by kernel_rfl) (by kernel_rfl) (by kernel_rfl) (fun _ _ _ h => h) (Or.inl ⟨by rfl, (by intro w' hSw; go_simp; first | done | rfl)⟩) (unhide HS0) ?_
                        go_simp
                        refine wpAnyH_take (i := 22) (oi := _) (v := .int .i64 (b : Int)) rfl (by kernel_rfl) (by kernel_rfl) (by kernel_rfl) (fun _ _ _ h => h) (Or.inl ⟨by rfl, (by intro w' hSw; go_simp; first | done | rfl)⟩) (unhide HS0) ?_
                        go_simp
                        refine wpAnyH_take (i := 23) (oi := _) (v := .pointer (some ⟨tb, tof + b, none⟩)) rfl (by kernel_rfl) (by kernel_rfl) (by kernel_rfl) (fun _ _ _ h => h) (Or.inl ⟨by rfl, (by intro w' hSw; go_simp; first | done | rfl)⟩) (unhide HS0) ?_
                        go_simp
                        refine wpAnyH_take (i := 24) (oi := _) (v := .slice (some ⟨ra, ro, none⟩) (n + 1) rc) rfl (by kernel_rfl) (by kernel_rfl) (by kernel_rfl) (fun _ _ _ h => h) (Or.inl ⟨by rfl, (by intro w' hSw; obtain ⟨a1, a2, a3, a4, a5, a6⟩ := unhide HR1 w' hSw; go_simp; first | done | rfl)⟩) (unhide HS0) ?_
                        go_simp
                        refine wpAnyH_take (i := 25) (oi := _) (v := .int .i64 (i : Int)) rfl (by kernel_rfl) (by kernel_rfl) (by kernel_rfl) (fun _ _ _ h => h) (Or.inl ⟨by rfl, (by intro w' hSw; go_simp; first | done | rfl)⟩) (unhide HS0) ?_
                        go_simp
                        refine wpAnyH_take (i := 26) (oi := _) (v := .int .i64 (i1 : Int)) rfl (by kernel_rfl) (by kernel_rfl) (by kernel_rfl) (fun _ _ _ h => h) (Or.inl ⟨by rfl, (by intro w' hSw; go_simp; first | done | rfl)⟩) (unhide HS0) ?_
                        go_simp
                        refine wpAnyH_take (i := 27) (oi := _) (v := .pointer (some ⟨ra, ro + i1, none⟩)) rfl (by kernel_rfl) (by kernel_rfl) (by kernel_rfl) (fun _ _ _ h => h) (Or.inl ⟨by rfl, (by intro w' hSw; go_simp; first | done | rfl)⟩) (unhide HS0) ?_
                        go_simp
                        refine wpAnyH_take (i := 28) (oi := _) (v := .slice (some ⟨g1, go1, none⟩) 512 gc1) rfl (by kernel_rfl) (by kernel_rfl) (by kernel_rfl) (fun _ _ _ h => h) (Or.inl ⟨by rfl, (by intro w' hSw; obtain ⟨z1, z2⟩ := unhide HR3 w' hSw; go_simp; first | done | rfl)⟩) (unhide HS0) ?_
                        go_simp
                        refine wpAnyH_take (i := 29) (oi := _) (v := .int .i64 (r : Int)) rfl (by kernel_rfl) (by kernel_rfl) (by kernel_rfl) (fun _ _ _ h => h) (Or.inl ⟨by rfl, (by intro w' hSw; go_simp; first | done | rfl)⟩) (unhide HS0) ?_
                        go_simp
                        refine wpAnyH_ready (rs := [30]) (by kernel_rfl) (by simp) ?_
                        refine AllReadyH.cons (o := _) rfl (fun K hK => ?_) AllReadyH.nil
                        go_simp
                        refine (unhide HRU _ (unhide HS0)).mono ?_
                        rintro e Y ⟨rfl, hY⟩
                        have HY : Hid (Below wr.heap.size wr Y) := (unhide HS0).trans hY
                        refine hK.out _ _ (unhide HY) (fun hHeld => ?_)
                        clear hHeld hK K hY
                        refine wpAnyH_take (i := 31) (oi := _) (v := .bool false) rfl (by kernel_rfl) (by kernel_rfl) (by kernel_rfl) (fun _ _ _ h => h) (Or.inl ⟨by rfl, (by intro w' hSw; go_simp; first | done | rfl)⟩) (unhide HY) ?_
                        go_simp
                        refine wpAnyH_done (by kernel_rfl) ?_ _
                        have HM2 : Hid (Fr Z X2 Y ∧ TM Z Y (.slice (some ⟨tb, tof, none⟩) N tc) uss ts) := ⟨(unhide hMem).1.trans (Fr.of_below (unhide HY)), TM.on (unhide hMem).2 (unhide HY)⟩
                        clear HR1 HR2 HR3 HS0 HRU hI hMem
                        go_wp2_with fail
                        go_roundg (gk - 1)
                        case measure => have := unhide hm; omega
                        case rel => exact ⟨m + 1, ag, uss, by have := unhide hm; unfold Hid; omega, by rw [show (i : Int) - 1 = (n : Int) - 1 - ((m + 1 : Nat) : Int) by omega], rfl, HI2, HM2⟩

                  · have hmN : m = n := by have := unhide hm; omega
                    have i1 : ¬ (0 : Int) ≤ (n : Int) - 1 - (m : Int) := by omega
                    have HI2 : Hid (FI bl uss0 ag uss ∧ (ag = false → DB bl uss0 N j) ∧ (ag = false → DK uss0 rl u b (k + 1))) := ⟨(unhide hI).1, (unhide hI).2.1, fun e => DK_next (unhide HKR) (unhide hnn) ((unhide hI).2.2.1 e) (by have q := (unhide hI).2.2.2 e; rw [hmN] at q; exact q)⟩
                    clear hmN hI
                    go_wp2_with fail
                    go_roundg (RL - (k + 1))
                    case measure => have := unhide hk; omega
                    case rel => exact ⟨k + 1, ag, uss, by have := unhide hk; unfold Hid; omega, by go_num, rfl, HI2, hMem⟩

              | false =>
                rw [hMr] at y1
                have HNX := hide (next_any (fn := fn) (regs := regs) (unhide HM _ hbel) (unhide hMem).2 (unhide hI).1.shp.len (fun us2 h2 => by
                  obtain ⟨b2, hb2, rfl⟩ := List.getElem_of_mem h2
                  obtain ⟨u2, hu2⟩ : ∃ u2, bl[b2]? = some u2 := ⟨_, List.getElem?_eq_getElem (by rw [← (unhide hI).1.shp.len]; exact hb2)⟩
                  rw [(unhide hI).1.shp.row b2 _ u2 (List.getElem?_eq_getElem hb2) hu2]; omega) (by rw [unhide hNN]; exact hN) (unhide HU) (unhide HOU).2.1 r r5)
                cases hnb : nxB uss u.nx r with
                | true =>
                  rw [hnb] at HNX
                  have HFI2 : Hid (FI bl uss0 true (uss.set b (us.set n (pbit M r true)))) := (unhide hI).1.put (unhide HUS) (unhide HUM) (unhide HU) (unhide HREG) hMr (by have q := snd_next (unhide hI).1.snd (unhide hI).1.shp.len (unhide HU) hnb; rw [unhide hnn] at q; exact q)
                  clear hMr hnb
                  go_wp2_with fail
                  refine (unhide HNX).mono ?_
                  rintro e Y ⟨rfl, hY⟩
                  obtain ⟨us2, M2, hus2, hM2, _, hul2⟩ := (unhide hI).1.shp.at (unhide HU) (i := n) (by rw [unhide hnn]; exact Nat.le_refl _)
                  rw [unhide HUS] at hus2
                  cases hus2
                  rw [unhide HUM] at hM2
                  cases hM2
                  rw [unhide hnn] at hul2
                  obtain ⟨tb4, tof4, tc4, ra4, ro4, rc4, g4, go4, gc4, e5, l1, l2, l3, l4, l5, l6, l7, l8⟩ := (TM.on (unhide hMem).2 hY).read (unhide HUS) (unhide HUM)
                  rw [(unhide hI).1.shp.len, unhide hNN] at e5
                  cases e5
                  rw [hul2] at l2
                  obtain ⟨g5, go5, gc5, e6, _, l9⟩ := l6.read
                  cases e6
                  obtain ⟨l10, l11⟩ := l9 r r5
                  have HI3 : Hid (FI bl uss0 true (uss.set b (us.set n (pbit M r true))) ∧ (true = false → DB bl uss0 N j) ∧ (true = false → DK uss0 rl u b k) ∧ (true = false → DI uss0 u b r n 0)) := ⟨unhide HFI2, (fun e => by cases e), (fun e => by cases e), (fun e => by cases e)⟩
                  have HM3 : Hid (Fr Z X2 (Y.setCell ⟨g4, go4 + r, none⟩ (.bool true)) ∧ TM Z (Y.setCell ⟨g4, go4 + r, none⟩ (.bool true)) (.slice (some ⟨tb, tof, none⟩) N tc) (uss.set b (us.set n (pbit M r true))) ts) := ⟨((unhide hMem).1.trans (Fr.of_below hY)).trans (Fr.setCell (S := Z) (Fr.refl _ Y) ⟨g4, go4 + r, none⟩ (.inr l7) _), l8 r r5⟩
                  clear l6 l7 l8 l9 hul2 hI hMem HFI2 HX8 HUS HUM HTB HZG HNX c0 c1 c2 cl rc0 hrb x1 x2 x3 x4 x5 y1 y2 hbel hY
                  go_wp2_with fail
                  clear l1 l2 l3 l4 l5 l10 l11
                  go_loopg [10, 5] n (fun gg t10 t5 wr => ∃ (m : Nat) (ag : Bool) (uss : List (List Rset)), Hid (m + gg = n) ∧ t10 = .int .i64 ((n : Int) - 1 - (m : Int)) ∧ t5 = .bool ag ∧ Hid (FI bl uss0 ag uss ∧ (ag = false → DB bl uss0 N j) ∧ (ag = false → DK uss0 rl u b k) ∧ (ag = false → DI uss0 u b r n m)) ∧ Hid (Fr Z X2 wr ∧ TM Z wr (.slice (some ⟨tb, tof, none⟩) N tc) uss ts))
                  case atStart => exact ⟨0, true, _, by unfold Hid; omega, by simp, rfl, HI3, HM3⟩
                  case round =>
                    clear HI3 HM3
                    obtain ⟨m, ag, uss, hm, rfl, rfl, hI, hMem⟩ := hrel
                    by_cases hmn : m < n
                    · obtain ⟨i, hi⟩ : ∃ i : Nat, Hid (n - 1 - m = i) := ⟨_, hide rfl⟩
                      have hi' := unhide hi
                      have ei : (n : Int) - 1 - (m : Int) = (i : Int) := by omega
                      rw [ei]
                      have i0 : (0 : Int) ≤ (i : Int) := by omega
                      have i1n : (i : Int) < (n : Int) := by omega
                      have i2n : (i : Int) < (n : Int) + 1 := by omega
                      obtain ⟨x, hx⟩ : ∃ x, u.ins[i]? = some x := ⟨_, List.getElem?_eq_getElem (by rw [unhide hnn]; omega)⟩
                      obtain ⟨us, M, hus, hM, hTM, hul⟩ := (unhide hI).1.shp.at (unhide HU) (i := i) (by rw [unhide hnn]; omega)
                      rw [unhide hnn] at hul
                      obtain ⟨tb2, tof2, tc2, ra, ro, rc, g, go, gc, e1, x1, x2, x3, x4, x5, x6, x7, x8⟩ := (unhide hMem).2.read hus hM
                      rw [(unhide hI).1.shp.len, unhide hNN] at e1
                      cases e1
                      rw [hul] at x2
                      obtain ⟨g', go', gc', e2, _, x9⟩ := x6.read
                      cases e2
                      obtain ⟨y1, y2⟩ := x9 r r5
                      obtain ⟨i1, hi1⟩ : ∃ z : Nat, Hid (i + 1 = z) := ⟨_, hide rfl⟩
                      have ei1 : (i : Int) + 1 = (i1 : Int) := by have := unhide hi1; omega
                      have wi2 : IntKind.i64.wrap ((i : Int) - 1) = (i : Int) - 1 := by go_arith
                      have i10 : (0 : Int) ≤ (i1 : Int) := by omega
                      have i11 : (i1 : Int) < (n : Int) + 1 := by omega
                      have wi1 : IntKind.i64.wrap (i1 : Int) = (i1 : Int) := by go_arith
                      obtain ⟨us1, M1, hus1, hM1, hTM1, _⟩ := (unhide hI).1.shp.at (unhide HU) (i := i1) (by rw [unhide hnn]; have := unhide hi1; omega)
                      rw [hus] at hus1
                      cases hus1
                      obtain ⟨tb3, tof3, tc3, ra1, ro1, rc1, g1, go1, gc1, e3, _, v2, _, v4, v5, v6, _, _⟩ := (unhide hMem).2.read hus hM1
                      rw [(unhide hI).1.shp.len, unhide hNN] at e3
                      cases e3
                      rw [hul, x2] at v2
                      cases v2
                      have hsup1 : Sup M1 := by have q := snd_sup (unhide hI).1.snd b i1; rwa [hTM1] at q
                      obtain ⟨ib, io, aa, ac, ea, ec, e4, hib, hP, ha1, ha2, he1, he2, hcx⟩ := InsV.at8 (unhide HIN) hx
                      subst e4
                      have HFF : Hid (∀ V, Below wr.heap.size wr V → Below w.heap.size w V) := fun V hV => (unhide HFM _ (unhide hMem).1).1.trans (hV.mono (unhide HFM _ (unhide hMem).1).1.size)
                      have HR1 : Hid (∀ V, Below wr.heap.size wr V → tb < V.heap.size ∧ V.cell? ⟨tb, tof + b, none⟩ = some (.slice (some ⟨ra, ro, none⟩) (n + 1) rc) ∧ ra < V.heap.size ∧ V.cell? ⟨ra, ro + i, none⟩ = some (.slice (some ⟨g, go, none⟩) 512 gc) ∧ g < V.heap.size ∧ V.cell? ⟨g, go + r, none⟩ = some (.bool (M r))) := fun V hV => ⟨Nat.lt_of_lt_of_le x1 hV.size, (hV.cell (p := ⟨tb, tof + b, none⟩) x1).trans x2, Nat.lt_of_lt_of_le x3 hV.size, (hV.cell (p := ⟨ra, ro + i, none⟩) x3).trans x4, Nat.lt_of_lt_of_le x5 hV.size, (hV.cell (p := ⟨g, go + r, none⟩) x5).trans y1⟩
                      have HR2 : Hid (∀ V, Below wr.heap.size wr V → w.heap.size < V.heap.size ∧ V.cell? ⟨w.heap.size, 2, none⟩ = some (.slice (some ⟨vb, vo, none⟩) N vc) ∧ vb < V.heap.size ∧ V.cell? ⟨vb, vo + b * 3 + 1, none⟩ = some (.slice (some ⟨ib, io, none⟩) n ic) ∧ ib < V.heap.size ∧ V.cell? ⟨ib, io + i * 8, none⟩ = some (.int .i64 x.op) ∧ V.cell? ⟨ib, io + i * 8 + 1, none⟩ = some (.int .i64 x.code) ∧ V.cell? ⟨ib, io + i * 8 + 2, none⟩ = some (.int .i64 x.dst) ∧ V.cell? ⟨ib, io + i * 8 + 3, none⟩ = some (.slice aa x.args.length ac) ∧ V.cell? ⟨ib, io + i * 8 + 4, none⟩ = some (.int .i64 x.n) ∧ V.cell? ⟨ib, io + i * 8 + 5, none⟩ = some (.int .i64 x.pc) ∧ V.cell? ⟨ib, io + i * 8 + 6, none⟩ = some (.int .i64 x.need) ∧ V.cell? ⟨ib, io + i * 8 + 7, none⟩ = some (.slice ea x.ex.length ec) ∧ True) := fun V hV => by
                        obtain ⟨_, f2, _, _, f5, _⟩ := unhide HFM _ (unhide hMem).1
                        obtain ⟨h1, _, h3, _⟩ := unhide HCC V (unhide HFF V hV)
                        obtain ⟨k0, k1, k2, k3, k4, k5, k6, k7, k8⟩ := hcx V (unhide HFF V hV)
                        exact ⟨Nat.lt_of_lt_of_le f2 hV.size, (hV.cell (p := ⟨w.heap.size, 2, none⟩) f2).trans f5, h1, h3, k0, k1, k2, k3, k4, k5, k6, k7, k8, trivial⟩
                      have HR3 : Hid (∀ V, Below wr.heap.size wr V → ra < V.heap.size ∧ V.cell? ⟨ra, ro + i1, none⟩ = some (.slice (some ⟨g1, go1, none⟩) 512 gc1)) := fun V hV => ⟨Nat.lt_of_lt_of_le x3 hV.size, (hV.cell (p := ⟨ra, ro + i1, none⟩) x3).trans v4⟩
                      have HRU := hide (fun V (hV : Below wr.heap.size wr V) => rule_any (InP.mv D0 D0 (fun _ => False) w V x _ hP (Fr.of_below (unhide HFF V hV)) (fun k hk d => ⟨fun e => e, d⟩)) (Ro.fr v6 (Fr.of_below (S := fun _ => False) hV) (fun _ _ e => e)) hsup1 r ((unhide HOU).2.2 x (List.mem_of_getElem? hx)).1 ((unhide HOU).2.2 x (List.mem_of_getElem? hx)).2.1 ((unhide HOU).2.2 x (List.mem_of_getElem? hx)).2.2)
                      have HX := hide hx
                      have HUS := hide hus
                      have HUM := hide hM
                      have HTB := hide hTM
                      have HTB1 : Hid (tab uss b (i + 1) = M1) := by rw [unhide hi1]; exact hTM1
                      have HX8 := hide (x8 r r5)
                      have HZG := hide x7
                      have HS0 : Hid (Below wr.heap.size wr wr.drew) := bl_drew wr
                      obtain ⟨AL, hAL⟩ : ∃ z, Hid (x.args.length = z) := ⟨_, hide rfl⟩
                      obtain ⟨EL, hEL⟩ : ∃ z, Hid (x.ex.length = z) := ⟨_, hide rfl⟩
                      rw [unhide hAL, unhide hEL] at HR2 HRU
                      clear hx hus hM hTM hM1 hTM1 hul x1 x2 x3 x4 x5 x6 x7 x8 x9 y1 y2 v4 v5 v6 hcx hP hsup1
                      cases hMr : M r with
                      | true =>
                        rw [hMr] at HR1
                        have HI2 : Hid (FI bl uss0 ag uss ∧ (ag = false → DB bl uss0 N j) ∧ (ag = false → DK uss0 rl u b k) ∧ (ag = false → DI uss0 u b r n (m + 1))) := ⟨(unhide hI).1, (unhide hI).2.1, (unhide hI).2.2.1, fun e => ⟨((unhide hI).2.2.2 e).1, fun i2 x2 hi2 hx2 hq => by
                          by_cases e2 : i2 = i
                          · subst e2
                            rw [← (unhide hI).1.no e, unhide HTB]; exact hMr
                          · exact ((unhide hI).2.2.2 e).2 i2 x2 (by omega) hx2 hq⟩⟩
                        have HM2 : Hid (Fr Z X2 wr.drew ∧ TM Z wr.drew (.slice (some ⟨tb, tof, none⟩) N tc) uss ts) := ⟨(unhide hMem).1.trans (Fr.of_below (bl_drew wr)), TM.on (unhide hMem).2 (bl_drew wr)⟩
                        clear hMr hI hMem HRU HUS HUM HTB HTB1 HX8
                        go_wp2_with fail
                        refine wp_region_held_drew (S := fun V => Below wr.heap.size wr V) (by kernel_rfl) (unhide HS0) (fun hHeld => ?_)
                        clear hHeld
                        refine wpAnyH_take (i := 0) (oi := _) (v := .slice (some ⟨tb, tof, none⟩) N tc) rfl (by kernel_rfl) (by kernel_rfl) (by kernel_rfl) (fun _ _ _ h => h) (Or.inl ⟨by rfl, (by intro w' hSw; go_simp; first | done | rfl)⟩) (unhide HS0) ?_
                        go_simp
                        refine wpAnyH_take (i := 1) (oi := _) (v := .int .i64 (b : Int)) rfl (by kernel_rfl) (by kernel_rfl) (by kernel_rfl) (fun _ _ _ h => h) (Or.inl ⟨by rfl, (by intro w' hSw; go_simp; first | done | rfl)⟩) (unhide HS0) ?_
                        go_simp
                        refine wpAnyH_take (i := 2) (oi := _) (v := .pointer (some ⟨tb, tof + b, none⟩)) rfl (by kernel_rfl) (by kernel_rfl) (by kernel_rfl) (fun _ _ _ h => h) (Or.inl ⟨by rfl, (by intro w' hSw; go_simp; first | done | rfl)⟩) (unhide HS0) ?_
                        go_simp
                        refine wpAnyH_take (i := 3) (oi := _) (v := .slice (some ⟨ra, ro, none⟩) (n + 1) rc) rfl (by kernel_rfl) (by kernel_rfl) (by kernel_rfl) (fun _ _ _ h => h) (Or.inl ⟨by rfl, (by intro w' hSw; obtain ⟨a1, a2, a3, a4, a5, a6⟩ := unhide HR1 w' hSw; go_simp; first | done | rfl)⟩) (unhide HS0) ?_
                        go_simp
                        refine wpAnyH_take (i := 4) (oi := _) (v := .int .i64 (i : Int)) rfl (by kernel_rfl) (by kernel_rfl) (by kernel_rfl) (fun _ _ _ h => h) (Or.inl ⟨by rfl, (by intro w' hSw; go_simp; first | done | rfl)⟩) (unhide HS0) ?_
                        go_simp
                        refine wpAnyH_take (i := 5) (oi := _) (v := .pointer (some ⟨ra, ro + i, none⟩)) rfl (by kernel_rfl) (by kernel_rfl) (by kernel_rfl) (fun _ _ _ h => h) (Or.inl ⟨by rfl, (by intro w' hSw; go_simp; first | done | rfl)⟩) (unhide HS0) ?_
                        go_simp
                        refine wpAnyH_take (i := 6) (oi := _) (v := .slice (some ⟨g, go, none⟩) 512 gc) rfl (by kernel_rfl) (by kernel_rfl) (by kernel_rfl) (fun _ _ _ h => h) (Or.inl ⟨by rfl, (by intro w' hSw; obtain ⟨a1, a2, a3, a4, a5, a6⟩ := unhide HR1 w' hSw; go_simp; first | done | rfl)⟩) (unhide HS0) ?_
                        go_simp
                        refine wpAnyH_take (i := 7) (oi := _) (v := .int .i64 (r : Int)) rfl (by kernel_rfl) (by kernel_rfl) (by kernel_rfl) (fun _ _ _ h => h) (Or.inl ⟨by rfl, (by intro w' hSw; go_simp; first | done | rfl)⟩) (unhide HS0) ?_
                        go_simp
                        refine wpAnyH_take (i := 8) (oi := _) (v := .pointer (some ⟨g, go + r, none⟩)) rfl (by kernel_rfl) (by kernel_rfl) (by kernel_rfl) (fun _ _ _ h => h) (Or.inl ⟨by rfl, (by intro w' hSw; go_simp; first | done | rfl)⟩) (unhide HS0) ?_
                        go_simp
                        refine wpAnyH_take (i := 9) (oi := _) (v := .bool true) rfl (by kernel_rfl) (by kernel_rfl) (by kernel_rfl) (fun _ _ _ h => h) (Or.inl ⟨by rfl, (by intro w' hSw; obtain ⟨a1, a2, a3, a4, a5, a6⟩ := unhide HR1 w' hSw; go_simp; first | done | rfl)⟩) (unhide HS0) ?_
                        go_simp
                        refine wpAnyH_take (i := 10) (oi := _) (v := .bool false) rfl (by kernel_rfl) (by kernel_rfl) (by kernel_rfl) (fun _ _ _ h => h) (Or.inl ⟨by rfl, (by intro w' hSw; go_simp; first | done | rfl)⟩) (unhide HS0) ?_
                        go_simp
                        refine wpAnyH_take (i := 11) (oi := _) (v := .bool false) rfl (by kernel_rfl) (by kernel_rfl) (by kernel_rfl) (fun _ _ _ h => h) (Or.inl ⟨by rfl, (by intro w' hSw; go_simp; first | done | rfl)⟩) (unhide HS0) ?_
                        go_simp
                        refine wpAnyH_take (i := 12) (oi := _) (v := undef) rfl (by kernel_rfl) (by kernel_rfl) (by kernel_rfl) (fun _ _ _ h => h) (Or.inr ⟨by rfl, rfl⟩) (unhide HS0) ?_
                        go_simp
                        refine wpAnyH_take (i := 13) (oi := _) (v := undef) rfl (by kernel_rfl) (by kernel_rfl) (by kernel_rfl) (fun _ _ _ h => h) (Or.inr ⟨by rfl, rfl⟩) (unhide HS0) ?_
                        go_simp
                        refine wpAnyH_take (i := 14) (oi := _) (v := undef) rfl (by kernel_rfl) (by kernel_rfl) (by kernel_rfl) (fun _ _ _ h => h) (Or.inr ⟨by rfl, rfl⟩) (unhide HS0) ?_
                        go_simp
                        refine wpAnyH_take (i := 15) (oi := _) (v := undef) rfl (by kernel_rfl) (by kernel_rfl) (by kernel_rfl) (fun _ _ _ h => h) (Or.inr ⟨by rfl, rfl⟩) (unhide HS0) ?_
                        go_simp
                        refine wpAnyH_take (i := 16) (oi := _) (v := undef) rfl (by kernel_rfl) (by kernel_rfl) (by kernel_rfl) (fun _ _ _ h => h) (Or.inr ⟨by rfl, rfl⟩) (unhide HS0) ?_
                        go_simp
                        refine wpAnyH_take (i := 17) (oi := _) (v := undef) rfl (by kernel_rfl) (by kernel_rfl) (by kernel_rfl) (fun _ _ _ h => h) (Or.inr ⟨by rfl, rfl⟩) (unhide HS0) ?_
                        go_simp
                        refine wpAnyH_take (i := 18) (oi := _) (v := undef) rfl (by kernel_rfl) (by kernel_rfl) (by kernel_rfl) (fun _ _ _ h => h) (Or.inr ⟨by rfl, rfl⟩) (unhide HS0) ?_
                        go_simp
                        refine wpAnyH_take (i := 19) (oi := _) (v := undef) rfl (by kernel_rfl) (by kernel_rfl) (by kernel_rfl) (fun _ _ _ h => h) (Or.inr ⟨by rfl, rfl⟩) (unhide HS0) ?_
                        go_simp
                        refine wpAnyH_take (i := 20) (oi := _) (v := undef) rfl (by kernel_rfl) (by kernel_rfl) (by kernel_rfl) (fun _ _ _ h => h) (Or.inr ⟨by rfl, rfl⟩) (unhide HS0) ?_
                        go_simp
                        refine wpAnyH_take (i := 21) (oi := _) (v := undef) rfl (by kernel_rfl) (by kernel_rfl) (by kernel_rfl) (fun _ _ _ h => h) (Or.inr ⟨by rfl, rfl⟩) (unhide HS0) ?_
                        go_simp
                        refine wpAnyH_take (i := 22) (oi := _) (v := undef) rfl (by kernel_rfl) (by kernel_rfl) (by kernel_rfl) (fun _ _ _ h => h) (Or.inr ⟨by rfl, rfl⟩) (unhide HS0) ?_
                        go_simp
                        refine wpAnyH_take (i := 23) (oi := _) (v := undef) rfl (by kernel_rfl) (by kernel_rfl) (by kernel_rfl) (fun _ _ _ h => h) (Or.inr ⟨by rfl, rfl⟩) (unhide HS0) ?_
                        go_simp
                        refine wpAnyH_take (i := 24) (oi := _) (v := undef) rfl (by kernel_rfl) (by kernel_rfl) (by kernel_rfl) (fun _ _ _ h => h) (Or.inr ⟨by rfl, rfl⟩) (unhide HS0) ?_
                        go_simp
                        refine wpAnyH_take (i := 25) (oi := _) (v := undef) rfl (by kernel_rfl) (by kernel_rfl) (by kernel_rfl) (fun _ _ _ h => h) (Or.inr ⟨by rfl, rfl⟩) (unhide HS0) ?_
                        go_simp
                        refine wpAnyH_take (i := 26) (oi := _) (v := undef) rfl (by kernel_rfl) (by kernel_rfl) (by kernel_rfl) (fun _ _ _ h => h) (Or.inr ⟨by rfl, rfl⟩) (unhide HS0) ?_
                        go_simp
                        refine wpAnyH_take (i := 27) (oi := _) (v := undef) rfl (by kernel_rfl) (by kernel_rfl) (by kernel_rfl) (fun _ _ _ h => h) (Or.inr ⟨by rfl, rfl⟩) (unhide HS0) ?_
                        go_simp
                        refine wpAnyH_take (i := 28) (oi := _) (v := undef) rfl (by kernel_rfl) (by kernel_rfl) (by kernel_rfl) (fun _ _ _ h => h) (Or.inr ⟨by rfl, rfl⟩) (unhide HS0) ?_
                        go_simp
                        refine wpAnyH_take (i := 29) (oi := _) (v := undef) rfl (by kernel_rfl) (by kernel_rfl) (by kernel_rfl) (fun _ _ _ h => h) (Or.inr ⟨by rfl, rfl⟩) (unhide HS0) ?_
                        go_simp
                        refine wpAnyH_take (i := 30) (oi := _) (v := undef) rfl (by kernel_rfl) (by kernel_rfl) (by kernel_rfl) (fun _ _ _ h => h) (Or.inr ⟨by rfl, rfl⟩) (unhide HS0) ?_
                        go_simp
                        refine wpAnyH_take (i := 31) (oi := _) (v := .bool false) rfl (by kernel_rfl) (by kernel_rfl) (by kernel_rfl) (fun _ _ _ h => h) (Or.inl ⟨by rfl, (by intro w' hSw; go_simp; first | done | rfl)⟩) (unhide HS0) ?_
                        go_simp
                        refine wpAnyH_done (by kernel_rfl) ?_ _
                        clear HR1 HR2 HR3 HS0
                        go_wp2_with fail
                        go_roundg (gk - 1)
                        case measure => have := unhide hm; omega
                        case rel => exact ⟨m + 1, ag, uss, by have := unhide hm; unfold Hid; omega, by rw [show (i : Int) - 1 = (n : Int) - 1 - ((m + 1 : Nat) : Int) by omega], rfl, HI2, HM2⟩

                      | false =>
                        rw [hMr] at HR1
                        cases hru : ruleS M1 x r with
                        | true =>
                          rw [hru] at HRU
                          have HFI2 : Hid (FI bl uss0 true (uss.set b (us.set i (pbit M r true)))) := (unhide hI).1.put (unhide HUS) (unhide HUM) (unhide HU) (unhide HREG) hMr (snd_rule (unhide hI).1.snd (unhide HU) (unhide HX) r5 (by rw [unhide HTB1]; exact hru))
                          clear hMr hru
                          go_wp2_with fail
                          refine wp_region_held_drew (S := fun V => Below wr.heap.size wr V) (by kernel_rfl) (unhide HS0) (fun hHeld => ?_)
                          clear hHeld
                          refine wpAnyH_take (i := 0) (oi := _) (v := .slice (some ⟨tb, tof, none⟩) N tc) rfl (by kernel_rfl) (by kernel_rfl) (by kernel_rfl) (fun _ _ _ h => h) (Or.inl ⟨by rfl, (by intro w' hSw; go_simp; first | done | rfl)⟩) (unhide HS0) ?_
                          go_simp
                          refine wpAnyH_take (i := 1) (oi := _) (v := .int .i64 (b : Int)) rfl (by kernel_rfl) (by kernel_rfl) (by kernel_rfl) (fun _ _ _ h => h) (Or.inl ⟨by rfl, (by intro w' hSw; go_simp; first | done | rfl)⟩) (unhide HS0) ?_
                          go_simp
                          refine wpAnyH_take (i := 2) (oi := _) (v := .pointer (some ⟨tb, tof + b, none⟩)) rfl (by kernel_rfl) (by kernel_rfl) (by kernel_rfl) (fun _ _ _ h => h) (Or.inl ⟨by rfl, (by intro w' hSw; go_simp; first | done | rfl)⟩) (unhide HS0) ?_
                          go_simp
                          refine wpAnyH_take (i := 3) (oi := _) (v := .slice (some ⟨ra, ro, none⟩) (n + 1) rc) rfl (by kernel_rfl) (by kernel_rfl) (by kernel_rfl) (fun _ _ _ h => h) (Or.inl ⟨by rfl, (by intro w' hSw; obtain ⟨a1, a2, a3, a4, a5, a6⟩ := unhide HR1 w' hSw; go_simp; first | done | rfl)⟩) (unhide HS0) ?_
                          go_simp
                          refine wpAnyH_take (i := 4) (oi := _) (v := .int .i64 (i : Int)) rfl (by kernel_rfl) (by kernel_rfl) (by kernel_rfl) (fun _ _ _ h => h) (Or.inl ⟨by rfl, (by intro w' hSw; go_simp; first | done | rfl)⟩) (unhide HS0) ?_
                          go_simp
                          refine wpAnyH_take (i := 5) (oi := _) (v := .pointer (some ⟨ra, ro + i, none⟩)) rfl (by kernel_rfl) (by kernel_rfl) (by kernel_rfl) (fun _ _ _ h => h) (Or.inl ⟨by rfl, (by intro w' hSw; go_simp; first | done | rfl)⟩) (unhide HS0) ?_
                          go_simp
                          refine wpAnyH_take (i := 6) (oi := _) (v := .slice (some ⟨g, go, none⟩) 512 gc) rfl (by kernel_rfl) (by kernel_rfl) (by kernel_rfl) (fun _ _ _ h => h) (Or.inl ⟨by rfl, (by intro w' hSw; obtain ⟨a1, a2, a3, a4, a5, a6⟩ := unhide HR1 w' hSw; go_simp; first | done | rfl)⟩) (unhide HS0) ?_
                          go_simp
                          refine wpAnyH_take (i := 7) (oi := _) (v := .int .i64 (r : Int)) rfl (by kernel_rfl) (by kernel_rfl) (by kernel_rfl) (fun _ _ _ h => h) (Or.inl ⟨by rfl, (by intro w' hSw; go_simp; first | done | rfl)⟩) (unhide HS0) ?_
                          go_simp
                          refine wpAnyH_take (i := 8) (oi := _) (v := .pointer (some ⟨g, go + r, none⟩)) rfl (by kernel_rfl) (by kernel_rfl) (by kernel_rfl) (fun _ _ _ h => h) (Or.inl ⟨by rfl, (by intro w' hSw; go_simp; first | done | rfl)⟩) (unhide HS0) ?_
                          go_simp
                          refine wpAnyH_take (i := 9) (oi := _) (v := .bool false) rfl (by kernel_rfl) (by kernel_rfl) (by kernel_rfl) (fun _ _ _ h => h) (Or.inl ⟨by rfl, (by intro w' hSw; obtain ⟨a1, a2, a3, a4, a5, a6⟩ := unhide HR1 w' hSw; go_simp; first | done | rfl)⟩) (unhide HS0) ?_
                          go_simp
                          refine wpAnyH_take (i := 10) (oi := _) (v := .bool true) rfl (by kernel_rfl) (by kernel_rfl) (by kernel_rfl) (fun _ _ _ h => h) (Or.inl ⟨by rfl, (by intro w' hSw; go_simp; first | done | rfl)⟩) (unhide HS0) ?_
                          go_simp
                          refine wpAnyH_take (i := 11) (oi := _) (v := .bool true) rfl (by kernel_rfl) (by kernel_rfl) (by kernel_rfl) (fun _ _ _ h => h) (Or.inl ⟨by rfl, (by intro w' hSw; go_simp; first | done | rfl)⟩) (unhide HS0) ?_
                          go_simp
                          refine wpAnyH_take (i := 12) (oi := _) (v := .pointer (some ⟨w.heap.size, 2, none⟩)) rfl (by kernel_rfl) (by kernel_rfl) (by kernel_rfl) (fun _ _ _ h => h) (Or.inl ⟨by rfl, (by intro w' hSw; go_simp; first | done | rfl)⟩) (unhide HS0) ?_
                          go_simp
                          refine wpAnyH_take (i := 13) (oi := _) (v := .slice (some ⟨vb, vo, none⟩) N vc) rfl (by kernel_rfl) (by kernel_rfl) (by kernel_rfl) (fun _ _ _ h => h) (Or.inl ⟨by rfl, (by intro w' hSw; obtain ⟨q1, q2, q3, q4, q5, q6, q7, q8, q9, q10, q11, q12, q13, q14⟩ := unhide HR2 w' hSw; go_simp; first | done | rfl)⟩) (unhide HS0) ?_
                          go_simp
                          refine wpAnyH_take (i := 14) (oi := _) (v := .int .i64 (b : Int)) rfl (by kernel_rfl) (by kernel_rfl) (by kernel_rfl) (fun _ _ _ h => h) (Or.inl ⟨by rfl, (by intro w' hSw; go_simp; first | done | rfl)⟩) (unhide HS0) ?_
                          go_simp
                          refine wpAnyH_take (i := 15) (oi := _) (v := .pointer (some ⟨vb, vo + b * 3, none⟩)) rfl (by kernel_rfl) (by kernel_rfl) (by kernel_rfl) (fun _ _ _ h => h) (Or.inl ⟨by rfl, (by intro w' hSw; go_simp; first | done | rfl)⟩) (unhide HS0) ?_
                          go_simp
                          refine wpAnyH_take (i := 16) (oi := _) (v := .pointer (some ⟨vb, vo + b * 3 + 1, none⟩)) rfl (by kernel_rfl) (by kernel_rfl) (by kernel_rfl) (fun _ _ _ h => h) (Or.inl ⟨by rfl, (by intro w' hSw; go_simp; first | done | rfl)⟩) (unhide HS0) ?_
                          go_simp
                          refine wpAnyH_take (i := 17) (oi := _) (v := .slice (some ⟨ib, io, none⟩) n ic) rfl (by kernel_rfl) (by kernel_rfl) (by kernel_rfl) (fun _ _ _ h => h) (Or.inl ⟨by rfl, (by intro w' hSw; obtain ⟨q1, q2, q3, q4, q5, q6, q7, q8, q9, q10, q11, q12, q13, q14⟩ := unhide HR2 w' hSw; go_simp; first | done | rfl)⟩) (unhide HS0) ?_
                          go_simp
                          refine wpAnyH_take (i := 18) (oi := _) (v := .int .i64 (i : Int)) rfl (by kernel_rfl) (by kernel_rfl) (by kernel_rfl) (fun _ _ _ h => h) (Or.inl ⟨by rfl, (by intro w' hSw; go_simp; first | done | rfl)⟩) (unhide HS0) ?_
                          go_simp
                          refine wpAnyH_take (i := 19) (oi := _) (v := .pointer (some ⟨ib, io + i * 8, none⟩)) rfl (by kernel_rfl) (by kernel_rfl) (by kernel_rfl) (fun _ _ _ h => h) (Or.inl ⟨by rfl, (by intro w' hSw; go_simp; first | done | rfl)⟩) (unhide HS0) ?_
                          go_simp
                          refine wpAnyH_take (i := 20) (oi := _) (v := .agg #[.int .i64 x.op, .int .i64 x.code, .int .i64 x.dst, .slice aa AL ac, .int .i64 x.n, .int .i64 x.pc, .int .i64 x.need, .slice ea EL ec]) rfl (by kernel_rfl) (by kernel_rfl) (by kernel_rfl) (fun _ _ _ h => h) (Or.inl ⟨by rfl, (by intro w' hSw; obtain ⟨q1, q2, q3, q4, q5, q6, q7, q8, q9, q10, q11, q12, q13, q14⟩ := unhide HR2 w' hSw; go_simp; first | done | rfl)⟩) (unhide HS0) ?_
                          go_simp
                          refine wpAnyH_take (i := 21) (oi := _) (v := .slice (some ⟨tb, tof, none⟩) N tc) rfl (by kernel_rfl) (by kernel_rfl) (by kernel_rfl) (fun _ _ _ h => h) (Or.inl ⟨by rfl, (by intro w' hSw; go_simp; first | done | rfl)⟩) (unhide HS0) ?_
                          go_simp
                          refine wpAnyH_take (i := 22) (oi := _) (v := .int .i64 (b : Int)) rfl (by kernel_rfl) (by kernel_rfl) (by kernel_rfl) (fun _ _ _ h => h) (Or.inl ⟨by rfl, (by intro w' hSw; go_simp; first | done | rfl)⟩) (unhide HS0) ?_
                          go_simp
                          refine wpAnyH_take (i := 23) (oi := _) (v := .pointer (some ⟨tb, tof + b, none⟩)) rfl (by kernel_rfl) (by kernel_rfl) (by kernel_rfl) (fun _ _ _ h => h) (Or.inl ⟨by rfl, (by intro w' hSw; go_simp; first | done | rfl)⟩) (unhide HS0) ?_
                          go_simp
                          refine wpAnyH_take (i := 24) (oi := _) (v := .slice (some ⟨ra, ro, none⟩) (n + 1) rc) rfl (by kernel_rfl) (by kernel_rfl) (by kernel_rfl) (fun _ _ _ h => h) (Or.inl ⟨by rfl, (by intro w' hSw; obtain ⟨a1, a2, a3, a4, a5, a6⟩ := unhide HR1 w' hSw; go_simp; first | done | rfl)⟩) (unhide HS0) ?_
                          go_simp
                          refine wpAnyH_take (i := 25) (oi := _) (v := .int .i64 (i : Int)) rfl (by kernel_rfl) (by kernel_rfl) (by kernel_rfl) (fun _ _ _ h => h) (Or.inl ⟨by rfl, (by intro w' hSw; go_simp; first | done | rfl)⟩) (unhide HS0) ?_
                          go_simp
                          refine wpAnyH_take (i := 26) (oi := _) (v := .int .i64 (i1 : Int)) rfl (by kernel_rfl) (by kernel_rfl) (by kernel_rfl) (fun _ _ _ h => h) (Or.inl ⟨by rfl, (by intro w' hSw; go_simp; first | done | rfl)⟩) (unhide HS0) ?_
                          go_simp
                          refine wpAnyH_take (i := 27) (oi := _) (v := .pointer (some ⟨ra, ro + i1, none⟩)) rfl (by kernel_rfl) (by kernel_rfl) (by kernel_rfl) (fun _ _ _ h => h) (Or.inl ⟨by rfl, (by intro w' hSw; go_simp; first | done | rfl)⟩) (unhide HS0) ?_
                          go_simp
                          refine wpAnyH_take (i := 28) (oi := _) (v := .slice (some ⟨g1, go1, none⟩) 512 gc1) rfl (by kernel_rfl) (by kernel_rfl) (by kernel_rfl) (fun _ _ _ h => h) (Or.inl ⟨by rfl, (by intro w' hSw; obtain ⟨z1, z2⟩ := unhide HR3 w' hSw; go_simp; first | done | rfl)⟩) (unhide HS0) ?_
                          go_simp
                          refine wpAnyH_take (i := 29) (oi := _) (v := .int .i64 (r : Int)) rfl (by kernel_rfl) (by kernel_rfl) (by kernel_rfl) (fun _ _ _ h => h) (Or.inl ⟨by rfl, (by intro w' hSw; go_simp; first | done | rfl)⟩) (unhide HS0) ?_
                          go_simp
                          refine wpAnyH_ready (rs := [30]) (by kernel_rfl) (by simp) ?_
                          refine AllReadyH.cons (o := _) rfl (fun K hK => ?_) AllReadyH.nil
                          go_simp
                          refine (unhide HRU _ (unhide HS0)).mono ?_
                          rintro e Y ⟨rfl, hY⟩
                          have HY : Hid (Below wr.heap.size wr Y) := (unhide HS0).trans hY
                          refine hK.out _ _ (unhide HY) (fun hHeld => ?_)
                          clear hHeld hK K hY
                          refine wpAnyH_take (i := 31) (oi := _) (v := .bool true) rfl (by kernel_rfl) (by kernel_rfl) (by kernel_rfl) (fun _ _ _ h => h) (Or.inl ⟨by rfl, (by intro w' hSw; go_simp; first | done | rfl)⟩) (unhide HY) ?_
                          go_simp
                          refine wpAnyH_done (by kernel_rfl) ?_ _
                          obtain ⟨us2, M2, hus2, hM2, _, hul2⟩ := (unhide hI).1.shp.at (unhide HU) (i := i) (by rw [unhide hnn]; omega)
                          rw [unhide HUS] at hus2
                          cases hus2
                          rw [unhide HUM] at hM2
                          cases hM2
                          rw [unhide hnn] at hul2
                          obtain ⟨tb4, tof4, tc4, ra4, ro4, rc4, g4, go4, gc4, e5, l1, l2, l3, l4, l5, l6, l7, l8⟩ := (TM.on (unhide hMem).2 (unhide HY)).read (unhide HUS) (unhide HUM)
                          rw [(unhide hI).1.shp.len, unhide hNN] at e5
                          cases e5
                          rw [hul2] at l2
                          obtain ⟨g5, go5, gc5, e6, _, l9⟩ := l6.read
                          cases e6
                          obtain ⟨l10, l11⟩ := l9 r r5
                          have HI2 : Hid (FI bl uss0 true (uss.set b (us.set i (pbit M r true))) ∧ (true = false → DB bl uss0 N j) ∧ (true = false → DK uss0 rl u b k) ∧ (true = false → DI uss0 u b r n (m + 1))) := ⟨unhide HFI2, (fun e => by cases e), (fun e => by cases e), (fun e => by cases e)⟩
                          have HM2 : Hid (Fr Z X2 (Y.setCell ⟨g4, go4 + r, none⟩ (.bool true)) ∧ TM Z (Y.setCell ⟨g4, go4 + r, none⟩ (.bool true)) (.slice (some ⟨tb, tof, none⟩) N tc) (uss.set b (us.set i (pbit M r true))) ts) := ⟨((unhide hMem).1.trans (Fr.of_below (unhide HY))).trans (Fr.setCell (S := Z) (Fr.refl _ Y) ⟨g4, go4 + r, none⟩ (.inr l7) _), l8 r r5⟩
                          clear HR1 HR2 HR3 HS0 HRU l6 l7 l8 l9 hul2 hI hMem HFI2
                          go_wp2_with fail
                          go_roundg (gk - 1)
                          case measure => have := unhide hm; omega
                          case rel => exact ⟨m + 1, true, _, by have := unhide hm; unfold Hid; omega, by rw [show (i : Int) - 1 = (n : Int) - 1 - ((m + 1 : Nat) : Int) by omega], rfl, HI2, HM2⟩

                        | false =>
                          rw [hru] at HRU
                          have HI2 : Hid (FI bl uss0 ag uss ∧ (ag = false → DB bl uss0 N j) ∧ (ag = false → DK uss0 rl u b k) ∧ (ag = false → DI uss0 u b r n (m + 1))) := ⟨(unhide hI).1, (unhide hI).2.1, (unhide hI).2.2.1, fun e => ⟨((unhide hI).2.2.2 e).1, fun i2 x2 hi2 hx2 hq => by
                            by_cases e2 : i2 = i
                            · subst e2
                              rw [unhide HX] at hx2
                              cases hx2
                              rw [← (unhide hI).1.no e, unhide HTB1, hru] at hq
                              cases hq
                            · exact ((unhide hI).2.2.2 e).2 i2 x2 (by omega) hx2 hq⟩⟩
                          clear hMr hru
                          go_wp2_with fail
                          refine wp_region_held_drew (S := fun V => Below wr.heap.size wr V) (by kernel_rfl) (unhide HS0) (fun hHeld => ?_)
                          clear hHeld
                          refine wpAnyH_take (i := 0) (oi := _) (v := .slice (some ⟨tb, tof, none⟩) N tc) rfl (by kernel_rfl) (by kernel_rfl) (by kernel_rfl) (fun _ _ _ h => h) (Or.inl ⟨by rfl, (by intro w' hSw; go_simp; first | done | rfl)⟩) (unhide HS0) ?_
                          go_simp
                          refine wpAnyH_take (i := 1) (oi := _) (v := .int .i64 (b : Int)) rfl (by kernel_rfl) (by kernel_rfl) (by kernel_rfl) (fun _ _ _ h => h) (Or.inl ⟨by rfl, (by intro w' hSw; go_simp; first | done | rfl)⟩) (unhide HS0) ?_
                          go_simp
                          refine wpAnyH_take (i := 2) (oi := _) (v := .pointer (some ⟨tb, tof + b, none⟩)) rfl (by kernel_rfl) (by kernel_rfl) (by kernel_rfl) (fun _ _ _ h => h) (Or.inl ⟨by rfl, (by intro w' hSw; go_simp; first | done | rfl)⟩) (unhide HS0) ?_
                          go_simp
                          refine wpAnyH_take (i := 3) (oi := _) (v := .slice (some ⟨ra, ro, none⟩) (n + 1) rc) rfl (by kernel_rfl) (by kernel_rfl) (by kernel_rfl) (fun _ _ _ h => h) (Or.inl ⟨by rfl, (by intro w' hSw; obtain ⟨a1, a2, a3, a4, a5, a6⟩ := unhide HR1 w' hSw; go_simp; first | done | rfl)⟩) (unhide HS0) ?_
                          go_simp
                          refine wpAnyH_take (i := 4) (oi := _) (v := .int .i64 (i : Int)) rfl (by kernel_rfl) (by kernel_rfl) (by kernel_rfl) (fun _ _ _ h => h) (Or.inl ⟨by rfl, (by intro w' hSw; go_simp; first | done | rfl)⟩) (unhide HS0) ?_
                          go_simp
                          refine wpAnyH_take (i := 5) (oi := _) (v := .pointer (some ⟨ra, ro + i, none⟩)) rfl (by kernel_rfl) (by kernel_rfl) (by kernel_rfl) (fun _ _ _ h => h) (Or.inl ⟨by rfl, (by intro w' hSw; go_simp; first | done | rfl)⟩) (unhide HS0) ?_
                          go_simp
                          refine wpAnyH_take (i := 6) (oi := _) (v := .slice (some ⟨g, go, none⟩) 512 gc) rfl (by kernel_rfl) (by kernel_rfl) (by kernel_rfl) (fun _ _ _ h => h) (Or.inl ⟨by rfl, (by intro w' hSw; obtain ⟨a1, a2, a3, a4, a5, a6⟩ := unhide HR1 w' hSw; go_simp; first | done | rfl)⟩) (unhide HS0) ?_
                          go_simp
                          refine wpAnyH_take (i := 7) (oi := _) (v := .int .i64 (r : Int)) rfl (by kernel_rfl) (by kernel_rfl) (by kernel_rfl) (fun _ _ _ h => h) (Or.inl ⟨by rfl, (by intro w' hSw; go_simp; first | done | rfl)⟩) (unhide HS0) ?_
                          go_simp
                          refine wpAnyH_take (i := 8) (oi := _) (v := .pointer (some ⟨g, go + r, none⟩)) rfl (by kernel_rfl) (by kernel_rfl) (by kernel_rfl) (fun _ _ _ h => h) (Or.inl ⟨by rfl, (by intro w' hSw; go_simp; first | done | rfl)⟩) (unhide HS0) ?_
                          go_simp
                          refine wpAnyH_take (i := 9) (oi := _) (v := .bool false) rfl (by kernel_rfl) (by kernel_rfl) (by kernel_rfl) (fun _ _ _ h => h) (Or.inl ⟨by rfl, (by intro w' hSw; obtain ⟨a1, a2, a3, a4, a5, a6⟩ := unhide HR1 w' hSw; go_simp; first | done | rfl)⟩) (unhide HS0) ?_
                          go_simp
                          refine wpAnyH_take (i := 10) (oi := _) (v := .bool true) rfl (by kernel_rfl) (by kernel_rfl) (by kernel_rfl) (fun _ _ _ h => h) (Or.inl ⟨by rfl, (by intro w' hSw; go_simp; first | done | rfl)⟩) (unhide HS0) ?_
                          go_simp
                          refine wpAnyH_take (i := 11) (oi := _) (v := .bool true) rfl (by kernel_rfl) (by kernel_rfl) (by kernel_rfl) (fun _ _ _ h => h) (Or.inl ⟨by rfl, (by intro w' hSw; go_simp; first | done | rfl)⟩) (unhide HS0) ?_
                          go_simp
                          refine wpAnyH_take (i := 12) (oi := _) (v := .pointer (some ⟨w.heap.size, 2, none⟩)) rfl (by kernel_rfl) (by kernel_rfl) (by kernel_rfl) (fun _ _ _ h => h) (Or.inl ⟨by rfl, (by intro w' hSw; go_simp; first | done | rfl)⟩) (unhide HS0) ?_
                          go_simp
                          refine wpAnyH_take (i := 13) (oi := _) (v := .slice (some ⟨vb, vo, none⟩) N vc) rfl (by kernel_rfl) (by kernel_rfl) (by kernel_rfl) (fun _ _ _ h => h) (Or.inl ⟨by rfl, (by intro w' hSw; obtain ⟨q1, q2, q3, q4, q5, q6, q7, q8, q9, q10, q11, q12, q13, q14⟩ := unhide HR2 w' hSw; go_simp; first | done | rfl)⟩) (unhide HS0) ?_
                          go_simp
                          refine wpAnyH_take (i := 14) (oi := _) (v := .int .i64 (b : Int)) rfl (by kernel_rfl) (by kernel_rfl) (by kernel_rfl) (fun _ _ _ h => h) (Or.inl ⟨by rfl, (by intro w' hSw; go_simp; first | done | rfl)⟩) (unhide HS0) ?_
                          go_simp
                          refine wpAnyH_take (i := 15) (oi := _) (v := .pointer (some ⟨vb, vo + b * 3, none⟩)) rfl (by kernel_rfl) (by kernel_rfl) (by kernel_rfl) (fun _ _ _ h => h) (Or.inl ⟨by rfl, (by intro w' hSw; go_simp; first | done | rfl)⟩) (unhide HS0) ?_
                          go_simp
                          refine wpAnyH_take (i := 16) (oi := _) (v := .pointer (some ⟨vb, vo + b * 3 + 1, none⟩)) rfl (by kernel_rfl) (by kernel_rfl) (by kernel_rfl) (fun _ _ _ h => h) (Or.inl ⟨by rfl, (by intro w' hSw; go_simp; first | done | rfl)⟩) (unhide HS0) ?_
                          go_simp
                          refine wpAnyH_take (i := 17) (oi := _) (v := .slice (some ⟨ib, io, none⟩) n ic) rfl (by kernel_rfl) (by kernel_rfl) (by kernel_rfl) (fun _ _ _ h => h) (Or.inl ⟨by rfl, (by intro w' hSw; obtain ⟨q1, q2, q3, q4, q5, q6, q7, q8, q9, q10, q11, q12, q13, q14⟩ := unhide HR2 w' hSw; go_simp; first | done | rfl)⟩) (unhide HS0) ?_
                          go_simp
                          refine wpAnyH_take (i := 18) (oi := _) (v := .int .i64 (i : Int)) rfl (by kernel_rfl) (by kernel_rfl) (by kernel_rfl) (fun _ _ _ h => h) (Or.inl ⟨by rfl, (by intro w' hSw; go_simp; first | done | rfl)⟩) (unhide HS0) ?_
                          go_simp
                          refine wpAnyH_take (i := 19) (oi := _) (v := .pointer (some ⟨ib, io + i * 8, none⟩)) rfl (by kernel_rfl) (by kernel_rfl) (by kernel_rfl) (fun _ _ _ h => h) (Or.inl ⟨by rfl, (by intro w' hSw; go_simp; first | done | rfl)⟩) (unhide HS0) ?_
                          go_simp
                          refine wpAnyH_take (i := 20) (oi := _) (v := .agg #[.int .i64 x.op, .int .i64 x.code, .int .i64 x.dst, .slice aa AL ac, .int .i64 x.n, .int .i64 x.pc, .int .i64 x.need, .slice ea EL ec]) rfl (by kernel_rfl) (by kernel_rfl) (by kernel_rfl) (fun _ _ _ h => h) (Or.inl ⟨by rfl, (by intro w' hSw; obtain ⟨q1, q2, q3, q4, q5, q6, q7, q8, q9, q10, q11, q12, q13, q14⟩ := unhide HR2 w' hSw; go_simp; first | done | rfl)⟩) (unhide HS0) ?_
                          go_simp
                          refine wpAnyH_take (i := 21) (oi := _) (v := .slice (some ⟨tb, tof, none⟩) N tc) rfl (by kernel_rfl) (by kernel_rfl) (by kernel_rfl) (fun _ _ _ h => h) (Or.inl ⟨by rfl, (by intro w' hSw; go_simp; first | done | rfl)⟩) (unhide HS0) ?_
                          go_simp
                          refine wpAnyH_take (i := 22) (oi := _) (v := .int .i64 (b : Int)) rfl (by kernel_rfl) (by kernel_rfl) (by kernel_rfl) (fun _ _ _ h => h) (Or.inl ⟨by rfl, (by intro w' hSw; go_simp; first | done | rfl)⟩) (unhide HS0) ?_
                          go_simp
                          refine wpAnyH_take (i := 23) (oi := _) (v := .pointer (some ⟨tb, tof + b, none⟩)) rfl (by kernel_rfl) (by kernel_rfl) (by kernel_rfl) (fun _ _ _ h => h) (Or.inl ⟨by rfl, (by intro w' hSw; go_simp; first | done | rfl)⟩) (unhide HS0) ?_
                          go_simp
                          refine wpAnyH_take (i := 24) (oi := _) (v := .slice (some ⟨ra, ro, none⟩) (n + 1) rc) rfl (by kernel_rfl) (by kernel_rfl) (by kernel_rfl) (fun _ _ _ h => h) (Or.inl ⟨by rfl, (by intro w' hSw; obtain ⟨a1, a2, a3, a4, a5, a6⟩ := unhide HR1 w' hSw; go_simp; first | done | rfl)⟩) (unhide HS0) ?_
                          go_simp
                          refine wpAnyH_take (i := 25) (oi := _) (v := .int .i64 (i : Int)) rfl (by kernel_rfl) (by kernel_rfl) (by kernel_rfl) (fun _ _ _ h => h) (Or.inl ⟨by rfl, (by intro w' hSw; go_simp; first | done | rfl)⟩) (unhide HS0) ?_
                          go_simp
                          refine wpAnyH_take (i := 26) (oi := _) (v := .int .i64 (i1 : Int)) rfl (by kernel_rfl) (by kernel_rfl) (by kernel_rfl) (fun _ _ _ h => h) (Or.inl ⟨by rfl, (by intro w' hSw; go_simp; first | done | rfl)⟩) (unhide HS0) ?_
                          go_simp
                          refine wpAnyH_take (i := 27) (oi := _) (v := .pointer (some ⟨ra, ro + i1, none⟩)) rfl (by kernel_rfl) (by kernel_rfl) (by kernel_rfl) (fun _ _ _ h => h) (Or.inl ⟨by rfl, (by intro w' hSw; go_simp; first | done | rfl)⟩) (unhide HS0) ?_
                          go_simp
                          refine wpAnyH_take (i := 28) (oi := _) (v := .slice (some ⟨g1, go1, none⟩) 512 gc1) rfl (by kernel_rfl) (by kernel_rfl) (by kernel_rfl) (fun _ _ _ h => h) (Or.inl ⟨by rfl, (by intro w' hSw; obtain ⟨z1, z2⟩ := unhide HR3 w' hSw; go_simp; first | done | rfl)⟩) (unhide HS0) ?_
                          go_simp
                          refine wpAnyH_take (i := 29) (oi := _) (v := .int .i64 (r : Int)) rfl (by kernel_rfl) (by kernel_rfl) (by kernel_rfl) (fun _ _ _ h => h) (Or.inl ⟨by rfl, (by intro w' hSw; go_simp; first | done | rfl)⟩) (unhide HS0) ?_
                          go_simp
                          refine wpAnyH_ready (rs := [30]) (by kernel_rfl) (by simp) ?_
                          refine AllReadyH.cons (o := _) rfl (fun K hK => ?_) AllReadyH.nil
                          go_simp
                          refine (unhide HRU _ (unhide HS0)).mono ?_
                          rintro e Y ⟨rfl, hY⟩
                          have HY : Hid (Below wr.heap.size wr Y) := (unhide HS0).trans hY
                          refine hK.out _ _ (unhide HY) (fun hHeld => ?_)
                          clear hHeld hK K hY
                          refine wpAnyH_take (i := 31) (oi := _) (v := .bool false) rfl (by kernel_rfl) (by kernel_rfl) (by kernel_rfl) (fun _ _ _ h => h) (Or.inl ⟨by rfl, (by intro w' hSw; go_simp; first | done | rfl)⟩) (unhide HY) ?_
                          go_simp
                          refine wpAnyH_done (by kernel_rfl) ?_ _
                          have HM2 : Hid (Fr Z X2 Y ∧ TM Z Y (.slice (some ⟨tb, tof, none⟩) N tc) uss ts) := ⟨(unhide hMem).1.trans (Fr.of_below (unhide HY)), TM.on (unhide hMem).2 (unhide HY)⟩
                          clear HR1 HR2 HR3 HS0 HRU hI hMem
                          go_wp2_with fail
                          go_roundg (gk - 1)
                          case measure => have := unhide hm; omega
                          case rel => exact ⟨m + 1, ag, uss, by have := unhide hm; unfold Hid; omega, by rw [show (i : Int) - 1 = (n : Int) - 1 - ((m + 1 : Nat) : Int) by omega], rfl, HI2, HM2⟩

                    · have hmN : m = n := by have := unhide hm; omega
                      have i1 : ¬ (0 : Int) ≤ (n : Int) - 1 - (m : Int) := by omega
                      have HI2 : Hid (FI bl uss0 ag uss ∧ (ag = false → DB bl uss0 N j) ∧ (ag = false → DK uss0 rl u b (k + 1))) := ⟨(unhide hI).1, (unhide hI).2.1, fun e => DK_next (unhide HKR) (unhide hnn) ((unhide hI).2.2.1 e) (by have q := (unhide hI).2.2.2 e; rw [hmN] at q; exact q)⟩
                      clear hmN hI
                      go_wp2_with fail
                      go_roundg (RL - (k + 1))
                      case measure => have := unhide hk; omega
                      case rel => exact ⟨k + 1, ag, uss, by have := unhide hk; unfold Hid; omega, by go_num, rfl, HI2, hMem⟩

                | false =>
                  rw [hnb] at HNX
                  have hno : ag = false → ¬ nxB uss0 u.nx r = true := fun e q => by
                    have h2 := (unhide hI).1.no e
                    rw [h2] at hnb
                    rw [hnb] at q
                    exact Bool.noConfusion q
                  have HI3 : Hid (FI bl uss0 ag uss ∧ (ag = false → DB bl uss0 N j) ∧ (ag = false → DK uss0 rl u b k) ∧ (ag = false → DI uss0 u b r n 0)) := hide ⟨(unhide hI).1, (unhide hI).2.1, (unhide hI).2.2, fun e => ⟨fun q => absurd q (hno e), fun i2 x2 hi2 hx2 => by have := (List.getElem?_eq_some_iff.1 hx2).1; rw [unhide hnn] at this; omega⟩⟩
                  clear hMr hnb hno
                  go_wp2_with fail
                  refine (unhide HNX).mono ?_
                  rintro e Y ⟨rfl, hY⟩
                  have HM3 : Hid (Fr Z X2 Y ∧ TM Z Y (.slice (some ⟨tb, tof, none⟩) N tc) uss ts) := ⟨(unhide hMem).1.trans (Fr.of_below hY), TM.on (unhide hMem).2 hY⟩
                  clear hI hMem HX8 HUS HUM HTB HZG HNX c0 c1 c2 cl rc0 hrb x1 x2 x3 x4 x5 y1 y2 hbel hY
                  go_wp2_with fail
                  go_loopg [10, 5] n (fun gg t10 t5 wr => ∃ (m : Nat) (ag : Bool) (uss : List (List Rset)), Hid (m + gg = n) ∧ t10 = .int .i64 ((n : Int) - 1 - (m : Int)) ∧ t5 = .bool ag ∧ Hid (FI bl uss0 ag uss ∧ (ag = false → DB bl uss0 N j) ∧ (ag = false → DK uss0 rl u b k) ∧ (ag = false → DI uss0 u b r n m)) ∧ Hid (Fr Z X2 wr ∧ TM Z wr (.slice (some ⟨tb, tof, none⟩) N tc) uss ts))
                  case atStart => exact ⟨0, ag, uss, by unfold Hid; omega, by simp, rfl, HI3, HM3⟩
                  case round =>
                    clear HI3 HM3
                    obtain ⟨m, ag, uss, hm, rfl, rfl, hI, hMem⟩ := hrel
                    by_cases hmn : m < n
                    · obtain ⟨i, hi⟩ : ∃ i : Nat, Hid (n - 1 - m = i) := ⟨_, hide rfl⟩
                      have hi' := unhide hi
                      have ei : (n : Int) - 1 - (m : Int) = (i : Int) := by omega
                      rw [ei]
                      have i0 : (0 : Int) ≤ (i : Int) := by omega
                      have i1n : (i : Int) < (n : Int) := by omega
                      have i2n : (i : Int) < (n : Int) + 1 := by omega
                      obtain ⟨x, hx⟩ : ∃ x, u.ins[i]? = some x := ⟨_, List.getElem?_eq_getElem (by rw [unhide hnn]; omega)⟩
                      obtain ⟨us, M, hus, hM, hTM, hul⟩ := (unhide hI).1.shp.at (unhide HU) (i := i) (by rw [unhide hnn]; omega)
                      rw [unhide hnn] at hul
                      obtain ⟨tb2, tof2, tc2, ra, ro, rc, g, go, gc, e1, x1, x2, x3, x4, x5, x6, x7, x8⟩ := (unhide hMem).2.read hus hM
                      rw [(unhide hI).1.shp.len, unhide hNN] at e1
                      cases e1
                      rw [hul] at x2
                      obtain ⟨g', go', gc', e2, _, x9⟩ := x6.read
                      cases e2
                      obtain ⟨y1, y2⟩ := x9 r r5
                      obtain ⟨i1, hi1⟩ : ∃ z : Nat, Hid (i + 1 = z) := ⟨_, hide rfl⟩
                      have ei1 : (i : Int) + 1 = (i1 : Int) := by have := unhide hi1; omega
                      have wi2 : IntKind.i64.wrap ((i : Int) - 1) = (i : Int) - 1 := by go_arith
                      have i10 : (0 : Int) ≤ (i1 : Int) := by omega
                      have i11 : (i1 : Int) < (n : Int) + 1 := by omega
                      have wi1 : IntKind.i64.wrap (i1 : Int) = (i1 : Int) := by go_arith
                      obtain ⟨us1, M1, hus1, hM1, hTM1, _⟩ := (unhide hI).1.shp.at (unhide HU) (i := i1) (by rw [unhide hnn]; have := unhide hi1; omega)
                      rw [hus] at hus1
                      cases hus1
                      obtain ⟨tb3, tof3, tc3, ra1, ro1, rc1, g1, go1, gc1, e3, _, v2, _, v4, v5, v6, _, _⟩ := (unhide hMem).2.read hus hM1
                      rw [(unhide hI).1.shp.len, unhide hNN] at e3
                      cases e3
                      rw [hul, x2] at v2
                      cases v2
                      have hsup1 : Sup M1 := by have q := snd_sup (unhide hI).1.snd b i1; rwa [hTM1] at q
                      obtain ⟨ib, io, aa, ac, ea, ec, e4, hib, hP, ha1, ha2, he1, he2, hcx⟩ := InsV.at8 (unhide HIN) hx
                      subst e4
                      have HFF : Hid (∀ V, Below wr.heap.size wr V → Below w.heap.size w V) := fun V hV => (unhide HFM _ (unhide hMem).1).1.trans (hV.mono (unhide HFM _ (unhide hMem).1).1.size)
                      have HR1 : Hid (∀ V, Below wr.heap.size wr V → tb < V.heap.size ∧ V.cell? ⟨tb, tof + b, none⟩ = some (.slice (some ⟨ra, ro, none⟩) (n + 1) rc) ∧ ra < V.heap.size ∧ V.cell? ⟨ra, ro + i, none⟩ = some (.slice (some ⟨g, go, none⟩) 512 gc) ∧ g < V.heap.size ∧ V.cell? ⟨g, go + r, none⟩ = some (.bool (M r))) := fun V hV => ⟨Nat.lt_of_lt_of_le x1 hV.size, (hV.cell (p := ⟨tb, tof + b, none⟩) x1).trans x2, Nat.lt_of_lt_of_le x3 hV.size, (hV.cell (p := ⟨ra, ro + i, none⟩) x3).trans x4, Nat.lt_of_lt_of_le x5 hV.size, (hV.cell (p := ⟨g, go + r, none⟩) x5).trans y1⟩
                      have HR2 : Hid (∀ V, Below wr.heap.size wr V → w.heap.size < V.heap.size ∧ V.cell? ⟨w.heap.size, 2, none⟩ = some (.slice (some ⟨vb, vo, none⟩) N vc) ∧ vb < V.heap.size ∧ V.cell? ⟨vb, vo + b * 3 + 1, none⟩ = some (.slice (some ⟨ib, io, none⟩) n ic) ∧ ib < V.heap.size ∧ V.cell? ⟨ib, io + i * 8, none⟩ = some (.int .i64 x.op) ∧ V.cell? ⟨ib, io + i * 8 + 1, none⟩ = some (.int .i64 x.code) ∧ V.cell? ⟨ib, io + i * 8 + 2, none⟩ = some (.int .i64 x.dst) ∧ V.cell? ⟨ib, io + i * 8 + 3, none⟩ = some (.slice aa x.args.length ac) ∧ V.cell? ⟨ib, io + i * 8 + 4, none⟩ = some (.int .i64 x.n) ∧ V.cell? ⟨ib, io + i * 8 + 5, none⟩ = some (.int .i64 x.pc) ∧ V.cell? ⟨ib, io + i * 8 + 6, none⟩ = some (.int .i64 x.need) ∧ V.cell? ⟨ib, io + i * 8 + 7, none⟩ = some (.slice ea x.ex.length ec) ∧ True) := fun V hV => by
                        obtain ⟨_, f2, _, _, f5, _⟩ := unhide HFM _ (unhide hMem).1
                        obtain ⟨h1, _, h3, _⟩ := unhide HCC V (unhide HFF V hV)
                        obtain ⟨k0, k1, k2, k3, k4, k5, k6, k7, k8⟩ := hcx V (unhide HFF V hV)
                        exact ⟨Nat.lt_of_lt_of_le f2 hV.size, (hV.cell (p := ⟨w.heap.size, 2, none⟩) f2).trans f5, h1, h3, k0, k1, k2, k3, k4, k5, k6, k7, k8, trivial⟩
                      have HR3 : Hid (∀ V, Below wr.heap.size wr V → ra < V.heap.size ∧ V.cell? ⟨ra, ro + i1, none⟩ = some (.slice (some ⟨g1, go1, none⟩) 512 gc1)) := fun V hV => ⟨Nat.lt_of_lt_of_le x3 hV.size, (hV.cell (p := ⟨ra, ro + i1, none⟩) x3).trans v4⟩
                      have HRU := hide (fun V (hV : Below wr.heap.size wr V) => rule_any (InP.mv D0 D0 (fun _ => False) w V x _ hP (Fr.of_below (unhide HFF V hV)) (fun k hk d => ⟨fun e => e, d⟩)) (Ro.fr v6 (Fr.of_below (S := fun _ => False) hV) (fun _ _ e => e)) hsup1 r ((unhide HOU).2.2 x (List.mem_of_getElem? hx)).1 ((unhide HOU).2.2 x (List.mem_of_getElem? hx)).2.1 ((unhide HOU).2.2 x (List.mem_of_getElem? hx)).2.2)
                      have HX := hide hx
                      have HUS := hide hus
                      have HUM := hide hM
                      have HTB := hide hTM
                      have HTB1 : Hid (tab uss b (i + 1) = M1) := by rw [unhide hi1]; exact hTM1
                      have HX8 := hide (x8 r r5)
                      have HZG := hide x7
                      have HS0 : Hid (Below wr.heap.size wr wr.drew) := bl_drew wr
                      obtain ⟨AL, hAL⟩ : ∃ z, Hid (x.args.length = z) := ⟨_, hide rfl⟩
                      obtain ⟨EL, hEL⟩ : ∃ z, Hid (x.ex.length = z) := ⟨_, hide rfl⟩
                      rw [unhide hAL, unhide hEL] at HR2 HRU
                      clear hx hus hM hTM hM1 hTM1 hul x1 x2 x3 x4 x5 x6 x7 x8 x9 y1 y2 v4 v5 v6 hcx hP hsup1
                      cases hMr : M r with
                      | true =>
                        rw [hMr] at HR1
                        have HI2 : Hid (FI bl uss0 ag uss ∧ (ag = false → DB bl uss0 N j) ∧ (ag = false → DK uss0 rl u b k) ∧ (ag = false → DI uss0 u b r n (m + 1))) := ⟨(unhide hI).1, (unhide hI).2.1, (unhide hI).2.2.1, fun e => ⟨((unhide hI).2.2.2 e).1, fun i2 x2 hi2 hx2 hq => by
                          by_cases e2 : i2 = i
                          · subst e2
                            rw [← (unhide hI).1.no e, unhide HTB]; exact hMr
                          · exact ((unhide hI).2.2.2 e).2 i2 x2 (by omega) hx2 hq⟩⟩
                        have HM2 : Hid (Fr Z X2 wr.drew ∧ TM Z wr.drew (.slice (some ⟨tb, tof, none⟩) N tc) uss ts) := ⟨(unhide hMem).1.trans (Fr.of_below (bl_drew wr)), TM.on (unhide hMem).2 (bl_drew wr)⟩
                        clear hMr hI hMem HRU HUS HUM HTB HTB1 HX8
                        go_wp2_with fail
                        refine wp_region_held_drew (S := fun V => Below wr.heap.size wr V) (by kernel_rfl) (unhide HS0) (fun hHeld => ?_)
                        clear hHeld
                        refine wpAnyH_take (i := 0) (oi := _) (v := .slice (some ⟨tb, tof, none⟩) N tc) rfl (by kernel_rfl) (by kernel_rfl) (by kernel_rfl) (fun _ _ _ h => h) (Or.inl ⟨by rfl, (by intro w' hSw; go_simp; first | done | rfl)⟩) (unhide HS0) ?_
                        go_simp
                        refine wpAnyH_take (i := 1) (oi := _) (v := .int .i64 (b : Int)) rfl (by kernel_rfl) (by kernel_rfl) (by kernel_rfl) (fun _ _ _ h => h) (Or.inl ⟨by rfl, (by intro w' hSw; go_simp; first | done | rfl)⟩) (unhide HS0) ?_
                        go_simp
                        refine wpAnyH_take (i := 2) (oi := _) (v := .pointer (some ⟨tb, tof + b, none⟩)) rfl (by kernel_rfl) (by kernel_rfl) (by kernel_rfl) (fun _ _ _ h => h) (Or.inl ⟨by rfl, (by intro w' hSw; go_simp; first | done | rfl)⟩) (unhide HS0) ?_
                        go_simp
                        refine wpAnyH_take (i := 3) (oi := _) (v := .slice (some ⟨ra, ro, none⟩) (n + 1) rc) rfl (by kernel_rfl) (by kernel_rfl) (by kernel_rfl) (fun _ _ _ h => h) (Or.inl ⟨by rfl, (by intro w' hSw; obtain ⟨a1, a2, a3, a4, a5, a6⟩ := unhide HR1 w' hSw; go_simp; first | done | rfl)⟩) (unhide HS0) ?_
                        go_simp
                        refine wpAnyH_take (i := 4) (oi := _) (v := .int .i64 (i : Int)) rfl (by kernel_rfl) (by kernel_rfl) (by kernel_rfl) (fun _ _ _ h => h) (Or.inl ⟨by rfl, (by intro w' hSw; go_simp; first | done | rfl)⟩) (unhide HS0) ?_
                        go_simp
                        refine wpAnyH_take (i := 5) (oi := _) (v := .pointer (some ⟨ra, ro + i, none⟩)) rfl (by kernel_rfl) (by kernel_rfl) (by kernel_rfl) (fun _ _ _ h => h) (Or.inl ⟨by rfl, (by intro w' hSw; go_simp; first | done | rfl)⟩) (unhide HS0) ?_
                        go_simp
                        refine wpAnyH_take (i := 6) (oi := _) (v := .slice (some ⟨g, go, none⟩) 512 gc) rfl (by kernel_rfl) (by kernel_rfl) (by kernel_rfl) (fun _ _ _ h => h) (Or.inl ⟨by rfl, (by intro w' hSw; obtain ⟨a1, a2, a3, a4, a5, a6⟩ := unhide HR1 w' hSw; go_simp; first | done | rfl)⟩) (unhide HS0) ?_
                        go_simp
                        refine wpAnyH_take (i := 7) (oi := _) (v := .int .i64 (r : Int)) rfl (by kernel_rfl) (by kernel_rfl) (by kernel_rfl) (fun _ _ _ h => h) (Or.inl ⟨by rfl, (by intro w' hSw; go_simp; first | done | rfl)⟩) (unhide HS0) ?_
                        go_simp
                        refine wpAnyH_take (i := 8) (oi := _) (v := .pointer (some ⟨g, go + r, none⟩)) rfl (by kernel_rfl) (by kernel_rfl) (by kernel_rfl) (fun _ _ _ h => h) (Or.inl ⟨by rfl, (by intro w' hSw; go_simp; first | done | rfl)⟩) (unhide HS0) ?_
                        go_simp
                        refine wpAnyH_take (i := 9) (oi := _) (v := .bool true) rfl (by kernel_rfl) (by kernel_rfl) (by kernel_rfl) (fun _ _ _ h => h) (Or.inl ⟨by rfl, (by intro w' hSw; obtain ⟨a1, a2, a3, a4, a5, a6⟩ := unhide HR1 w' hSw; go_simp; first | done | rfl)⟩) (unhide HS0) ?_
                        go_simp
                        refine wpAnyH_take (i := 10) (oi := _) (v := .bool false) rfl (by kernel_rfl) (by kernel_rfl) (by kernel_rfl) (fun _ _ _ h => h) (Or.inl ⟨by rfl, (by intro w' hSw; go_simp; first | done | rfl)⟩) (unhide HS0) ?_
                        go_simp
                        refine wpAnyH_take (i := 11) (oi := _) (v := .bool false) rfl (by kernel_rfl) (by kernel_rfl) (by kernel_rfl) (fun _ _ _ h => h) (Or.inl ⟨by rfl, (by intro w' hSw; go_simp; first | done | rfl)⟩) (unhide HS0) ?_
                        go_simp
                        refine wpAnyH_take (i := 12) (oi := _) (v := undef) rfl (by kernel_rfl) (by kernel_rfl) (by kernel_rfl) (fun _ _ _ h => h) (Or.inr ⟨by rfl, rfl⟩) (unhide HS0) ?_
                        go_simp
                        refine wpAnyH_take (i := 13) (oi := _) (v := undef) rfl (by kernel_rfl) (by kernel_rfl) (by kernel_rfl) (fun _ _ _ h => h) (Or.inr ⟨by rfl, rfl⟩) (unhide HS0) ?_
                        go_simp
                        refine wpAnyH_take (i := 14) (oi := _) (v := undef) rfl (by kernel_rfl) (by kernel_rfl) (by kernel_rfl) (fun _ _ _ h => h) (Or.inr ⟨by rfl, rfl⟩) (unhide HS0) ?_
                        go_simp
                        refine wpAnyH_take (i := 15) (oi := _) (v := undef) rfl (by kernel_rfl) (by kernel_rfl) (by kernel_rfl) (fun _ _ _ h => h) (Or.inr ⟨by rfl, rfl⟩) (unhide HS0) ?_
                        go_simp
                        refine wpAnyH_take (i := 16) (oi := _) (v := undef) rfl (by kernel_rfl) (by kernel_rfl) (by kernel_rfl) (fun _ _ _ h => h) (Or.inr ⟨by rfl, rfl⟩) (unhide HS0) ?_
                        go_simp
                        refine wpAnyH_take (i := 17) (oi := _) (v := undef) rfl (by kernel_rfl) (by kernel_rfl) (by kernel_rfl) (fun _ _ _ h => h) (Or.inr ⟨by rfl, rfl⟩) (unhide HS0) ?_
                        go_simp
                        refine wpAnyH_take (i := 18) (oi := _) (v := undef) rfl (by kernel_rfl) (by kernel_rfl) (by kernel_rfl) (fun _ _ _ h => h) (Or.inr ⟨by rfl, rfl⟩) (unhide HS0) ?_
                        go_simp
                        refine wpAnyH_take (i := 19) (oi := _) (v := undef) rfl (by kernel_rfl) (by kernel_rfl) (by kernel_rfl) (fun _ _ _ h => h) (Or.inr ⟨by rfl, rfl⟩) (unhide HS0) ?_
                        go_simp
                        refine wpAnyH_take (i := 20) (oi := _) (v := undef) rfl (by kernel_rfl) (by kernel_rfl) (by kernel_rfl) (fun _ _ _ h => h) (Or.inr ⟨by rfl, rfl⟩) (unhide HS0) ?_
                        go_simp
                        refine wpAnyH_take (i := 21) (oi := _) (v := undef) rfl (by kernel_rfl) (by kernel_rfl) (by kernel_rfl) (fun _ _ _ h => h) (Or.inr ⟨by rfl, rfl⟩) (unhide HS0) ?_
                        go_simp
                        refine wpAnyH_take (i := 22) (oi := _) (v := undef) rfl (by kernel_rfl) (by kernel_rfl) (by kernel_rfl) (fun _ _ _ h => h) (Or.inr ⟨by rfl, rfl⟩) (unhide HS0) ?_
                        go_simp
                        refine wpAnyH_take (i := 23) (oi := _) (v := undef) rfl (by kernel_rfl) (by kernel_rfl) (by kernel_rfl) (fun _ _ _ h => h) (Or.inr ⟨by rfl, rfl⟩) (unhide HS0) ?_
                        go_simp
                        refine wpAnyH_take (i := 24) (oi := _) (v := undef) rfl (by kernel_rfl) (by kernel_rfl) (by kernel_rfl) (fun _ _ _ h => h) (Or.inr ⟨by rfl, rfl⟩) (unhide HS0) ?_
                        go_simp
                        refine wpAnyH_take (i := 25) (oi := _) (v := undef) rfl (by kernel_rfl) (by kernel_rfl) (by kernel_rfl) (fun _ _ _ h => h) (Or.inr ⟨by rfl, rfl⟩) (unhide HS0) ?_
                        go_simp
                        refine wpAnyH_take (i := 26) (oi := _) (v := undef) rfl (by kernel_rfl) (by kernel_rfl) (by kernel_rfl) (fun _ _ _ h => h) (Or.inr ⟨by rfl, rfl⟩) (unhide HS0) ?_
                        go_simp
                        refine wpAnyH_take (i := 27) (oi := _) (v := undef) rfl (by kernel_rfl) (by kernel_rfl) (by kernel_rfl) (fun _ _ _ h => h) (Or.inr ⟨by rfl, rfl⟩) (unhide HS0) ?_
                        go_simp
                        refine wpAnyH_take (i := 28) (oi := _) (v := undef) rfl (by kernel_rfl) (by kernel_rfl) (by kernel_rfl) (fun _ _ _ h => h) (Or.inr ⟨by rfl, rfl⟩) (unhide HS0) ?_
                        go_simp
                        refine wpAnyH_take (i := 29) (oi := _) (v := undef) rfl (by kernel_rfl) (by kernel_rfl) (by kernel_rfl) (fun _ _ _ h => h) (Or.inr ⟨by rfl, rfl⟩) (unhide HS0) ?_
                        go_simp
                        refine wpAnyH_take (i := 30) (oi := _) (v := undef) rfl (by kernel_rfl) (by kernel_rfl) (by kernel_rfl) (fun _ _ _ h => h) (Or.inr ⟨by rfl, rfl⟩) (unhide HS0) ?_
                        go_simp
                        refine wpAnyH_take (i := 31) (oi := _) (v := .bool false) rfl (by kernel_rfl) (by kernel_rfl) (by kernel_rfl) (fun _ _ _ h => h) (Or.inl ⟨by rfl, (by intro w' hSw; go_simp; first | done | rfl)⟩) (unhide HS0) ?_
                        go_simp
                        refine wpAnyH_done (by kernel_rfl) ?_ _
                        clear HR1 HR2 HR3 HS0
                        go_wp2_with fail
                        go_roundg (gk - 1)
                        case measure => have := unhide hm; omega
                        case rel => exact ⟨m + 1, ag, uss, by have := unhide hm; unfold Hid; omega, by rw [show (i : Int) - 1 = (n : Int) - 1 - ((m + 1 : Nat) : Int) by omega], rfl, HI2, HM2⟩

                      | false =>
                        rw [hMr] at HR1
                        cases hru : ruleS M1 x r with
                        | true =>
                          rw [hru] at HRU
                          have HFI2 : Hid (FI bl uss0 true (uss.set b (us.set i (pbit M r true)))) := (unhide hI).1.put (unhide HUS) (unhide HUM) (unhide HU) (unhide HREG) hMr (snd_rule (unhide hI).1.snd (unhide HU) (unhide HX) r5 (by rw [unhide HTB1]; exact hru))
                          clear hMr hru
                          go_wp2_with fail
                          refine wp_region_held_drew (S := fun V => Below wr.heap.size wr V) (by kernel_rfl) (unhide HS0) (fun hHeld => ?_)
                          clear hHeld
                          refine wpAnyH_take (i := 0) (oi := _) (v := .slice (some ⟨tb, tof, none⟩) N tc) rfl (by kernel_rfl) (by kernel_rfl) (by kernel_rfl) (fun _ _ _ h => h) (Or.inl ⟨by rfl, (by intro w' hSw; go_simp; first | done | rfl)⟩) (unhide HS0) ?_
                          go_simp
                          refine wpAnyH_take (i := 1) (oi := _) (v := .int .i64 (b : Int)) rfl (by kernel_rfl) (by kernel_rfl) (by kernel_rfl) (fun _ _ _ h => h) (Or.inl ⟨by rfl, (by intro w' hSw; go_simp; first | done | rfl)⟩) (unhide HS0) ?_
                          go_simp
                          refine wpAnyH_take (i := 2) (oi := _) (v := .pointer (some ⟨tb, tof + b, none⟩)) rfl (by kernel_rfl) (by kernel_rfl) (by kernel_rfl) (fun _ _ _ h => h) (Or.inl ⟨by rfl, (by intro w' hSw; go_simp; first | done | rfl)⟩) (unhide HS0) ?_
                          go_simp
                          refine wpAnyH_take (i := 3) (oi := _) (v := .slice (some ⟨ra, ro, none⟩) (n + 1) rc) rfl (by kernel_rfl) (by kernel_rfl) (by kernel_rfl) (fun _ _ _ h => h) (Or.inl ⟨by rfl, (by intro w' hSw; obtain ⟨a1, a2, a3, a4, a5, a6⟩ := unhide HR1 w' hSw; go_simp; first | done | rfl)⟩) (unhide HS0) ?_
                          go_simp
                          refine wpAnyH_take (i := 4) (oi := _) (v := .int .i64 (i : Int)) rfl (by kernel_rfl) (by kernel_rfl) (by kernel_rfl) (fun _ _ _ h => h) (Or.inl ⟨by rfl, (by intro w' hSw; go_simp; first | done | rfl)⟩) (unhide HS0) ?_
                          go_simp
                          refine wpAnyH_take (i := 5) (oi := _) (v := .pointer (some ⟨ra, ro + i, none⟩)) rfl (by kernel_rfl) (by kernel_rfl) (by kernel_rfl) (fun _ _ _ h => h) (Or.inl ⟨by rfl, (by intro w' hSw; go_simp; first | done | rfl)⟩) (unhide HS0) ?_
                          go_simp
                          refine wpAnyH_take (i := 6) (oi := _) (v := .slice (some ⟨g, go, none⟩) 512 gc) rfl (by kernel_rfl) (by kernel_rfl) (by kernel_rfl) (fun _ _ _ h => h) (Or.inl ⟨by rfl, (by intro w' hSw; obtain ⟨a1, a2, a3, a4, a5, a6⟩ := unhide HR1 w' hSw; go_simp; first | done | rfl)⟩) (unhide HS0) ?_
                          go_simp
                          refine wpAnyH_take (i := 7) (oi := _) (v := .int .i64 (r : Int)) rfl (by kernel_rfl) (by kernel_rfl) (by kernel_rfl) (fun _ _ _ h => h) (Or.inl ⟨by rfl, (by intro w' hSw; go_simp; first | done | rfl)⟩) (unhide HS0) ?_
                          go_simp
                          refine wpAnyH_take (i := 8) (oi := _) (v := .pointer (some ⟨g, go + r, none⟩)) rfl (by kernel_rfl) (by kernel_rfl) (by kernel_rfl) (fun _ _ _ h => h) (Or.inl ⟨by rfl, (by intro w' hSw; go_simp; first | done | rfl)⟩) (unhide HS0) ?_
                          go_simp
                          refine wpAnyH_take (i := 9) (oi := _) (v := .bool false) rfl (by kernel_rfl) (by kernel_rfl) (by kernel_rfl) (fun _ _ _ h => h) (Or.inl ⟨by rfl, (by intro w' hSw; obtain ⟨a1, a2, a3, a4, a5, a6⟩ := unhide HR1 w' hSw; go_simp; first | done | rfl)⟩) (unhide HS0) ?_
                          go_simp
                          refine wpAnyH_take (i := 10) (oi := _) (v := .bool true) rfl (by kernel_rfl) (by kernel_rfl) (by kernel_rfl) (fun _ _ _ h => h) (Or.inl ⟨by rfl, (by intro w' hSw; go_simp; first | done | rfl)⟩) (unhide HS0) ?_
                          go_simp
                          refine wpAnyH_take (i := 11) (oi := _) (v := .bool true) rfl (by kernel_rfl) (by kernel_rfl) (by kernel_rfl) (fun _ _ _ h => h) (Or.inl ⟨by rfl, (by intro w' hSw; go_simp; first | done | rfl)⟩) (unhide HS0) ?_
                          go_simp
                          refine wpAnyH_take (i := 12) (oi := _) (v := .pointer (some ⟨w.heap.size, 2, none⟩)) rfl (by kernel_rfl) (by kernel_rfl) (by kernel_rfl) (fun _ _ _ h => h) (Or.inl ⟨by rfl, (by intro w' hSw; go_simp; first | done | rfl)⟩) (unhide HS0) ?_
                          go_simp
                          refine wpAnyH_take (i := 13) (oi := _) (v := .slice (some ⟨vb, vo, none⟩) N vc) rfl (by kernel_rfl) (by kernel_rfl) (by kernel_rfl) (fun _ _ _ h => h) (Or.inl ⟨by rfl, (by intro w' hSw; obtain ⟨q1, q2, q3, q4, q5, q6, q7, q8, q9, q10, q11, q12, q13, q14⟩ := unhide HR2 w' hSw; go_simp; first | done | rfl)⟩) (unhide HS0) ?_
                          go_simp
                          refine wpAnyH_take (i := 14) (oi := _) (v := .int .i64 (b : Int)) rfl (by kernel_rfl) (by kernel_rfl) (by kernel_rfl) (fun _ _ _ h => h) (Or.inl ⟨by rfl, (by intro w' hSw; go_simp; first | done | rfl)⟩) (unhide HS0) ?_
                          go_simp
                          refine wpAnyH_take (i := 15) (oi := _) (v := .pointer (some ⟨vb, vo + b * 3, none⟩)) rfl (by kernel_rfl) (by kernel_rfl) (by kernel_rfl) (fun _ _ _ h => h) (Or.inl ⟨by rfl, (by intro w' hSw; go_simp; first | done | rfl)⟩) (unhide HS0) ?_
                          go_simp
                          refine wpAnyH_take (i := 16) (oi := _) (v := .pointer (some ⟨vb, vo + b * 3 + 1, none⟩)) rfl (by kernel_rfl) (by kernel_rfl) (by kernel_rfl) (fun _ _ _ h => h) (Or.inl ⟨by rfl, (by intro w' hSw; go_simp; first | done | rfl)⟩) (unhide HS0) ?_
                          go_simp
                          refine wpAnyH_take (i := 17) (oi := _) (v := .slice (some ⟨ib, io, none⟩) n ic) rfl (by kernel_rfl) (by kernel_rfl) (by kernel_rfl) (fun _ _ _ h => h) (Or.inl ⟨by rfl, (by intro w' hSw; obtain ⟨q1, q2, q3, q4, q5, q6, q7, q8, q9, q10, q11, q12, q13, q14⟩ := unhide HR2 w' hSw; go_simp; first | done | rfl)⟩) (unhide HS0) ?_
                          go_simp
                          refine wpAnyH_take (i := 18) (oi := _) (v := .int .i64 (i : Int)) rfl (by kernel_rfl) (by kernel_rfl) (by kernel_rfl) (fun _ _ _ h => h) (Or.inl ⟨by rfl, (by intro w' hSw; go_simp; first | done | rfl)⟩) (unhide HS0) ?_
                          go_simp
                          refine wpAnyH_take (i := 19) (oi := _) (v := .pointer (some ⟨ib, io + i * 8, none⟩)) rfl (by kernel_rfl) (by kernel_rfl) (by kernel_rfl) (fun _ _ _ h => h) (Or.inl ⟨by rfl, (by intro w' hSw; go_simp; first | done | rfl)⟩) (unhide HS0) ?_
                          go_simp
                          refine wpAnyH_take (i := 20) (oi := _) (v := .agg #[.int .i64 x.op, .int .i64 x.code, .int .i64 x.dst, .slice aa AL ac, .int .i64 x.n, .int .i64 x.pc, .int .i64 x.need, .slice ea EL ec]) rfl (by kernel_rfl) (by kernel_rfl) (by kernel_rfl) (fun _ _ _ h => h) (Or.inl ⟨by rfl, (by intro w' hSw; obtain ⟨q1, q2, q3, q4, q5, q6, q7, q8, q9, q10, q11, q12, q13, q14⟩ := unhide HR2 w' hSw; go_simp; first | done | rfl)⟩) (unhide HS0) ?_
                          go_simp
                          refine wpAnyH_take (i := 21) (oi := _) (v := .slice (some ⟨tb, tof, none⟩) N tc) rfl (by kernel_rfl) (by kernel_rfl) (by kernel_rfl) (fun _ _ _ h => h) (Or.inl ⟨by rfl, (by intro w' hSw; go_simp; first | done | rfl)⟩) (unhide HS0) ?_
                          go_simp
                          refine wpAnyH_take (i := 22) (oi := _) (v := .int .i64 (b : Int)) rfl (by kernel_rfl) (by kernel_rfl) (by kernel_rfl) (fun _ _ _ h => h) (Or.inl ⟨by rfl, (by intro w' hSw; go_simp; first | done | rfl)⟩) (unhide HS0) ?_
                          go_simp
                          refine wpAnyH_take (i := 23) (oi := _) (v := .pointer (some ⟨tb, tof + b, none⟩)) rfl (by kernel_rfl) (by kernel_rfl) (by kernel_rfl) (fun _ _ _ h => h) (Or.inl ⟨by rfl, (by intro w' hSw; go_simp; first | done | rfl)⟩) (unhide HS0) ?_
                          go_simp
                          refine wpAnyH_take (i := 24) (oi := _) (v := .slice (some ⟨ra, ro, none⟩) (n + 1) rc) rfl (by kernel_rfl) (by kernel_rfl) (by kernel_rfl) (fun _ _ _ h => h) (Or.inl ⟨by rfl, (by intro w' hSw; obtain ⟨a1, a2, a3, a4, a5, a6⟩ := unhide HR1 w' hSw; go_simp; first | done | rfl)⟩) (unhide HS0) ?_
                          go_simp
                          refine wpAnyH_take (i := 25) (oi := _) (v := .int .i64 (i : Int)) rfl (by kernel_rfl) (by kernel_rfl) (by kernel_rfl) (fun _ _ _ h => h) (Or.inl ⟨by rfl, (by intro w' hSw; go_simp; first | done | rfl)⟩) (unhide HS0) ?_
                          go_simp
                          refine wpAnyH_take (i := 26) (oi := _) (v := .int .i64 (i1 : Int)) rfl (by kernel_rfl) (by kernel_rfl) (by kernel_rfl) (fun _ _ _ h => h) (Or.inl ⟨by rfl, (by intro w' hSw; go_simp; first | done | rfl)⟩) (unhide HS0) ?_
                          go_simp
                          refine wpAnyH_take (i := 27) (oi := _) (v := .pointer (some ⟨ra, ro + i1, none⟩)) rfl (by kernel_rfl) (by kernel_rfl) (by kernel_rfl) (fun _ _ _ h => h) (Or.inl ⟨by rfl, (by intro w' hSw; go_simp; first | done | rfl)⟩) (unhide HS0) ?_
                          go_simp
                          refine wpAnyH_take (i := 28) (oi := _) (v := .slice (some ⟨g1, go1, none⟩) 512 gc1) rfl (by kernel_rfl) (by kernel_rfl) (by kernel_rfl) (fun _ _ _ h => h) (Or.inl ⟨by rfl, (by intro w' hSw; obtain ⟨z1, z2⟩ := unhide HR3 w' hSw; go_simp; first | done | rfl)⟩) (unhide HS0) ?_
                          go_simp
                          refine wpAnyH_take (i := 29) (oi := _) (v := .int .i64 (r : Int)) rfl (by kernel_rfl) (by kernel_rfl) (by kernel_rfl) (fun _ _ _ h => h) (Or.inl ⟨by rfl, (by intro w' hSw; go_simp; first | done | rfl)⟩) (unhide HS0) ?_
                          go_simp
                          refine wpAnyH_ready (rs := [30]) (by kernel_rfl) (by simp) ?_
                          refine AllReadyH.cons (o := _) rfl (fun K hK => ?_) AllReadyH.nil
                          go_simp
                          refine (unhide HRU _ (unhide HS0)).mono ?_
                          rintro e Y ⟨rfl, hY⟩
                          have HY : Hid (Below wr.heap.size wr Y) := (unhide HS0).trans hY
                          refine hK.out _ _ (unhide HY) (fun hHeld => ?_)
                          clear hHeld hK K hY
                          refine wpAnyH_take (i := 31) (oi := _) (v := .bool true) rfl (by kernel_rfl) (by kernel_rfl) (by kernel_rfl) (fun _ _ _ h => h) (Or.inl ⟨by rfl, (by intro w' hSw; go_simp; first | done | rfl)⟩) (unhide HY) ?_
                          go_simp
                          refine wpAnyH_done (by kernel_rfl) ?_ _
                          obtain ⟨us2, M2, hus2, hM2, _, hul2⟩ := (unhide hI).1.shp.at (unhide HU) (i := i) (by rw [unhide hnn]; omega)
                          rw [unhide HUS] at hus2
                          cases hus2
                          rw [unhide HUM] at hM2
                          cases hM2
                          rw [unhide hnn] at hul2
                          obtain ⟨tb4, tof4, tc4, ra4, ro4, rc4, g4, go4, gc4, e5, l1, l2, l3, l4, l5, l6, l7, l8⟩ := (TM.on (unhide hMem).2 (unhide HY)).read (unhide HUS) (unhide HUM)
                          rw [(unhide hI).1.shp.len, unhide hNN] at e5
                          cases e5
                          rw [hul2] at l2
                          obtain ⟨g5, go5, gc5, e6, _, l9⟩ := l6.read
                          cases e6
                          obtain ⟨l10, l11⟩ := l9 r r5
                          have HI2 : Hid (FI bl uss0 true (uss.set b (us.set i (pbit M r true))) ∧ (true = false → DB bl uss0 N j) ∧ (true = false → DK uss0 rl u b k) ∧ (true = false → DI uss0 u b r n (m + 1))) := ⟨unhide HFI2, (fun e => by cases e), (fun e => by cases e), (fun e => by cases e)⟩
                          have HM2 : Hid (Fr Z X2 (Y.setCell ⟨g4, go4 + r, none⟩ (.bool true)) ∧ TM Z (Y.setCell ⟨g4, go4 + r, none⟩ (.bool true)) (.slice (some ⟨tb, tof, none⟩) N tc) (uss.set b (us.set i (pbit M r true))) ts) := ⟨((unhide hMem).1.trans (Fr.of_below (unhide HY))).trans (Fr.setCell (S := Z) (Fr.refl _ Y) ⟨g4, go4 + r, none⟩ (.inr l7) _), l8 r r5⟩
                          clear HR1 HR2 HR3 HS0 HRU l6 l7 l8 l9 hul2 hI hMem HFI2
                          go_wp2_with fail
                          go_roundg (gk - 1)
                          case measure => have := unhide hm; omega
                          case rel => exact ⟨m + 1, true, _, by have := unhide hm; unfold Hid; omega, by rw [show (i : Int) - 1 = (n : Int) - 1 - ((m + 1 : Nat) : Int) by omega], rfl, HI2, HM2⟩

                        | false =>
                          rw [hru] at HRU
                          have HI2 : Hid (FI bl uss0 ag uss ∧ (ag = false → DB bl uss0 N j) ∧ (ag = false → DK uss0 rl u b k) ∧ (ag = false → DI uss0 u b r n (m + 1))) := ⟨(unhide hI).1, (unhide hI).2.1, (unhide hI).2.2.1, fun e => ⟨((unhide hI).2.2.2 e).1, fun i2 x2 hi2 hx2 hq => by
                            by_cases e2 : i2 = i
                            · subst e2
                              rw [unhide HX] at hx2
                              cases hx2
                              rw [← (unhide hI).1.no e, unhide HTB1, hru] at hq
                              cases hq
                            · exact ((unhide hI).2.2.2 e).2 i2 x2 (by omega) hx2 hq⟩⟩
                          clear hMr hru
                          go_wp2_with fail
                          refine wp_region_held_drew (S := fun V => Below wr.heap.size wr V) (by kernel_rfl) (unhide HS0) (fun hHeld => ?_)
                          clear hHeld
                          refine wpAnyH_take (i := 0) (oi := _) (v := .slice (some ⟨tb, tof, none⟩) N tc) rfl (by kernel_rfl) (by kernel_rfl) (by kernel_rfl) (fun _ _ _ h => h) (Or.inl ⟨by rfl, (by intro w' hSw; go_simp; first | done | rfl)⟩) (unhide HS0) ?_
                          go_simp
                          refine wpAnyH_take (i := 1) (oi := _) (v := .int .i64 (b : Int)) rfl (by kernel_rfl) (by kernel_rfl) (by kernel_rfl) (fun _ _ _ h => h) (Or.inl ⟨by rfl, (by intro w' hSw; go_simp; first | done | rfl)⟩) (unhide HS0) ?_
                          go_simp
                          refine wpAnyH_take (i := 2) (oi := _) (v := .pointer (some ⟨tb, tof + b, none⟩)) rfl (by kernel_rfl) (by kernel_rfl) (by kernel_rfl) (fun _ _ _ h => h) (Or.inl ⟨by rfl, (by intro w' hSw; go_simp; first | done | rfl)⟩) (unhide HS0) ?_
                          go_simp
                          refine wpAnyH_take (i := 3) (oi := _) (v := .slice (some ⟨ra, ro, none⟩) (n + 1) rc) rfl (by kernel_rfl) (by kernel_rfl) (by kernel_rfl) (fun _ _ _ h => h) (Or.inl ⟨by rfl, (by intro w' hSw; obtain ⟨a1, a2, a3, a4, a5, a6⟩ := unhide HR1 w' hSw; go_simp; first | done | rfl)⟩) (unhide HS0) ?_
                          go_simp
                          refine wpAnyH_take (i := 4) (oi := _) (v := .int .i64 (i : Int)) rfl (by kernel_rfl) (by kernel_rfl) (by kernel_rfl) (fun _ _ _ h => h) (Or.inl ⟨by rfl, (by intro w' hSw; go_simp; first | done | rfl)⟩) (unhide HS0) ?_
                          go_simp
                          refine wpAnyH_take (i := 5) (oi := _) (v := .pointer (some ⟨ra, ro + i, none⟩)) rfl (by kernel_rfl) (by kernel_rfl) (by kernel_rfl) (fun _ _ _ h => h) (Or.inl ⟨by rfl, (by intro w' hSw; go_simp; first | done | rfl)⟩) (unhide HS0) ?_
                          go_simp
                          refine wpAnyH_take (i := 6) (oi := _) (v := .slice (some ⟨g, go, none⟩) 512 gc) rfl (by kernel_rfl) (by kernel_rfl) (by kernel_rfl) (fun _ _ _ h => h) (Or.inl ⟨by rfl, (by intro w' hSw; obtain ⟨a1, a2, a3, a4, a5, a6⟩ := unhide HR1 w' hSw; go_simp; first | done | rfl)⟩) (unhide HS0) ?_
                          go_simp
                          refine wpAnyH_take (i := 7) (oi := _) (v := .int .i64 (r : Int)) rfl (by kernel_rfl) (by kernel_rfl) (by kernel_rfl) (fun _ _ _ h => h) (Or.inl ⟨by rfl, (by intro w' hSw; go_simp; first | done | rfl)⟩) (unhide HS0) ?_
                          go_simp
                          refine wpAnyH_take (i := 8) (oi := _) (v := .pointer (some ⟨g, go + r, none⟩)) rfl (by kernel_rfl) (by kernel_rfl) (by kernel_rfl) (fun _ _ _ h => h) (Or.inl ⟨by rfl, (by intro w' hSw; go_simp; first | done | rfl)⟩) (unhide HS0) ?_
                          go_simp
                          refine wpAnyH_take (i := 9) (oi := _) (v := .bool false) rfl (by kernel_rfl) (by kernel_rfl) (by kernel_rfl) (fun _ _ _ h => h) (Or.inl ⟨by rfl, (by intro w' hSw; obtain ⟨a1, a2, a3, a4, a5, a6⟩ := unhide HR1 w' hSw; go_simp; first | done | rfl)⟩) (unhide HS0) ?_
                          go_simp
                          refine wpAnyH_take (i := 10) (oi := _) (v := .bool true) rfl (by kernel_rfl) (by kernel_rfl) (by kernel_rfl) (fun _ _ _ h => h) (Or.inl ⟨by rfl, (by intro w' hSw; go_simp; first | done | rfl)⟩) (unhide HS0) ?_
                          go_simp
                          refine wpAnyH_take (i := 11) (oi := _) (v := .bool true) rfl (by kernel_rfl) (by kernel_rfl) (by kernel_rfl) (fun _ _ _ h => h) (Or.inl ⟨by rfl, (by intro w' hSw; go_simp; first | done | rfl)⟩) (unhide HS0) ?_
                          go_simp
                          refine wpAnyH_take (i := 12) (oi := _) (v := .pointer (some ⟨w.heap.size, 2, none⟩)) rfl (by kernel_rfl) (by kernel_rfl) (by kernel_rfl) (fun _ _ _ h => h) (Or.inl ⟨by rfl, (by intro w' hSw; go_simp; first | done | rfl)⟩) (unhide HS0) ?_
                          go_simp
                          refine wpAnyH_take (i := 13) (oi := _) (v := .slice (some ⟨vb, vo, none⟩) N vc) rfl (by kernel_rfl) (by kernel_rfl) (by kernel_rfl) (fun _ _ _ h => h) (Or.inl ⟨by rfl, (by intro w' hSw; obtain ⟨q1, q2, q3, q4, q5, q6, q7, q8, q9, q10, q11, q12, q13, q14⟩ := unhide HR2 w' hSw; go_simp; first | done | rfl)⟩) (unhide HS0) ?_
                          go_simp
                          refine wpAnyH_take (i := 14) (oi := _) (v := .int .i64 (b : Int)) rfl (by kernel_rfl) (by kernel_rfl) (by kernel_rfl) (fun _ _ _ h => h) (Or.inl ⟨by rfl, (by intro w' hSw; go_simp; first | done | rfl)⟩) (unhide HS0) ?_
                          go_simp
                          refine wpAnyH_take (i := 15) (oi := _) (v := .pointer (some ⟨vb, vo + b * 3, none⟩)) rfl (by kernel_rfl) (by kernel_rfl) (by kernel_rfl) (fun _ _ _ h => h) (Or.inl ⟨by rfl, (by intro w' hSw; go_simp; first | done | rfl)⟩) (unhide HS0) ?_
                          go_simp
                          refine wpAnyH_take (i := 16) (oi := _) (v := .pointer (some ⟨vb, vo + b * 3 + 1, none⟩)) rfl (by kernel_rfl) (by kernel_rfl) (by kernel_rfl) (fun _ _ _ h => h) (Or.inl ⟨by rfl, (by intro w' hSw; go_simp; first | done | rfl)⟩) (unhide HS0) ?_
                          go_simp
                          refine wpAnyH_take (i := 17) (oi := _) (v := .slice (some ⟨ib, io, none⟩) n ic) rfl (by kernel_rfl) (by kernel_rfl) (by kernel_rfl) (fun _ _ _ h => h) (Or.inl ⟨by rfl, (by intro w' hSw; obtain ⟨q1, q2, q3, q4, q5, q6, q7, q8, q9, q10, q11, q12, q13, q14⟩ := unhide HR2 w' hSw; go_simp; first | done | rfl)⟩) (unhide HS0) ?_
                          go_simp
                          refine wpAnyH_take (i := 18) (oi := _) (v := .int .i64 (i : Int)) rfl (by kernel_rfl) (by kernel_rfl) (by kernel_rfl) (fun _ _ _ h => h) (Or.inl ⟨by rfl, (by intro w' hSw; go_simp; first | done | rfl)⟩) (unhide HS0) ?_
                          go_simp
                          refine wpAnyH_take (i := 19) (oi := _) (v := .pointer (some ⟨ib, io + i * 8, none⟩)) rfl (by kernel_rfl) (by kernel_rfl) (by kernel_rfl) (fun _ _ _ h => h) (Or.inl ⟨by rfl, (by intro w' hSw; go_simp; first | done | rfl)⟩) (unhide HS0) ?_
                          go_simp
                          refine wpAnyH_take (i := 20) (oi := _) (v := .agg #[.int .i64 x.op, .int .i64 x.code, .int .i64 x.dst, .slice aa AL ac, .int .i64 x.n, .int .i64 x.pc, .int .i64 x.need, .slice ea EL ec]) rfl (by kernel_rfl) (by kernel_rfl) (by kernel_rfl) (fun _ _ _ h => h) (Or.inl ⟨by rfl, (by intro w' hSw; obtain ⟨q1, q2, q3, q4, q5, q6, q7, q8, q9, q10, q11, q12, q13, q14⟩ := unhide HR2 w' hSw; go_simp; first | done | rfl)⟩) (unhide HS0) ?_
                          go_simp
                          refine wpAnyH_take (i := 21) (oi := _) (v := .slice (some ⟨tb, tof, none⟩) N tc) rfl (by kernel_rfl) (by kernel_rfl) (by kernel_rfl) (fun _ _ _ h => h) (Or.inl ⟨by rfl, (by intro w' hSw; go_simp; first | done | rfl)⟩) (unhide HS0) ?_
                          go_simp
                          refine wpAnyH_take (i := 22) (oi := _) (v := .int .i64 (b : Int)) rfl (by kernel_rfl) (by kernel_rfl) (by kernel_rfl) (fun _ _ _ h => h) (Or.inl ⟨by rfl, (by intro w' hSw; go_simp; first | done | rfl)⟩) (unhide HS0) ?_
                          go_simp
                          refine wpAnyH_take (i := 23) (oi := _) (v := .pointer (some ⟨tb, tof + b, none⟩)) rfl (by kernel_rfl) (by kernel_rfl) (by kernel_rfl) (fun _ _ _ h => h) (Or.inl ⟨by rfl, (by intro w' hSw; go_simp; first | done | rfl)⟩) (unhide HS0) ?_
                          go_simp
                          refine wpAnyH_take (i := 24) (oi := _) (v := .slice (some ⟨ra, ro, none⟩) (n + 1) rc) rfl (by kernel_rfl) (by kernel_rfl) (by kernel_rfl) (fun _ _ _ h => h) (Or.inl ⟨by rfl, (by intro w' hSw; obtain ⟨a1, a2, a3, a4, a5, a6⟩ := unhide HR1 w' hSw; go_simp; first | done | rfl)⟩) (unhide HS0) ?_
                          go_simp
                          refine wpAnyH_take (i := 25) (oi := _) (v := .int .i64 (i : Int)) rfl (by kernel_rfl) (by kernel_rfl) (by kernel_rfl) (fun _ _ _ h => h) (Or.inl ⟨by rfl, (by intro w' hSw; go_simp; first | done | rfl)⟩) (unhide HS0) ?_
                          go_simp
                          refine wpAnyH_take (i := 26) (oi := _) (v := .int .i64 (i1 : Int)) rfl (by kernel_rfl) (by kernel_rfl) (by kernel_rfl) (fun _ _ _ h => h) (Or.inl ⟨by rfl, (by intro w' hSw; go_simp; first | done | rfl)⟩) (unhide HS0) ?_
                          go_simp
                          refine wpAnyH_take (i := 27) (oi := _) (v := .pointer (some ⟨ra, ro + i1, none⟩)) rfl (by kernel_rfl) (by kernel_rfl) (by kernel_rfl) (fun _ _ _ h => h) (Or.inl ⟨by rfl, (by intro w' hSw; go_simp; first | done | rfl)⟩) (unhide HS0) ?_
                          go_simp
                          refine wpAnyH_take (i := 28) (oi := _) (v := .slice (some ⟨g1, go1, none⟩) 512 gc1) rfl (by kernel_rfl) (by kernel_rfl) (by kernel_rfl) (fun _ _ _ h => h) (Or.inl ⟨by rfl, (by intro w' hSw; obtain ⟨z1, z2⟩ := unhide HR3 w' hSw; go_simp; first | done | rfl)⟩) (unhide HS0) ?_
                          go_simp
                          refine wpAnyH_take (i := 29) (oi := _) (v := .int .i64 (r : Int)) rfl (by kernel_rfl) (by kernel_rfl) (by kernel_rfl) (fun _ _ _ h => h) (Or.inl ⟨by rfl, (by intro w' hSw; go_simp; first | done | rfl)⟩) (unhide HS0) ?_
                          go_simp
                          refine wpAnyH_ready (rs := [30]) (by kernel_rfl) (by simp) ?_
                          refine AllReadyH.cons (o := _) rfl (fun K hK => ?_) AllReadyH.nil
                          go_simp
                          refine (unhide HRU _ (unhide HS0)).mono ?_
                          rintro e Y ⟨rfl, hY⟩
                          have HY : Hid (Below wr.heap.size wr Y) := (unhide HS0).trans hY
                          refine hK.out _ _ (unhide HY) (fun hHeld => ?_)
                          clear hHeld hK K hY
                          refine wpAnyH_take (i := 31) (oi := _) (v := .bool false) rfl (by kernel_rfl) (by kernel_rfl) (by kernel_rfl) (fun _ _ _ h => h) (Or.inl ⟨by rfl, (by intro w' hSw; go_simp; first | done | rfl)⟩) (unhide HY) ?_
                          go_simp
                          refine wpAnyH_done (by kernel_rfl) ?_ _
                          have HM2 : Hid (Fr Z X2 Y ∧ TM Z Y (.slice (some ⟨tb, tof, none⟩) N tc) uss ts) := ⟨(unhide hMem).1.trans (Fr.of_below (unhide HY)), TM.on (unhide hMem).2 (unhide HY)⟩
                          clear HR1 HR2 HR3 HS0 HRU hI hMem
                          go_wp2_with fail
                          go_roundg (gk - 1)
                          case measure => have := unhide hm; omega
                          case rel => exact ⟨m + 1, ag, uss, by have := unhide hm; unfold Hid; omega, by rw [show (i : Int) - 1 = (n : Int) - 1 - ((m + 1 : Nat) : Int) by omega], rfl, HI2, HM2⟩

                    · have hmN : m = n := by have := unhide hm; omega
                      have i1 : ¬ (0 : Int) ≤ (n : Int) - 1 - (m : Int) := by omega
                      have HI2 : Hid (FI bl uss0 ag uss ∧ (ag = false → DB bl uss0 N j) ∧ (ag = false → DK uss0 rl u b (k + 1))) := ⟨(unhide hI).1, (unhide hI).2.1, fun e => DK_next (unhide HKR) (unhide hnn) ((unhide hI).2.2.1 e) (by have q := (unhide hI).2.2.2 e; rw [hmN] at q; exact q)⟩
                      clear hmN hI
                      go_wp2_with fail
                      go_roundg (RL - (k + 1))
                      case measure => have := unhide hk; omega
                      case rel => exact ⟨k + 1, ag, uss, by have := unhide hk; unfold Hid; omega, by go_num, rfl, HI2, hMem⟩


            · have hkE : k = RL := by have := unhide hk; omega
              have k1 : ¬ (k : Int) < (RL : Int) := by omega
              have HI2 : Hid (FI bl uss0 ag uss ∧ (ag = false → DB bl uss0 N (j + 1))) := ⟨(unhide hI).1, fun e => DB_next (unhide HU) hb' hjN (unhide HRM) ((unhide hI).2.1 e) (by have q := (unhide hI).2.2 e; rw [hkE, ← unhide hRL] at q; exact q)⟩
              have wb1 : IntKind.i64.wrap ((b : Int) - 1) = (b : Int) - 1 := by go_arith
              clear hkE hI c0 c1 c2 cl hrow hbel
              go_wp2_with fail
              go_roundg (N - (j + 1))
              case measure => have := unhide hj; omega
              case rel => exact ⟨j + 1, ag, uss, by have := unhide hj; unfold Hid; omega, by rw [show (b : Int) - 1 = (N : Int) - 1 - ((j + 1 : Nat) : Int) by omega], rfl, HI2, hMem⟩
        · have hjE : j = N := by have := unhide hj; omega
          have j1 : ¬ (0 : Int) ≤ (N : Int) - 1 - (j : Int) := by omega
          have HI2 : Hid (Shp bl uss ∧ TSnd bl (isReg bl) (tab uss) ∧ (ag = true → cnt uss < G0) ∧ (ag = false → DB bl uss N N)) := ⟨(unhide hI).1.shp, (unhide hI).1.snd, fun e => by have h1 := (unhide hI).1.yes e; have h2 := unhide HG1; omega, fun e => by have h1 := (unhide hI).2 e; rw [hjE] at h1; rw [(unhide hI).1.no e]; exact h1⟩
          clear hjE hI c0 c1 c2 cl hbel
          go_wp2_with fail
          go_roundg G0
          case measure => have h1 := unhide HG1; omega
          case rel => exact ⟨ag, uss, rfl, HI2, hMem⟩
end Go.Proofs.YtpbdmbmafjkinaaDoor
