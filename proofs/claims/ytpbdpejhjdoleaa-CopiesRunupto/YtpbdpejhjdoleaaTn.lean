/-
  A block's list, what is known asked for at its source.
-/
import Derived.Test.YtpbdpejhjdoleaaIn2
import Derived.Laws.MakeOwn
namespace Go.Proofs.Ytpbdpejhjdoleaa
open Go.RowKit
set_option linter.unusedVariables false
set_option linter.unusedSimpArgs false
theorem OW.made (w : World) (N : Nat) (arr : Array Value) (hs : arr.size = N * 8) (hN : N ≤ maxLen) : OW enT 8 InT blT (fun q => w.heap.size ≤ q) (w.alloc (.cells arr 50)) (.slice (some ⟨w.heap.size, 0, none⟩) 0 N) [] [] :=
  ⟨rfl, ⟨by simp [flt], .inr ⟨_, 0, N, arr, 50, rfl, heap_alloc_new w _, by simp, hN, by omega, fun j hj => by simp at hj⟩⟩, fun k hk => by cases hk; exact Nat.le_refl _, fun i u x h => by simp at h, fun i x k h => by simp at h, fun i j x y k _ h => by simp at h⟩
theorem set2 {w : World} {p : Nat} {c0 c1 c2 c3 c4 c5 c6 c7 u v : Value} {t : TypeId} (h : w.heap[p]? = some (.cells #[c0, c1, c2, c3, c4, c5, c6, c7] t)) :
    ((w.setCell ⟨p, 3, none⟩ u).setCell ⟨p, 7, none⟩ v).heap[p]? = some (.cells #[c0, c1, c2, u, c4, c5, c6, v] t) := by
  have h1 := setCell_block (g := p) (o := 3) h u
  have h2 := setCell_block (g := p) (o := 7) h1 v
  rw [h2]
  simp
theorem fltT (ts : List TI) : flt enIn (ts.map Prod.fst) = flt enT ts := by simp only [flt, List.flatMap_map]; rfl
set_option maxRecDepth 100000 in
set_option maxHeartbeats 12800000 in
theorem turned_any {w : World} {b : Nat} {D : Nat → Prop} {l : List RIn} {v : Value} (h : InsV D w l v) (hD : ∀ k, k < w.heap.size → D k → k ≠ b) (hm : MfW w b 0 f0) (ho : ∀ x ∈ l, OkI x) (hN : l.length ≤ 1048576)
    (hM : ∀ x ∈ l, x.args.length ≤ 1048576 ∧ x.ex.length ≤ 1048576 ∧ ∀ s ∈ x.ex, s.sl.length ≤ 1048576) :
    Calls Try.prog 25 #[.map (some b), v] w fun e w' => ∃ lv ts, e = .returned lv ∧ TS w b l l.length lv ts w' := by
  obtain ⟨a, c, ev, ha1, ha2⟩ := NV.shape h
  subst ev
  have hbw := hm.lt
  have HI := hide h
  have HD := hide hD
  have HM0 := hide hm
  have HOK := hide ho
  have HMM := hide hM
  clear h hD hm ho hM
  obtain ⟨L, hL⟩ : ∃ L, Hid (l.length = L) := ⟨_, hide rfl⟩
  rw [unhide hL] at HI hN ha1 ⊢
  unfold maxLen at ha2
  have hmk : ∀ W : World, (Instr.makeSlice 40 (.int .i64 0) (.int .i64 (L : Int))).run Try.prog W = .ok (.slice (some ⟨W.heap.size, 0, none⟩) 0 L) (W.alloc (.cells (madeCells (Value.agg #[.int .i64 0, .int .i64 0, .int .i64 0, .slice none 0 0, .int .i64 0, .int .i64 0, .int .i64 0, .slice none 0 0]).cells (L * 8)) 50)) := fun W => by
    obtain ⟨i0, hi0, hz0, hz1, hz2⟩ := info_parts infIn
    have := run_make (P := Try.prog) W 40 50 i0 _ Try.underlying40 hi0 hz0 .i64 .i64 0 (L : Int) (by omega) (by omega) (by rw [hz2]; omega) (by omega)
    rw [hz1] at this
    simpa using this
  obtain ⟨arr, harr⟩ : ∃ A, Hid (madeCells (Value.agg #[.int .i64 0, .int .i64 0, .int .i64 0, .slice none 0 0, .int .i64 0, .int .i64 0, .int .i64 0, .slice none 0 0]).cells (L * 8) = A) := ⟨_, hide rfl⟩
  have hars : arr.size = L * 8 := by rw [← unhide harr]; simp [madeCells]
  rw [unhide harr] at hmk
  have HTS : Hid (TS w b l 0 (.slice (some ⟨w.heap.size, 0, none⟩) 0 L) [] (w.alloc (.cells arr 50))) := ⟨Fr.of_below (box1n w _), OW.made w L arr hars (by unfold maxLen; omega), (unhide HM0).fr (Fr.of_below (S := fun _ => False) (box1n w _)) (fun q => q)⟩
  clear harr hars
  go_enter Try.func25, Try.ntmps25
  go_wp2_with fail
  clear hmk
  go_loopg [15, 5] L (fun gg t15 t5 wr => ∃ (k : Nat) (lv : Value) (ts : List TI), Hid (k + gg = L) ∧ t15 = .int .i64 (k : Int) ∧ t5 = lv ∧ Hid (TS w b l k lv ts wr))
  case atStart => exact ⟨0, _, [], by unfold Hid; omega, rfl, rfl, HTS⟩
  case round =>
    clear HTS
    obtain ⟨k, lv, ts, hk, rfl, rfl, hS⟩ := hrel
    by_cases hlt : k < L
    case neg =>
      have hkL : k = L := by have := unhide hk; omega
      subst hkL
      have i1 : ¬ (k : Int) < (k : Int) := by omega
      go_wp2_with fail
      go_ret
      first | exact ⟨_, ts, rfl, unhide hS⟩ | exact ⟨ts, unhide hS⟩ | exact ⟨_, rfl, ts, unhide hS⟩
    have i0 : (0 : Int) ≤ (k : Int) := by omega
    have i1 : (k : Int) < (L : Int) := by omega
    obtain ⟨x, hx⟩ : ∃ s, l[k]? = some s := ⟨_, List.getElem?_eq_getElem (by rw [unhide hL]; exact hlt)⟩
    have hxm := List.mem_of_getElem? hx
    obtain ⟨gb, goff, gc, r, eg, hgb, hgD, hP, hcells⟩ := NV.at zIn (show NV enIn 8 InP D w l (.slice a L c) from unhide HI) hx
    rw [unhide hL] at eg
    obtain ⟨e5, e6⟩ : a = some ⟨gb, goff, none⟩ ∧ c = gc := by cases eg; exact ⟨rfl, rfl⟩
    subst e5
    subst e6
    clear eg
    have hgne := unhide HD gb hgb hgD
    have HXP : Hid (∀ W, Below wr.heap.size wr W → InP (fun q => q ≠ b) W x r) := fun W hW => InP.mv _ _ _ _ _ _ _ hP ((unhide hS).fr.trans (Fr.of_below hW)) (fun q hq e => ⟨unhide HD q hq e, unhide HD q hq e⟩)
    have hfr := (unhide hS).fr
    have hsw := hfr.size
    obtain ⟨rop, rcode, rdst, av, rn, rpc, rneed, ev⟩ := r
    obtain ⟨p1, p2, p3, p4, p5, p6, p7, p8⟩ := hP
    simp only at p1 p2 p3 p4 p5 p6 p7 p8
    obtain ⟨aa, ac, ea1, hb1, hb2⟩ := p7.1.shape
    obtain ⟨ea, ec, ee1, hc1, hc2⟩ := NV.shape p8
    subst p1 p2 p3 p4 p5 p6 ea1 ee1
    obtain ⟨AL, hAL⟩ : ∃ z, Hid (x.args.length = z) := ⟨_, hide rfl⟩
    obtain ⟨EL, hEL⟩ : ∃ z, Hid (x.ex.length = z) := ⟨_, hide rfl⟩
    rw [unhide hAL] at hb1 HXP hcells
    rw [unhide hEL] at hc1 HXP hcells
    unfold maxLen at hb2 hc2
    have gl : gb < wr.heap.size := by omega
    have cells : ∀ j u, (enIn ⟨x.op, x.code, x.dst, .slice aa AL ac, x.n, x.pc, x.need, .slice ea EL ec⟩)[j]? = some u → wr.cell? ⟨gb, goff + k * 8 + j, none⟩ = some u := fun j u hu => (hfr.cell (a := ⟨gb, goff + k * 8 + j, none⟩) hgb hgne).trans (hcells j u hu)
    have g0 := cells 0 _ rfl
    have g1 := cells 1 _ rfl
    have g2 := cells 2 _ rfl
    have g3 := cells 3 _ rfl
    have g4 := cells 4 _ rfl
    have g5 := cells 5 _ rfl
    have g6 := cells 6 _ rfl
    have g7 := cells 7 _ rfl
    simp only [Nat.add_zero] at g0
    clear cells hcells p7 p8 hfr hgD
    obtain ⟨f, hf⟩ : ∃ f, Hid ((trn (l.take k)).1 = f) := ⟨_, hide rfl⟩
    have htok := trn_ok (l := l.take k) (fun y hy => unhide HOK y (List.mem_of_mem_take hy))
    have HOF : Hid (OkF f) := by rw [← unhide hf]; exact htok.1
    have hlen : (trn (l.take k)).2.length ≤ k := Nat.le_trans htok.2.2 (by rw [List.length_take]; omega)
    have HMF : Hid (∀ W, Below wr.heap.size wr W → MfW W b k f) := fun W hW => by rw [← unhide hf]; exact (unhide hS).mp.fr (Fr.of_below (S := fun _ => False) hW) (fun q => q)
    have HOX := hide (unhide HOK x hxm)
    have HMX := hide (unhide HMM x hxm)
    have HX := hide hx
    clear hx hxm htok
    go_wp2_with fail
    clear g0 g1 g2 g3 g4 g5 g6 g7
    obtain ⟨P, hP⟩ : ∃ P, Hid (wr.heap.size = P) := ⟨_, hide rfl⟩
    have HB1 := hide (box1n wr (.cells #[.int .i64 x.op, .int .i64 x.code, .int .i64 x.dst, .slice aa AL ac, .int .i64 x.n, .int .i64 x.pc, .int .i64 x.need, .slice ea EL ec] 50))
    obtain ⟨V, hV⟩ : ∃ V, Hid ((wr.alloc (.cells #[.int .i64 x.op, .int .i64 x.code, .int .i64 x.dst, .slice aa AL ac, .int .i64 x.n, .int .i64 x.pc, .int .i64 x.need, .slice ea EL ec] 50)).drew = V) := ⟨_, hide rfl⟩
    have HBV : Hid (Below wr.heap.size wr V) := by rw [← unhide hV]; exact (unhide HB1).trans ⟨rfl, rfl, rfl, Nat.le_refl _, fun _ _ => rfl⟩
    have HPV : Hid (V.heap[P]? = some (.cells #[.int .i64 x.op, .int .i64 x.code, .int .i64 x.dst, .slice aa AL ac, .int .i64 x.n, .int .i64 x.pc, .int .i64 x.need, .slice ea EL ec] 50)) := by rw [← unhide hV, ← unhide hP]; exact heap_alloc_new wr _
    have hPV : V.heap.size = P + 1 := by rw [← unhide hV, ← unhide hP]; exact World.size_alloc _ _
    have HPZ := hide hPV
    clear hPV HB1
    have HS0 : Hid (V.cell? ⟨P, 3, none⟩ = some (.slice aa AL ac) ∧ V.cell? ⟨P, 7, none⟩ = some (.slice ea EL ec)) := ⟨(blk_cells (unhide HPV)).1 3, (blk_cells (unhide HPV)).1 7⟩
    refine wp_region_later (S := fun W => W.cell? ⟨P, 3, none⟩ = some (.slice aa AL ac) ∧ W.cell? ⟨P, 7, none⟩ = some (.slice ea EL ec)) (m := 9) (by kernel_rfl) ?_
    rw [unhide hV, unhide hP]
    clear hV
    refine wpAnyL_takeU (i := 0) (oi := _) (v := .map (some b)) rfl (by kernel_rfl) (by kernel_rfl) (by kernel_rfl) (by decide) (fun _ _ _ h => h) (Or.inl ⟨by rfl, (by intro w' _; go_simp)⟩) (fun _ => unhide HS0) ?_
    go_simp
    refine wpAnyL_takeU (i := 1) (oi := _) (v := .pointer (some ⟨P, 3, none⟩)) rfl (by kernel_rfl) (by kernel_rfl) (by kernel_rfl) (by decide) (fun _ _ _ h => h) (Or.inl ⟨by rfl, (by intro w' _; go_simp)⟩) (fun _ => unhide HS0) ?_
    go_simp
    refine wpAnyL_take (i := 2) (oi := _) (om := _) (v := .slice aa AL ac) rfl rfl (by kernel_rfl) (by kernel_rfl) (by kernel_rfl) (by kernel_rfl) (by decide) (by kernel_rfl) (fun _ _ _ h => h) (Or.inl ⟨by rfl, (by intro w' hSw; obtain ⟨s3, s7⟩ := hSw; go_simp)⟩) (unhide HS0) ?_
    go_simp
    refine wpAnyL_takeU (i := 4) (oi := _) (v := .map (some b)) rfl (by kernel_rfl) (by kernel_rfl) (by kernel_rfl) (by decide) (fun _ _ _ h => h) (Or.inl ⟨by rfl, (by intro w' _; go_simp)⟩) (fun _ => unhide HS0) ?_
    go_simp
    refine wpAnyL_takeU (i := 5) (oi := _) (v := .pointer (some ⟨P, 7, none⟩)) rfl (by kernel_rfl) (by kernel_rfl) (by kernel_rfl) (by decide) (fun _ _ _ h => h) (Or.inl ⟨by rfl, (by intro w' _; go_simp)⟩) (fun _ => unhide HS0) ?_
    go_simp
    refine wpAnyL_take (i := 6) (oi := _) (om := _) (v := .slice ea EL ec) rfl rfl (by kernel_rfl) (by kernel_rfl) (by kernel_rfl) (by kernel_rfl) (by decide) (by kernel_rfl) (fun _ _ _ h => h) (Or.inl ⟨by rfl, (by intro w' hSw; obtain ⟨s3, s7⟩ := hSw; go_simp)⟩) (unhide HS0) ?_
    go_simp
    have HC3 := hide (sources_any (unhide HXP V (unhide HBV)).2.2.2.2.2.2.1 (unhide HMF V (unhide HBV)) (unhide HOF) (unhide HOX).2.1 (unhide HMX).1)
    refine wpAnyL_one (i := 3) (o := _) (by kernel_rfl) rfl (fun K hK => ?_)
    go_simp
    refine (unhide HC3).mono ?_
    rintro e w3 ⟨ua, rfl, hG3⟩
    have HG3 := hide hG3
    have HB3 := hide hG3.2.1
    obtain ⟨uaa, uac, eua, -, -⟩ := hG3.1.shape
    rw [List.length_map, unhide hAL] at eua
    subst eua
    have HP3 : Hid (w3.heap[P]? = some (.cells #[.int .i64 x.op, .int .i64 x.code, .int .i64 x.dst, .slice aa AL ac, .int .i64 x.n, .int .i64 x.pc, .int .i64 x.need, .slice ea EL ec] 50)) := ((unhide HB3).block P (by rw [unhide HPZ]; omega)).trans (unhide HPV)
    have HS3 : Hid (w3.cell? ⟨P, 3, none⟩ = some (.slice aa AL ac) ∧ w3.cell? ⟨P, 7, none⟩ = some (.slice ea EL ec)) := ⟨(blk_cells (unhide HP3)).1 3, (blk_cells (unhide HP3)).1 7⟩
    clear hG3 HC3
    refine hK.out _ _ (fun _ => unhide HS3) ?_
    clear hK K
    go_simp
    have HC7 := hide (shapes_any (unhide HXP w3 (bl_past (unhide HBV) (unhide HB3))).2.2.2.2.2.2.2 (unhide HMF w3 (bl_past (unhide HBV) (unhide HB3))) (unhide HOF) (unhide HOX).2.2 (unhide HMX).2.1 (unhide HMX).2.2)
    refine wpAnyL_takeU (i := 8) (oi := _) (v := .pointer (some ⟨P, 3, none⟩)) rfl (by kernel_rfl) (by kernel_rfl) (by kernel_rfl) (by decide) (fun _ _ _ h => h) (Or.inl ⟨by rfl, (by intro w' _; go_simp)⟩) (fun _ => unhide HS3) ?_
    go_simp
    refine wpAnyL_one (i := 7) (o := _) (by kernel_rfl) rfl (fun K hK => ?_)
    go_simp
    refine (unhide HC7).mono ?_
    rintro e w4 ⟨ue, rs0, rs, rfl, hG4⟩
    have HG4 := hide hG4
    have HB4 := hide hG4.bl
    obtain ⟨uea, uec, eue, -, -⟩ := hG4.row.shape
    rw [List.length_map, unhide hEL] at eue
    subst eue
    have HP4 : Hid (w4.heap[P]? = some (.cells #[.int .i64 x.op, .int .i64 x.code, .int .i64 x.dst, .slice aa AL ac, .int .i64 x.n, .int .i64 x.pc, .int .i64 x.need, .slice ea EL ec] 50)) := ((unhide HB4).block P (by have := (unhide HB3).size; rw [unhide HPZ] at this; omega)).trans (unhide HP3)
    have HS4 : Hid (w4.cell? ⟨P, 3, none⟩ = some (.slice aa AL ac) ∧ w4.cell? ⟨P, 7, none⟩ = some (.slice ea EL ec)) := ⟨(blk_cells (unhide HP4)).1 3, (blk_cells (unhide HP4)).1 7⟩
    clear hG4 HC7
    refine hK.out _ _ (fun _ => unhide HS4) ?_
    clear hK K
    go_simp
    have s3 := (unhide HS4).1
    have s3f : w4.frozen? ⟨P, 3, none⟩ = false := (blk_cells (unhide HP4)).2.1 3
    refine wpAnyL_one (i := 9) (o := _) (by kernel_rfl) rfl (fun K hK => ?_)
    go_simp
    refine hK.out _ _ (fun h => absurd h (by simp)) ?_
    clear hK K
    go_simp
    refine wpAnyL_takeU (i := 10) (oi := _) (v := .pointer (some ⟨P, 7, none⟩)) rfl (by kernel_rfl) (by kernel_rfl) (by kernel_rfl) (by decide) (fun _ _ _ h => h) (Or.inl ⟨by rfl, (by intro w' _; go_simp)⟩) (fun h => absurd h (by simp)) ?_
    go_simp
    have h7 := setCell_block (g := P) (o := 3) (unhide HP4) (.slice uaa AL uac)
    have s7 : (w4.setCell ⟨P, 3, none⟩ (.slice uaa AL uac)).cell? ⟨P, 7, none⟩ = some (.slice ea EL ec) := by
      obtain ⟨q1, q2, q3⟩ := blk_cells h7
      rw [q1]
      simp
    have s7f : (w4.setCell ⟨P, 3, none⟩ (.slice uaa AL uac)).frozen? ⟨P, 7, none⟩ = false := (blk_cells h7).2.1 7
    clear h7 s3 s3f
    refine wpAnyL_one (i := 11) (o := _) (by kernel_rfl) rfl (fun K hK => ?_)
    go_simp
    refine hK.out _ _ (fun h => absurd h (by simp)) ?_
    clear hK K
    go_simp
    refine wpAnyL_done (by kernel_rfl) ?_ _
    clear s7 s7f
    obtain ⟨W5, hW5⟩ : ∃ W, Hid ((w4.setCell ⟨P, 3, none⟩ (.slice uaa AL uac)).setCell ⟨P, 7, none⟩ (.slice uea EL uec) = W) := ⟨_, hide rfl⟩
    have HP5 : Hid (W5.heap[P]? = some (.cells #[.int .i64 x.op, .int .i64 x.code, .int .i64 x.dst, .slice uaa AL uac, .int .i64 x.n, .int .i64 x.pc, .int .i64 x.need, .slice uea EL uec] 50)) := by rw [← unhide hW5]; exact set2 (unhide HP4)
    have F45 : Hid (Fr (fun q => q = P) w4 W5) := by rw [← unhide hW5]; exact Fr.setCell (S := fun q => q = P) (Fr.setCell (S := fun q => q = P) (Fr.refl _ w4) ⟨P, 3, none⟩ (.inr rfl) _) ⟨P, 7, none⟩ (.inr rfl) _
    have HT4 := CpS.inT (u := inF f x) (x := ⟨x.op, x.code, x.dst, .slice uaa AL uac, x.n, x.pc, x.need, .slice uea EL uec⟩) (unhide HG3) (show CpS w3 (inF f x).ex rs0 (.slice uea EL uec) (inF f x).ex.length rs w4 by
      have q := unhide HG4
      unfold inF
      rw [List.length_map]
      exact q) ⟨rfl, rfl, rfl, rfl, rfl, rfl⟩ rfl rfl
    have HN5 : Hid (∀ q, blT (⟨x.op, x.code, x.dst, .slice uaa AL uac, x.n, x.pc, x.need, .slice uea EL uec⟩, rs) q → P + 1 ≤ q ∧ q < W5.heap.size) := fun q hq => ⟨by have := (HT4.2 q hq).1; rw [unhide HPZ] at this; exact this, by have := (HT4.2 q hq).2; have := (unhide F45).size; omega⟩
    have HT5 : Hid (InT W5 (inF f x) (⟨x.op, x.code, x.dst, .slice uaa AL uac, x.n, x.pc, x.need, .slice uea EL uec⟩, rs)) := stayT _ _ _ _ _ HT4.1 (unhide F45) (fun q hq e => by have := (unhide HN5 q hq).1; omega)
    have HB5 : Hid (Below wr.heap.size wr W5) := (bl_past (bl_past (unhide HBV) (unhide HB3)) (unhide HB4)).trans ((unhide F45).below (by have := (bl_past (bl_past (unhide HBV) (unhide HB3)) (unhide HB4)).size; exact this) (fun q hq e => by have := unhide hP; omega))
    clear HT4 HG3 HG4 HP4 HP3 HPV HS0 HS3 HS4 F45
    rw [unhide hW5]
    clear hW5
    have HC6 := hide (moved_any (unhide HT5).inP)
    unfold inV at HC6
    dsimp only at HC6
    obtain ⟨mo, hmo⟩ : ∃ z, Hid (mvd (inF f x) = z) := ⟨_, hide rfl⟩
    rw [unhide hmo] at HC6
    obtain ⟨OL, hOL⟩ : ∃ z, Hid ((trn (l.take k)).2.length = z) := ⟨_, hide rfl⟩
    obtain ⟨la, lc, elv, hla, hlc⟩ := (unhide hS).ow.row.shape
    rw [unhide hOL] at elv hla hlen
    subst elv
    unfold maxLen at hlc
    obtain ⟨z0, z1, z2, z3, z4, z5, z6, z7, zl⟩ : W5.cell? ⟨P, 0, none⟩ = some (.int .i64 x.op) ∧ W5.cell? ⟨P, 1, none⟩ = some (.int .i64 x.code) ∧ W5.cell? ⟨P, 2, none⟩ = some (.int .i64 x.dst) ∧ W5.cell? ⟨P, 3, none⟩ = some (.slice uaa AL uac) ∧ W5.cell? ⟨P, 4, none⟩ = some (.int .i64 x.n) ∧ W5.cell? ⟨P, 5, none⟩ = some (.int .i64 x.pc) ∧ W5.cell? ⟨P, 6, none⟩ = some (.int .i64 x.need) ∧ W5.cell? ⟨P, 7, none⟩ = some (.slice uea EL uec) ∧ P < W5.heap.size := by
      obtain ⟨q1, q2, q3⟩ := blk_cells (unhide HP5)
      exact ⟨q1 0, q1 1, q1 2, q1 3, q1 4, q1 5, q1 6, q1 7, q3⟩
    go_wp2_with fail
    clear z0 z1 z2 z3 z4 z5 z6 z7 zl
    cases mo with
    | none =>
      unfold opV mvO at HC6
      simp only [Option.isSome] at HC6
      refine (unhide HC6).mono ?_
      rintro e w6 ⟨rfl, b6⟩
      obtain ⟨QQ, hQ⟩ : ∃ z, Hid (w6.heap.size = z) := ⟨_, hide rfl⟩
      have HQP : Hid (P + 1 ≤ QQ) := by have h1 := b6.size; have h2 := (blk_cells (unhide HP5)).2.2; have := unhide hQ; unfold Hid; omega
      have HB6 : Hid (Below wr.heap.size wr (w6.alloc (.cells #[.int .i64 0, .int .i64 0] 52))) := bl_past (bl_past (unhide HB5) b6) (box1n _ _)
      have HW56 : Hid (Below W5.heap.size W5 (w6.alloc (.cells #[.int .i64 0, .int .i64 0] 52))) := bl_past b6 (box1n _ _)
      clear b6 HC6
      go_wp2_with fail
      obtain ⟨X, hX⟩ : ∃ W, Hid ((w6.alloc (.cells #[.int .i64 0, .int .i64 0] 52)).drew = W) := ⟨_, hide rfl⟩
      have HWX : Hid (Below W5.heap.size W5 X) := by rw [← unhide hX]; exact (unhide HW56).trans ⟨rfl, rfl, rfl, Nat.le_refl _, fun _ _ => rfl⟩
      have HPX : Hid (X.heap[P]? = some (.cells #[.int .i64 x.op, .int .i64 x.code, .int .i64 x.dst, .slice uaa AL uac, .int .i64 x.n, .int .i64 x.pc, .int .i64 x.need, .slice uea EL uec] 50)) := ((unhide HWX).block P (blk_cells (unhide HP5)).2.2).trans (unhide HP5)
      have HQX : Hid (X.heap[QQ]? = some (.cells #[.int .i64 0, .int .i64 0] 52)) := by rw [← unhide hX, ← unhide hQ]; exact heap_alloc_new w6 _
      have HSX : Hid ((fun W => W.cell? ⟨P, 2, none⟩ = some (.int .i64 x.dst) ∧ W.cell? ⟨QQ, 0, none⟩ = some (.int .i64 0) ∧ W.cell? ⟨QQ, 1, none⟩ = some (.int .i64 0)) X) := by exact ⟨(blk_cells (unhide HPX)).1 2, (blk_cells (unhide HQX)).1 0, (blk_cells (unhide HQX)).1 1⟩
      refine wp_region_held_drew (S := (fun W => W.cell? ⟨P, 2, none⟩ = some (.int .i64 x.dst) ∧ W.cell? ⟨QQ, 0, none⟩ = some (.int .i64 0) ∧ W.cell? ⟨QQ, 1, none⟩ = some (.int .i64 0))) (by kernel_rfl) (by rw [unhide hX]; exact unhide HSX) (fun hHeld => ?_)
      clear hHeld
      rw [unhide hX, unhide hQ]
      clear hX HB6 HW56
      refine wpAnyH_take (i := 0) (oi := _) (v := .bool false) rfl (by kernel_rfl) (by kernel_rfl) (by kernel_rfl) (fun _ _ _ h => h) (Or.inl ⟨by rfl, (by intro w' hSw; obtain ⟨s0, s1, s2⟩ := hSw; go_simp)⟩) (unhide HSX) ?_
      go_simp
      refine wpAnyH_take (i := 1) (oi := _) (v := .bool false) rfl (by kernel_rfl) (by kernel_rfl) (by kernel_rfl) (fun _ _ _ h => h) (Or.inl ⟨by rfl, (by intro w' hSw; obtain ⟨s0, s1, s2⟩ := hSw; go_simp)⟩) (unhide HSX) ?_
      go_simp
      refine wpAnyH_take (i := 2) (oi := _) (v := undef) rfl (by kernel_rfl) (by kernel_rfl) (by kernel_rfl) (fun _ _ _ h => h) (Or.inr ⟨by rfl, rfl⟩) (unhide HSX) ?_
      go_simp
      refine wpAnyH_take (i := 3) (oi := _) (v := undef) rfl (by kernel_rfl) (by kernel_rfl) (by kernel_rfl) (fun _ _ _ h => h) (Or.inr ⟨by rfl, rfl⟩) (unhide HSX) ?_
      go_simp
      refine wpAnyH_take (i := 4) (oi := _) (v := undef) rfl (by kernel_rfl) (by kernel_rfl) (by kernel_rfl) (fun _ _ _ h => h) (Or.inr ⟨by rfl, rfl⟩) (unhide HSX) ?_
      go_simp
      refine wpAnyH_ready (rs := [5]) (by kernel_rfl) (by simp) ?_
      refine AllReadyH.cons (o := _) rfl (fun K hK => ?_) AllReadyH.nil
      go_simp
      refine hK.out _ _ (unhide HSX) (fun _ => ?_)
      clear hK K
      go_simp
      refine wpAnyH_take (i := 6) (oi := _) (v := undef) rfl (by kernel_rfl) (by kernel_rfl) (by kernel_rfl) (fun _ _ _ h => h) (Or.inr ⟨by rfl, rfl⟩) (unhide HSX) ?_
      go_simp
      refine wpAnyH_take (i := 7) (oi := _) (v := .bool false) rfl (by kernel_rfl) (by kernel_rfl) (by kernel_rfl) (fun _ _ _ h => h) (Or.inl ⟨by rfl, (by intro w' hSw; obtain ⟨s0, s1, s2⟩ := hSw; go_simp)⟩) (unhide HSX) ?_
      go_simp
      refine wpAnyH_done (by kernel_rfl) ?_ _
      have HNE : Hid (mvd (inF (trn (l.take k)).1 x) ≠ some (rgO x.dst)) := by
        unfold Hid
        rw [unhide hf, unhide hmo]
        intro e; cases e
      have y2 : X.cell? ⟨P, 2, none⟩ = some (.int .i64 x.dst) := (blk_cells (unhide HPX)).1 2
      have yl : P < X.heap.size := (blk_cells (unhide HPX)).2.2
      by_cases hd : x.dst = -1
      · have d1 : (x.dst != -1) = false := by simp [hd]
        have HST : Hid ((stp (trn (l.take k)) x).1 = f) := by unfold Hid; rw [stp_none (unhide HNE) hd]; exact unhide hf
        have HMY : Hid (MfW X b (k + 1) (stp (trn (l.take k)) x).1) := by unfold Hid; rw [unhide HST]; exact (unhide HMF X (bl_past (unhide HB5) (unhide HWX))).mono (Nat.le_succ k)
        have HFY : Hid (Fr (fun q => q = b) wr X) := Fr.of_below (bl_past (unhide HB5) (unhide HWX))
        have HTY : Hid (InT X (inF (trn (l.take k)).1 x) (⟨x.op, x.code, x.dst, .slice uaa AL uac, x.n, x.pc, x.need, .slice uea EL uec⟩, rs)) := by unfold Hid; rw [unhide hf]; exact stayT _ _ _ _ _ (unhide HT5) (Fr.of_below (S := fun _ => False) (unhide HWX)) (fun q _ e => e)
        have HLY : Hid (W5.heap.size ≤ X.heap.size) := (unhide HWX).size
        have HPY := HPX
        clear hd
        obtain ⟨z0, z1, z2, z3, z4, z5, z6, z7, zl⟩ : X.cell? ⟨P, 0, none⟩ = some (.int .i64 x.op) ∧ X.cell? ⟨P, 1, none⟩ = some (.int .i64 x.code) ∧ X.cell? ⟨P, 2, none⟩ = some (.int .i64 x.dst) ∧ X.cell? ⟨P, 3, none⟩ = some (.slice uaa AL uac) ∧ X.cell? ⟨P, 4, none⟩ = some (.int .i64 x.n) ∧ X.cell? ⟨P, 5, none⟩ = some (.int .i64 x.pc) ∧ X.cell? ⟨P, 6, none⟩ = some (.int .i64 x.need) ∧ X.cell? ⟨P, 7, none⟩ = some (.slice uea EL uec) ∧ P < X.heap.size := by
          obtain ⟨q1, q2, q3⟩ := blk_cells (unhide HPY)
          exact ⟨q1 0, q1 1, q1 2, q1 3, q1 4, q1 5, q1 6, q1 7, q3⟩
        have HLN : Hid (ts.length = OL) := (unhide hS).ow.len.trans (unhide hOL)
        have HRW : Hid (Ro X 8 (.slice la OL lc) (ts.map Prod.fst).length (flt enIn (ts.map Prod.fst))) := by
          have q := (unhide hS).ow.row
          rw [unhide hOL] at q
          unfold Hid
          rw [fltT, List.length_map, unhide HLN]
          exact q.fr (unhide HFY) (fun g hg e => by have := (unhide hS).ow.rb g hg; have this' : w.heap.size ≤ g := this; omega)
        have HLB : Hid ((ts.map Prod.fst).length ≤ 1099511627776) := by unfold Hid; rw [List.length_map, unhide HLN]; omega
        go_wp2_with (first | (at_builtin; refine appIn rfl _ _ rfl _ (ts.map Prod.fst) rfl ((unhide HRW).keep (fun g hg => Below.heap_alloc _ _ _ ((unhide HRW).lt g hg))) ⟨X.heap.size, 0, none⟩ 1 ⟨x.op, x.code, x.dst, .slice uaa AL uac, x.n, x.pc, x.need, .slice uea EL uec⟩ rfl (new_cells _ _ _) rfl rfl (unhide HLB) ?_))
        intro v' Z hZr hZg hZa
        have HF := hide (TS.push (unhide hS) hbw (unhide HX) (unhide HNE) (unhide HFY) (unhide HTY) (fun q hq => ⟨by have := (unhide HN5 q hq).1; have := unhide hP; omega, by have := (unhide HN5 q hq).2; have := unhide HLY; omega⟩) (unhide HMY) (by rw [fltT] at hZr; exact hZr) (by first | rw [List.length_map, unhide HLN, unhide hOL] | rw [unhide HLN, unhide hOL]) hZg (by rw [World.size_alloc]; exact hZa))
        clear hZr hZg hZa z0 z1 z2 z3 z4 z5 z6 z7 zl
        go_wp2_with fail
        go_roundg (gk - 1)
        case measure => have := unhide hk; omega
        case rel => exact ⟨k + 1, _, _, by have := unhide hk; unfold Hid; omega, by go_num, rfl, HF⟩
      · have d1 : (x.dst != -1) = true := by simp [hd]
        go_wp2_with fail
        clear y2 yl
        obtain ⟨Y, hY⟩ : ∃ W, Hid (X.drew = W) := ⟨_, hide rfl⟩
        have HBY : Hid (Below W5.heap.size W5 Y) := by rw [← unhide hY]; exact (unhide HWX).trans ⟨rfl, rfl, rfl, Nat.le_refl _, fun _ _ => rfl⟩
        have HPY : Hid (Y.heap[P]? = some (.cells #[.int .i64 x.op, .int .i64 x.code, .int .i64 x.dst, .slice uaa AL uac, .int .i64 x.n, .int .i64 x.pc, .int .i64 x.need, .slice uea EL uec] 50)) := by rw [← unhide hY]; exact unhide HPX
        have HQY : Hid (Y.heap[QQ]? = some (.cells #[.int .i64 0, .int .i64 0] 52)) := by rw [← unhide hY]; exact unhide HQX
        have HSY : Hid ((fun W => W.cell? ⟨P, 2, none⟩ = some (.int .i64 x.dst) ∧ W.cell? ⟨QQ, 0, none⟩ = some (.int .i64 0) ∧ W.cell? ⟨QQ, 1, none⟩ = some (.int .i64 0)) Y) := by exact ⟨(blk_cells (unhide HPY)).1 2, (blk_cells (unhide HQY)).1 0, (blk_cells (unhide HQY)).1 1⟩
        refine wp_region_held_drew (S := (fun W => W.cell? ⟨P, 2, none⟩ = some (.int .i64 x.dst) ∧ W.cell? ⟨QQ, 0, none⟩ = some (.int .i64 0) ∧ W.cell? ⟨QQ, 1, none⟩ = some (.int .i64 0))) (by kernel_rfl) (by rw [unhide hY]; exact unhide HSY) (fun hHeld => ?_)
        clear hHeld
        rw [unhide hY]
        clear hY
        refine wpAnyH_take (i := 0) (oi := _) (v := .map (some b)) rfl (by kernel_rfl) (by kernel_rfl) (by kernel_rfl) (fun _ _ _ h => h) (Or.inl ⟨by rfl, (by intro w' hSw; obtain ⟨s0, s1, s2⟩ := hSw; go_simp)⟩) (unhide HSY) ?_
        go_simp
        refine wpAnyH_take (i := 1) (oi := _) (v := .pointer (some ⟨P, 2, none⟩)) rfl (by kernel_rfl) (by kernel_rfl) (by kernel_rfl) (fun _ _ _ h => h) (Or.inl ⟨by rfl, (by intro w' hSw; obtain ⟨s0, s1, s2⟩ := hSw; go_simp)⟩) (unhide HSY) ?_
        go_simp
        refine wpAnyH_take (i := 2) (oi := _) (v := .int .i64 x.dst) rfl (by kernel_rfl) (by kernel_rfl) (by kernel_rfl) (fun _ _ _ h => h) (Or.inl ⟨by rfl, (by intro w' hSw; obtain ⟨s0, s1, s2⟩ := hSw; go_simp)⟩) (unhide HSY) ?_
        go_simp
        refine wpAnyH_take (i := 4) (oi := _) (v := .slice la OL lc) rfl (by kernel_rfl) (by kernel_rfl) (by kernel_rfl) (fun _ _ _ h => h) (Or.inl ⟨by rfl, (by intro w' hSw; obtain ⟨s0, s1, s2⟩ := hSw; go_simp)⟩) (unhide HSY) ?_
        go_simp
        refine wpAnyH_take (i := 5) (oi := _) (v := .int .i64 (OL : Int)) rfl (by kernel_rfl) (by kernel_rfl) (by kernel_rfl) (fun _ _ _ h => h) (Or.inl ⟨by rfl, (by intro w' hSw; obtain ⟨s0, s1, s2⟩ := hSw; go_simp)⟩) (unhide HSY) ?_
        go_simp
        refine wpAnyH_take (i := 6) (oi := _) (v := .bool false) rfl (by kernel_rfl) (by kernel_rfl) (by kernel_rfl) (fun _ _ _ h => h) (Or.inl ⟨by rfl, (by intro w' hSw; obtain ⟨s0, s1, s2⟩ := hSw; go_simp)⟩) (unhide HSY) ?_
        go_simp
        refine wpAnyH_take (i := 7) (oi := _) (v := .agg #[.int .i64 0, .int .i64 0]) rfl (by kernel_rfl) (by kernel_rfl) (by kernel_rfl) (fun _ _ _ h => h) (Or.inl ⟨by rfl, (by intro w' hSw; obtain ⟨s0, s1, s2⟩ := hSw; go_simp)⟩) (unhide HSY) ?_
        go_simp
        refine wpAnyH_take (i := 8) (oi := _) (v := .agg #[.int .i64 (OL : Int), .bool false, .int .i64 0, .int .i64 0]) rfl (by kernel_rfl) (by kernel_rfl) (by kernel_rfl) (fun _ _ _ h => h) (Or.inl ⟨by rfl, (by intro w' hSw; obtain ⟨s0, s1, s2⟩ := hSw; go_simp)⟩) (unhide HSY) ?_
        go_simp
        have HR := hide (register_any Y x.dst)
        unfold opV rgO at HR
        refine wpAnyH_ready (rs := [3]) (by kernel_rfl) (by simp) ?_
        refine AllReadyH.cons (o := _) rfl (fun K hK => ?_) AllReadyH.nil
        go_simp
        refine (unhide HR).mono ?_
        rintro e Y2 ⟨rfl, b2⟩
        have HBY2 := hide (bl_past (unhide HBY) b2)
        have HPY2 : Hid (Y2.heap[P]? = some (.cells #[.int .i64 x.op, .int .i64 x.code, .int .i64 x.dst, .slice uaa AL uac, .int .i64 x.n, .int .i64 x.pc, .int .i64 x.need, .slice uea EL uec] 50)) := (b2.block P (blk_cells (unhide HPY)).2.2).trans (unhide HPY)
        have HQY2 : Hid (Y2.heap[QQ]? = some (.cells #[.int .i64 0, .int .i64 0] 52)) := (b2.block QQ (blk_cells (unhide HQY)).2.2).trans (unhide HQY)
        clear b2 HR
        have HSY2 : Hid ((fun W => W.cell? ⟨P, 2, none⟩ = some (.int .i64 x.dst) ∧ W.cell? ⟨QQ, 0, none⟩ = some (.int .i64 0) ∧ W.cell? ⟨QQ, 1, none⟩ = some (.int .i64 0)) Y2) := by exact ⟨(blk_cells (unhide HPY2)).1 2, (blk_cells (unhide HQY2)).1 0, (blk_cells (unhide HQY2)).1 1⟩
        refine hK.out _ _ (unhide HSY2) (fun _ => ?_)
        clear hK K HSY HPY HQY
        go_simp
        obtain ⟨Y3, hrun, hMY3, hgY3⟩ := (unhide HMF Y2 (bl_past (unhide HB5) (unhide HBY2))).put (rgO x.dst) ⟨by show (Lit.int .i64 0).wf = true; decide, (unhide HOX).1⟩ ⟨(OL : Int), false, ⟨0, 0⟩⟩ (by unfold maxLen; omega)
        unfold opV rgO wrV at hrun
        dsimp only at hrun
        have HBF : Hid (Fr (fun q => q = b) Y2 Y3) := (Fr.refl _ Y2).grown hgY3 (fun q e => by cases e; exact .inr rfl)
        have HMY3 := hide hMY3
        have HPb : Hid (P ≠ b) := by have := unhide hP; unfold Hid; omega
        have HQb : Hid (QQ ≠ b) := by have := unhide hP; have := unhide HQP; unfold Hid; omega
        have HPY3 : Hid (Y3.heap[P]? = some (.cells #[.int .i64 x.op, .int .i64 x.code, .int .i64 x.dst, .slice uaa AL uac, .int .i64 x.n, .int .i64 x.pc, .int .i64 x.need, .slice uea EL uec] 50)) := ((unhide HBF).block P (blk_cells (unhide HPY2)).2.2 (unhide HPb)).trans (unhide HPY2)
        have HQY3 : Hid (Y3.heap[QQ]? = some (.cells #[.int .i64 0, .int .i64 0] 52)) := ((unhide HBF).block QQ (blk_cells (unhide HQY2)).2.2 (unhide HQb)).trans (unhide HQY2)
        have HSY3 : Hid ((fun W => W.cell? ⟨P, 2, none⟩ = some (.int .i64 x.dst) ∧ W.cell? ⟨QQ, 0, none⟩ = some (.int .i64 0) ∧ W.cell? ⟨QQ, 1, none⟩ = some (.int .i64 0)) Y3) := by exact ⟨(blk_cells (unhide HPY3)).1 2, (blk_cells (unhide HQY3)).1 0, (blk_cells (unhide HQY3)).1 1⟩
        clear hMY3 hgY3 HPY2 HQY2 HSY2
        refine wpAnyH_ready (rs := [9]) (by kernel_rfl) (by simp) ?_
        refine AllReadyH.cons (o := _) rfl (fun K hK => ?_) AllReadyH.nil
        go_simp
        refine hK.out _ _ (unhide HSY3) (fun _ => ?_)
        clear hK K hrun HSY3
        go_simp
        refine wpAnyH_done (by kernel_rfl) ?_ _
        have HMY : Hid (MfW Y3 b (k + 1) (stp (trn (l.take k)) x).1) := by
          unfold Hid
          rw [stp_some (unhide HNE) hd]
          dsimp only
          rw [unhide hOL, unhide hf, unhide hmo]
          exact unhide HMY3
        have HFY : Hid (Fr (fun q => q = b) wr Y3) := (Fr.of_below (bl_past (unhide HB5) (unhide HBY2))).trans (unhide HBF)
        have HTY : Hid (InT Y3 (inF (trn (l.take k)).1 x) (⟨x.op, x.code, x.dst, .slice uaa AL uac, x.n, x.pc, x.need, .slice uea EL uec⟩, rs)) := by
          unfold Hid
          rw [unhide hf]
          exact stayT _ _ _ _ _ (stayT _ _ _ _ _ (unhide HT5) (Fr.of_below (S := fun _ => False) (unhide HBY2)) (fun q _ e => e)) (unhide HBF) (fun q hq e => by have := (unhide HN5 q hq).1; have := unhide hP; omega)
        have HLY : Hid (W5.heap.size ≤ Y3.heap.size) := Nat.le_trans (unhide HBY2).size (unhide HBF).size
        have HPY := HPY3
        clear HMY3 HQY3 HPY3 d1
        obtain ⟨z0, z1, z2, z3, z4, z5, z6, z7, zl⟩ : Y3.cell? ⟨P, 0, none⟩ = some (.int .i64 x.op) ∧ Y3.cell? ⟨P, 1, none⟩ = some (.int .i64 x.code) ∧ Y3.cell? ⟨P, 2, none⟩ = some (.int .i64 x.dst) ∧ Y3.cell? ⟨P, 3, none⟩ = some (.slice uaa AL uac) ∧ Y3.cell? ⟨P, 4, none⟩ = some (.int .i64 x.n) ∧ Y3.cell? ⟨P, 5, none⟩ = some (.int .i64 x.pc) ∧ Y3.cell? ⟨P, 6, none⟩ = some (.int .i64 x.need) ∧ Y3.cell? ⟨P, 7, none⟩ = some (.slice uea EL uec) ∧ P < Y3.heap.size := by
          obtain ⟨q1, q2, q3⟩ := blk_cells (unhide HPY)
          exact ⟨q1 0, q1 1, q1 2, q1 3, q1 4, q1 5, q1 6, q1 7, q3⟩
        have HLN : Hid (ts.length = OL) := (unhide hS).ow.len.trans (unhide hOL)
        have HRW : Hid (Ro Y3 8 (.slice la OL lc) (ts.map Prod.fst).length (flt enIn (ts.map Prod.fst))) := by
          have q := (unhide hS).ow.row
          rw [unhide hOL] at q
          unfold Hid
          rw [fltT, List.length_map, unhide HLN]
          exact q.fr (unhide HFY) (fun g hg e => by have := (unhide hS).ow.rb g hg; have this' : w.heap.size ≤ g := this; omega)
        have HLB : Hid ((ts.map Prod.fst).length ≤ 1099511627776) := by unfold Hid; rw [List.length_map, unhide HLN]; omega
        go_wp2_with (first | (at_builtin; refine appIn rfl _ _ rfl _ (ts.map Prod.fst) rfl ((unhide HRW).keep (fun g hg => Below.heap_alloc _ _ _ ((unhide HRW).lt g hg))) ⟨Y3.heap.size, 0, none⟩ 1 ⟨x.op, x.code, x.dst, .slice uaa AL uac, x.n, x.pc, x.need, .slice uea EL uec⟩ rfl (new_cells _ _ _) rfl rfl (unhide HLB) ?_))
        intro v' Z hZr hZg hZa
        have HF := hide (TS.push (unhide hS) hbw (unhide HX) (unhide HNE) (unhide HFY) (unhide HTY) (fun q hq => ⟨by have := (unhide HN5 q hq).1; have := unhide hP; omega, by have := (unhide HN5 q hq).2; have := unhide HLY; omega⟩) (unhide HMY) (by rw [fltT] at hZr; exact hZr) (by first | rw [List.length_map, unhide HLN, unhide hOL] | rw [unhide HLN, unhide hOL]) hZg (by rw [World.size_alloc]; exact hZa))
        clear hZr hZg hZa z0 z1 z2 z3 z4 z5 z6 z7 zl
        go_wp2_with fail
        go_roundg (gk - 1)
        case measure => have := unhide hk; omega
        case rel => exact ⟨k + 1, _, _, by have := unhide hk; unfold Hid; omega, by go_num, rfl, HF⟩
    | some o =>
      obtain ⟨ok, on⟩ := o
      unfold opV mvO at HC6
      simp only [Option.isSome] at HC6
      refine (unhide HC6).mono ?_
      rintro e w6 ⟨rfl, b6⟩
      obtain ⟨QQ, hQ⟩ : ∃ z, Hid (w6.heap.size = z) := ⟨_, hide rfl⟩
      have HQP : Hid (P + 1 ≤ QQ) := by have h1 := b6.size; have h2 := (blk_cells (unhide HP5)).2.2; have := unhide hQ; unfold Hid; omega
      have HB6 : Hid (Below wr.heap.size wr (w6.alloc (.cells #[.int .i64 ok, .int .i64 on] 52))) := bl_past (bl_past (unhide HB5) b6) (box1n _ _)
      have HW56 : Hid (Below W5.heap.size W5 (w6.alloc (.cells #[.int .i64 ok, .int .i64 on] 52))) := bl_past b6 (box1n _ _)
      clear b6 HC6
      go_wp2_with fail
      obtain ⟨X, hX⟩ : ∃ W, Hid ((w6.alloc (.cells #[.int .i64 ok, .int .i64 on] 52)).drew = W) := ⟨_, hide rfl⟩
      have HWX : Hid (Below W5.heap.size W5 X) := by rw [← unhide hX]; exact (unhide HW56).trans ⟨rfl, rfl, rfl, Nat.le_refl _, fun _ _ => rfl⟩
      have HPX : Hid (X.heap[P]? = some (.cells #[.int .i64 x.op, .int .i64 x.code, .int .i64 x.dst, .slice uaa AL uac, .int .i64 x.n, .int .i64 x.pc, .int .i64 x.need, .slice uea EL uec] 50)) := ((unhide HWX).block P (blk_cells (unhide HP5)).2.2).trans (unhide HP5)
      have HQX : Hid (X.heap[QQ]? = some (.cells #[.int .i64 ok, .int .i64 on] 52)) := by rw [← unhide hX, ← unhide hQ]; exact heap_alloc_new w6 _
      have HSX : Hid ((fun W => W.cell? ⟨P, 2, none⟩ = some (.int .i64 x.dst) ∧ W.cell? ⟨QQ, 0, none⟩ = some (.int .i64 ok) ∧ W.cell? ⟨QQ, 1, none⟩ = some (.int .i64 on)) X) := by exact ⟨(blk_cells (unhide HPX)).1 2, (blk_cells (unhide HQX)).1 0, (blk_cells (unhide HQX)).1 1⟩
      refine wp_region_held_drew (S := (fun W => W.cell? ⟨P, 2, none⟩ = some (.int .i64 x.dst) ∧ W.cell? ⟨QQ, 0, none⟩ = some (.int .i64 ok) ∧ W.cell? ⟨QQ, 1, none⟩ = some (.int .i64 on))) (by kernel_rfl) (by rw [unhide hX]; exact unhide HSX) (fun hHeld => ?_)
      clear hHeld
      rw [unhide hX, unhide hQ]
      clear hX HB6 HW56
      refine wpAnyH_take (i := 0) (oi := _) (v := .bool true) rfl (by kernel_rfl) (by kernel_rfl) (by kernel_rfl) (fun _ _ _ h => h) (Or.inl ⟨by rfl, (by intro w' hSw; obtain ⟨s0, s1, s2⟩ := hSw; go_simp)⟩) (unhide HSX) ?_
      go_simp
      refine wpAnyH_take (i := 1) (oi := _) (v := .bool true) rfl (by kernel_rfl) (by kernel_rfl) (by kernel_rfl) (fun _ _ _ h => h) (Or.inl ⟨by rfl, (by intro w' hSw; obtain ⟨s0, s1, s2⟩ := hSw; go_simp)⟩) (unhide HSX) ?_
      go_simp
      refine wpAnyH_take (i := 2) (oi := _) (v := .agg #[.int .i64 ok, .int .i64 on]) rfl (by kernel_rfl) (by kernel_rfl) (by kernel_rfl) (fun _ _ _ h => h) (Or.inl ⟨by rfl, (by intro w' hSw; obtain ⟨s0, s1, s2⟩ := hSw; go_simp)⟩) (unhide HSX) ?_
      go_simp
      refine wpAnyH_take (i := 3) (oi := _) (v := .pointer (some ⟨P, 2, none⟩)) rfl (by kernel_rfl) (by kernel_rfl) (by kernel_rfl) (fun _ _ _ h => h) (Or.inl ⟨by rfl, (by intro w' hSw; obtain ⟨s0, s1, s2⟩ := hSw; go_simp)⟩) (unhide HSX) ?_
      go_simp
      refine wpAnyH_take (i := 4) (oi := _) (v := .int .i64 x.dst) rfl (by kernel_rfl) (by kernel_rfl) (by kernel_rfl) (fun _ _ _ h => h) (Or.inl ⟨by rfl, (by intro w' hSw; obtain ⟨s0, s1, s2⟩ := hSw; go_simp)⟩) (unhide HSX) ?_
      go_simp
      have HR := hide (register_any X x.dst)
      unfold opV rgO at HR
      refine wpAnyH_ready (rs := [5]) (by kernel_rfl) (by simp) ?_
      refine AllReadyH.cons (o := _) rfl (fun K hK => ?_) AllReadyH.nil
      go_simp
      refine (unhide HR).mono ?_
      rintro e X2 ⟨rfl, b2⟩
      have HWX2 := hide (bl_past (unhide HWX) b2)
      have HPX2 : Hid (X2.heap[P]? = some (.cells #[.int .i64 x.op, .int .i64 x.code, .int .i64 x.dst, .slice uaa AL uac, .int .i64 x.n, .int .i64 x.pc, .int .i64 x.need, .slice uea EL uec] 50)) := (b2.block P (blk_cells (unhide HPX)).2.2).trans (unhide HPX)
      have HQX2 : Hid (X2.heap[QQ]? = some (.cells #[.int .i64 ok, .int .i64 on] 52)) := (b2.block QQ (blk_cells (unhide HQX)).2.2).trans (unhide HQX)
      clear b2 HR
      have HSX2 : Hid ((fun W => W.cell? ⟨P, 2, none⟩ = some (.int .i64 x.dst) ∧ W.cell? ⟨QQ, 0, none⟩ = some (.int .i64 ok) ∧ W.cell? ⟨QQ, 1, none⟩ = some (.int .i64 on)) X2) := by exact ⟨(blk_cells (unhide HPX2)).1 2, (blk_cells (unhide HQX2)).1 0, (blk_cells (unhide HQX2)).1 1⟩
      refine hK.out _ _ (unhide HSX2) (fun _ => ?_)
      clear hK K HSX HWX HPX HQX
      go_simp
      by_cases hsame : ok = 0 ∧ on = x.dst
      · obtain ⟨rfl, rfl⟩ := hsame
        refine wpAnyH_take (i := 6) (oi := _) (v := .bool true) rfl (by kernel_rfl) (by kernel_rfl) (by kernel_rfl) (fun _ _ _ h => h) (Or.inl ⟨by rfl, (by intro w' hSw; obtain ⟨s0, s1, s2⟩ := hSw; go_simp)⟩) (unhide HSX2) ?_
        go_simp
        refine wpAnyH_take (i := 7) (oi := _) (v := .bool true) rfl (by kernel_rfl) (by kernel_rfl) (by kernel_rfl) (fun _ _ _ h => h) (Or.inl ⟨by rfl, (by intro w' hSw; obtain ⟨s0, s1, s2⟩ := hSw; go_simp)⟩) (unhide HSX2) ?_
        go_simp
        refine wpAnyH_done (by kernel_rfl) ?_ _
        have HB5X : Hid (Below wr.heap.size wr X2) := bl_past (unhide HB5) (unhide HWX2)
        have HF := hide ((unhide hS).skip (unhide HX) (by rw [unhide hf, unhide hmo]; rfl) (unhide HB5X))
        go_wp2_with fail
        go_roundg (gk - 1)
        case measure => have := unhide hk; omega
        case rel => exact ⟨k + 1, _, ts, by have := unhide hk; unfold Hid; omega, by go_num, rfl, HF⟩
      · have hsb : ok = 0 → ¬ on = x.dst := fun a b => hsame ⟨a, b⟩
        clear hsame
        refine wpAnyH_take (i := 6) (oi := _) (v := .bool false) rfl (by kernel_rfl) (by kernel_rfl) (by kernel_rfl) (fun _ _ _ h => h) (Or.inl ⟨by rfl, (by intro w' hSw; obtain ⟨s0, s1, s2⟩ := hSw; go_simp; first | done | exact hsb)⟩) (unhide HSX2) ?_
        go_simp
        refine wpAnyH_take (i := 7) (oi := _) (v := .bool false) rfl (by kernel_rfl) (by kernel_rfl) (by kernel_rfl) (fun _ _ _ h => h) (Or.inl ⟨by rfl, (by intro w' hSw; obtain ⟨s0, s1, s2⟩ := hSw; go_simp)⟩) (unhide HSX2) ?_
        go_simp
        refine wpAnyH_done (by kernel_rfl) ?_ _
        have HNE : Hid (mvd (inF (trn (l.take k)).1 x) ≠ some (rgO x.dst)) := by
          unfold Hid
          rw [unhide hf, unhide hmo]
          intro e; cases e; exact hsb rfl rfl
        have y2 : X2.cell? ⟨P, 2, none⟩ = some (.int .i64 x.dst) := (blk_cells (unhide HPX2)).1 2
        have yl : P < X2.heap.size := (blk_cells (unhide HPX2)).2.2
        by_cases hd : x.dst = -1
        · have d1 : (x.dst != -1) = false := by simp [hd]
          have HST : Hid ((stp (trn (l.take k)) x).1 = f) := by unfold Hid; rw [stp_none (unhide HNE) hd]; exact unhide hf
          have HMY : Hid (MfW X2 b (k + 1) (stp (trn (l.take k)) x).1) := by unfold Hid; rw [unhide HST]; exact (unhide HMF X2 (bl_past (unhide HB5) (unhide HWX2))).mono (Nat.le_succ k)
          have HFY : Hid (Fr (fun q => q = b) wr X2) := Fr.of_below (bl_past (unhide HB5) (unhide HWX2))
          have HTY : Hid (InT X2 (inF (trn (l.take k)).1 x) (⟨x.op, x.code, x.dst, .slice uaa AL uac, x.n, x.pc, x.need, .slice uea EL uec⟩, rs)) := by unfold Hid; rw [unhide hf]; exact stayT _ _ _ _ _ (unhide HT5) (Fr.of_below (S := fun _ => False) (unhide HWX2)) (fun q _ e => e)
          have HLY : Hid (W5.heap.size ≤ X2.heap.size) := (unhide HWX2).size
          have HPY := HPX2
          clear hd
          obtain ⟨z0, z1, z2, z3, z4, z5, z6, z7, zl⟩ : X2.cell? ⟨P, 0, none⟩ = some (.int .i64 x.op) ∧ X2.cell? ⟨P, 1, none⟩ = some (.int .i64 x.code) ∧ X2.cell? ⟨P, 2, none⟩ = some (.int .i64 x.dst) ∧ X2.cell? ⟨P, 3, none⟩ = some (.slice uaa AL uac) ∧ X2.cell? ⟨P, 4, none⟩ = some (.int .i64 x.n) ∧ X2.cell? ⟨P, 5, none⟩ = some (.int .i64 x.pc) ∧ X2.cell? ⟨P, 6, none⟩ = some (.int .i64 x.need) ∧ X2.cell? ⟨P, 7, none⟩ = some (.slice uea EL uec) ∧ P < X2.heap.size := by
            obtain ⟨q1, q2, q3⟩ := blk_cells (unhide HPY)
            exact ⟨q1 0, q1 1, q1 2, q1 3, q1 4, q1 5, q1 6, q1 7, q3⟩
          have HLN : Hid (ts.length = OL) := (unhide hS).ow.len.trans (unhide hOL)
          have HRW : Hid (Ro X2 8 (.slice la OL lc) (ts.map Prod.fst).length (flt enIn (ts.map Prod.fst))) := by
            have q := (unhide hS).ow.row
            rw [unhide hOL] at q
            unfold Hid
            rw [fltT, List.length_map, unhide HLN]
            exact q.fr (unhide HFY) (fun g hg e => by have := (unhide hS).ow.rb g hg; have this' : w.heap.size ≤ g := this; omega)
          have HLB : Hid ((ts.map Prod.fst).length ≤ 1099511627776) := by unfold Hid; rw [List.length_map, unhide HLN]; omega
          go_wp2_with (first | (at_builtin; refine appIn rfl _ _ rfl _ (ts.map Prod.fst) rfl ((unhide HRW).keep (fun g hg => Below.heap_alloc _ _ _ ((unhide HRW).lt g hg))) ⟨X2.heap.size, 0, none⟩ 1 ⟨x.op, x.code, x.dst, .slice uaa AL uac, x.n, x.pc, x.need, .slice uea EL uec⟩ rfl (new_cells _ _ _) rfl rfl (unhide HLB) ?_))
          intro v' Z hZr hZg hZa
          have HF := hide (TS.push (unhide hS) hbw (unhide HX) (unhide HNE) (unhide HFY) (unhide HTY) (fun q hq => ⟨by have := (unhide HN5 q hq).1; have := unhide hP; omega, by have := (unhide HN5 q hq).2; have := unhide HLY; omega⟩) (unhide HMY) (by rw [fltT] at hZr; exact hZr) (by first | rw [List.length_map, unhide HLN, unhide hOL] | rw [unhide HLN, unhide hOL]) hZg (by rw [World.size_alloc]; exact hZa))
          clear hZr hZg hZa z0 z1 z2 z3 z4 z5 z6 z7 zl
          go_wp2_with fail
          go_roundg (gk - 1)
          case measure => have := unhide hk; omega
          case rel => exact ⟨k + 1, _, _, by have := unhide hk; unfold Hid; omega, by go_num, rfl, HF⟩
        · have d1 : (x.dst != -1) = true := by simp [hd]
          go_wp2_with fail
          clear y2 yl
          obtain ⟨Y, hY⟩ : ∃ W, Hid (X2.drew = W) := ⟨_, hide rfl⟩
          have HBY : Hid (Below W5.heap.size W5 Y) := by rw [← unhide hY]; exact (unhide HWX2).trans ⟨rfl, rfl, rfl, Nat.le_refl _, fun _ _ => rfl⟩
          have HPY : Hid (Y.heap[P]? = some (.cells #[.int .i64 x.op, .int .i64 x.code, .int .i64 x.dst, .slice uaa AL uac, .int .i64 x.n, .int .i64 x.pc, .int .i64 x.need, .slice uea EL uec] 50)) := by rw [← unhide hY]; exact unhide HPX2
          have HQY : Hid (Y.heap[QQ]? = some (.cells #[.int .i64 ok, .int .i64 on] 52)) := by rw [← unhide hY]; exact unhide HQX2
          have HSY : Hid ((fun W => W.cell? ⟨P, 2, none⟩ = some (.int .i64 x.dst) ∧ W.cell? ⟨QQ, 0, none⟩ = some (.int .i64 ok) ∧ W.cell? ⟨QQ, 1, none⟩ = some (.int .i64 on)) Y) := by exact ⟨(blk_cells (unhide HPY)).1 2, (blk_cells (unhide HQY)).1 0, (blk_cells (unhide HQY)).1 1⟩
          refine wp_region_held_drew (S := (fun W => W.cell? ⟨P, 2, none⟩ = some (.int .i64 x.dst) ∧ W.cell? ⟨QQ, 0, none⟩ = some (.int .i64 ok) ∧ W.cell? ⟨QQ, 1, none⟩ = some (.int .i64 on))) (by kernel_rfl) (by rw [unhide hY]; exact unhide HSY) (fun hHeld => ?_)
          clear hHeld
          rw [unhide hY]
          clear hY
          refine wpAnyH_take (i := 0) (oi := _) (v := .map (some b)) rfl (by kernel_rfl) (by kernel_rfl) (by kernel_rfl) (fun _ _ _ h => h) (Or.inl ⟨by rfl, (by intro w' hSw; obtain ⟨s0, s1, s2⟩ := hSw; go_simp)⟩) (unhide HSY) ?_
          go_simp
          refine wpAnyH_take (i := 1) (oi := _) (v := .pointer (some ⟨P, 2, none⟩)) rfl (by kernel_rfl) (by kernel_rfl) (by kernel_rfl) (fun _ _ _ h => h) (Or.inl ⟨by rfl, (by intro w' hSw; obtain ⟨s0, s1, s2⟩ := hSw; go_simp)⟩) (unhide HSY) ?_
          go_simp
          refine wpAnyH_take (i := 2) (oi := _) (v := .int .i64 x.dst) rfl (by kernel_rfl) (by kernel_rfl) (by kernel_rfl) (fun _ _ _ h => h) (Or.inl ⟨by rfl, (by intro w' hSw; obtain ⟨s0, s1, s2⟩ := hSw; go_simp)⟩) (unhide HSY) ?_
          go_simp
          refine wpAnyH_take (i := 4) (oi := _) (v := .slice la OL lc) rfl (by kernel_rfl) (by kernel_rfl) (by kernel_rfl) (fun _ _ _ h => h) (Or.inl ⟨by rfl, (by intro w' hSw; obtain ⟨s0, s1, s2⟩ := hSw; go_simp)⟩) (unhide HSY) ?_
          go_simp
          refine wpAnyH_take (i := 5) (oi := _) (v := .int .i64 (OL : Int)) rfl (by kernel_rfl) (by kernel_rfl) (by kernel_rfl) (fun _ _ _ h => h) (Or.inl ⟨by rfl, (by intro w' hSw; obtain ⟨s0, s1, s2⟩ := hSw; go_simp)⟩) (unhide HSY) ?_
          go_simp
          refine wpAnyH_take (i := 6) (oi := _) (v := .bool true) rfl (by kernel_rfl) (by kernel_rfl) (by kernel_rfl) (fun _ _ _ h => h) (Or.inl ⟨by rfl, (by intro w' hSw; obtain ⟨s0, s1, s2⟩ := hSw; go_simp)⟩) (unhide HSY) ?_
          go_simp
          refine wpAnyH_take (i := 7) (oi := _) (v := .agg #[.int .i64 ok, .int .i64 on]) rfl (by kernel_rfl) (by kernel_rfl) (by kernel_rfl) (fun _ _ _ h => h) (Or.inl ⟨by rfl, (by intro w' hSw; obtain ⟨s0, s1, s2⟩ := hSw; go_simp)⟩) (unhide HSY) ?_
          go_simp
          refine wpAnyH_take (i := 8) (oi := _) (v := .agg #[.int .i64 (OL : Int), .bool true, .int .i64 ok, .int .i64 on]) rfl (by kernel_rfl) (by kernel_rfl) (by kernel_rfl) (fun _ _ _ h => h) (Or.inl ⟨by rfl, (by intro w' hSw; obtain ⟨s0, s1, s2⟩ := hSw; go_simp)⟩) (unhide HSY) ?_
          go_simp
          have HR := hide (register_any Y x.dst)
          unfold opV rgO at HR
          refine wpAnyH_ready (rs := [3]) (by kernel_rfl) (by simp) ?_
          refine AllReadyH.cons (o := _) rfl (fun K hK => ?_) AllReadyH.nil
          go_simp
          refine (unhide HR).mono ?_
          rintro e Y2 ⟨rfl, b2⟩
          have HBY2 := hide (bl_past (unhide HBY) b2)
          have HPY2 : Hid (Y2.heap[P]? = some (.cells #[.int .i64 x.op, .int .i64 x.code, .int .i64 x.dst, .slice uaa AL uac, .int .i64 x.n, .int .i64 x.pc, .int .i64 x.need, .slice uea EL uec] 50)) := (b2.block P (blk_cells (unhide HPY)).2.2).trans (unhide HPY)
          have HQY2 : Hid (Y2.heap[QQ]? = some (.cells #[.int .i64 ok, .int .i64 on] 52)) := (b2.block QQ (blk_cells (unhide HQY)).2.2).trans (unhide HQY)
          clear b2 HR
          have HSY2 : Hid ((fun W => W.cell? ⟨P, 2, none⟩ = some (.int .i64 x.dst) ∧ W.cell? ⟨QQ, 0, none⟩ = some (.int .i64 ok) ∧ W.cell? ⟨QQ, 1, none⟩ = some (.int .i64 on)) Y2) := by exact ⟨(blk_cells (unhide HPY2)).1 2, (blk_cells (unhide HQY2)).1 0, (blk_cells (unhide HQY2)).1 1⟩
          refine hK.out _ _ (unhide HSY2) (fun _ => ?_)
          clear hK K HSY HPY HQY
          go_simp
          obtain ⟨Y3, hrun, hMY3, hgY3⟩ := (unhide HMF Y2 (bl_past (unhide HB5) (unhide HBY2))).put (rgO x.dst) ⟨by show (Lit.int .i64 0).wf = true; decide, (unhide HOX).1⟩ ⟨(OL : Int), true, ⟨ok, on⟩⟩ (by unfold maxLen; omega)
          unfold opV rgO wrV at hrun
          dsimp only at hrun
          have HBF : Hid (Fr (fun q => q = b) Y2 Y3) := (Fr.refl _ Y2).grown hgY3 (fun q e => by cases e; exact .inr rfl)
          have HMY3 := hide hMY3
          have HPb : Hid (P ≠ b) := by have := unhide hP; unfold Hid; omega
          have HQb : Hid (QQ ≠ b) := by have := unhide hP; have := unhide HQP; unfold Hid; omega
          have HPY3 : Hid (Y3.heap[P]? = some (.cells #[.int .i64 x.op, .int .i64 x.code, .int .i64 x.dst, .slice uaa AL uac, .int .i64 x.n, .int .i64 x.pc, .int .i64 x.need, .slice uea EL uec] 50)) := ((unhide HBF).block P (blk_cells (unhide HPY2)).2.2 (unhide HPb)).trans (unhide HPY2)
          have HQY3 : Hid (Y3.heap[QQ]? = some (.cells #[.int .i64 ok, .int .i64 on] 52)) := ((unhide HBF).block QQ (blk_cells (unhide HQY2)).2.2 (unhide HQb)).trans (unhide HQY2)
          have HSY3 : Hid ((fun W => W.cell? ⟨P, 2, none⟩ = some (.int .i64 x.dst) ∧ W.cell? ⟨QQ, 0, none⟩ = some (.int .i64 ok) ∧ W.cell? ⟨QQ, 1, none⟩ = some (.int .i64 on)) Y3) := by exact ⟨(blk_cells (unhide HPY3)).1 2, (blk_cells (unhide HQY3)).1 0, (blk_cells (unhide HQY3)).1 1⟩
          clear hMY3 hgY3 HPY2 HQY2 HSY2
          refine wpAnyH_ready (rs := [9]) (by kernel_rfl) (by simp) ?_
          refine AllReadyH.cons (o := _) rfl (fun K hK => ?_) AllReadyH.nil
          go_simp
          refine hK.out _ _ (unhide HSY3) (fun _ => ?_)
          clear hK K hrun HSY3
          go_simp
          refine wpAnyH_done (by kernel_rfl) ?_ _
          have HMY : Hid (MfW Y3 b (k + 1) (stp (trn (l.take k)) x).1) := by
            unfold Hid
            rw [stp_some (unhide HNE) hd]
            dsimp only
            rw [unhide hOL, unhide hf, unhide hmo]
            exact unhide HMY3
          have HFY : Hid (Fr (fun q => q = b) wr Y3) := (Fr.of_below (bl_past (unhide HB5) (unhide HBY2))).trans (unhide HBF)
          have HTY : Hid (InT Y3 (inF (trn (l.take k)).1 x) (⟨x.op, x.code, x.dst, .slice uaa AL uac, x.n, x.pc, x.need, .slice uea EL uec⟩, rs)) := by
            unfold Hid
            rw [unhide hf]
            exact stayT _ _ _ _ _ (stayT _ _ _ _ _ (unhide HT5) (Fr.of_below (S := fun _ => False) (unhide HBY2)) (fun q _ e => e)) (unhide HBF) (fun q hq e => by have := (unhide HN5 q hq).1; have := unhide hP; omega)
          have HLY : Hid (W5.heap.size ≤ Y3.heap.size) := Nat.le_trans (unhide HBY2).size (unhide HBF).size
          have HPY := HPY3
          clear HMY3 HQY3 HPY3 d1
          obtain ⟨z0, z1, z2, z3, z4, z5, z6, z7, zl⟩ : Y3.cell? ⟨P, 0, none⟩ = some (.int .i64 x.op) ∧ Y3.cell? ⟨P, 1, none⟩ = some (.int .i64 x.code) ∧ Y3.cell? ⟨P, 2, none⟩ = some (.int .i64 x.dst) ∧ Y3.cell? ⟨P, 3, none⟩ = some (.slice uaa AL uac) ∧ Y3.cell? ⟨P, 4, none⟩ = some (.int .i64 x.n) ∧ Y3.cell? ⟨P, 5, none⟩ = some (.int .i64 x.pc) ∧ Y3.cell? ⟨P, 6, none⟩ = some (.int .i64 x.need) ∧ Y3.cell? ⟨P, 7, none⟩ = some (.slice uea EL uec) ∧ P < Y3.heap.size := by
            obtain ⟨q1, q2, q3⟩ := blk_cells (unhide HPY)
            exact ⟨q1 0, q1 1, q1 2, q1 3, q1 4, q1 5, q1 6, q1 7, q3⟩
          have HLN : Hid (ts.length = OL) := (unhide hS).ow.len.trans (unhide hOL)
          have HRW : Hid (Ro Y3 8 (.slice la OL lc) (ts.map Prod.fst).length (flt enIn (ts.map Prod.fst))) := by
            have q := (unhide hS).ow.row
            rw [unhide hOL] at q
            unfold Hid
            rw [fltT, List.length_map, unhide HLN]
            exact q.fr (unhide HFY) (fun g hg e => by have := (unhide hS).ow.rb g hg; have this' : w.heap.size ≤ g := this; omega)
          have HLB : Hid ((ts.map Prod.fst).length ≤ 1099511627776) := by unfold Hid; rw [List.length_map, unhide HLN]; omega
          go_wp2_with (first | (at_builtin; refine appIn rfl _ _ rfl _ (ts.map Prod.fst) rfl ((unhide HRW).keep (fun g hg => Below.heap_alloc _ _ _ ((unhide HRW).lt g hg))) ⟨Y3.heap.size, 0, none⟩ 1 ⟨x.op, x.code, x.dst, .slice uaa AL uac, x.n, x.pc, x.need, .slice uea EL uec⟩ rfl (new_cells _ _ _) rfl rfl (unhide HLB) ?_))
          intro v' Z hZr hZg hZa
          have HF := hide (TS.push (unhide hS) hbw (unhide HX) (unhide HNE) (unhide HFY) (unhide HTY) (fun q hq => ⟨by have := (unhide HN5 q hq).1; have := unhide hP; omega, by have := (unhide HN5 q hq).2; have := unhide HLY; omega⟩) (unhide HMY) (by rw [fltT] at hZr; exact hZr) (by first | rw [List.length_map, unhide HLN, unhide hOL] | rw [unhide HLN, unhide hOL]) hZg (by rw [World.size_alloc]; exact hZa))
          clear hZr hZg hZa z0 z1 z2 z3 z4 z5 z6 z7 zl
          go_wp2_with fail
          go_roundg (gk - 1)
          case measure => have := unhide hk; omega
          case rel => exact ⟨k + 1, _, _, by have := unhide hk; unfold Hid; omega, by go_num, rfl, HF⟩
end Go.Proofs.Ytpbdpejhjdoleaa
