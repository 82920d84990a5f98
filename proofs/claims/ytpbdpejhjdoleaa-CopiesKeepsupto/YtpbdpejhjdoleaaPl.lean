/-
  The instructions but moves, without operands: the walk.
-/
import Derived.Test.YtpbdpejhjdoleaaPl0
namespace Go.Proofs.Ytpbdpejhjdoleaa
open Go.RowKit
set_option linter.unusedVariables false
set_option linter.unusedSimpArgs false
theorem GH.start (w : World) : GH w [] (.slice none 0 0) [] w := ⟨Below.refl _ _, rfl, by simpa [flt] using Ro.nil w 3, by simp [Value.ownBlock], fun i x r h => by simp at h⟩
theorem GS.start (w : World) : GS w [] (.slice none 0 0) [] w := ⟨Below.refl _ _, rfl, by simpa [flt] using Ro.nil w 8, by simp [Value.ownBlock], fun i x r h => by simp at h⟩
theorem GH.shs {w wr : World} {l : List Sh} {lv : Value} {rs : List ShR} (h : GH w l lv rs wr) : ShsV (fun k => w.heap.size ≤ k) wr l lv :=
  ⟨rs, h.len, Rd.of_ro h.row h.rb, fun i u r hu hr => ShP.mv _ _ _ _ _ _ _ (h.el i u r hu hr) (Fr.refl (fun _ => False) wr) (fun k _ e => ⟨fun q => q, e.1⟩)⟩
theorem GS.ins {w wr : World} {l : List RIn} {lv : Value} {rs : List InR} (h : GS w l lv rs wr) : InsV Tr wr l lv :=
  ⟨rs, h.len, ⟨Rx.of_ro h.row, fun _ _ _ => trivial⟩, fun i u r hu hr => InP.mv _ _ _ _ _ _ _ (h.el i u r hu hr) (Fr.refl (fun _ => False) wr) (fun k _ e => ⟨fun q => q, trivial⟩)⟩
set_option maxRecDepth 100000 in
set_option maxHeartbeats 12800000 in
theorem plain_any {w : World} {D : Nat → Prop} {l : List RIn} {v : Value} (h : InsV D w l v) (hN : l.length ≤ 1048576) (hM : ∀ x ∈ l, OkX x) :
    Calls Try.prog 15 #[v] w fun e w' => ∃ v', e = .returned v' ∧ Below w.heap.size w w' ∧ InsV Tr w' (plP l) v' := by
  obtain ⟨a, c, rfl, ha1, ha2⟩ := NV.shape h
  have HI := hide h
  have HM := hide hM
  obtain ⟨L, hL⟩ : ∃ L, Hid (l.length = L) := ⟨_, hide rfl⟩
  rw [unhide hL] at HI hN ha1 ⊢
  unfold maxLen at ha2
  clear h hM
  have H0 : Hid (GS w (plP (l.take 0)) (.slice none 0 0) [] w) := GS.start w
  go_enter Try.func15, Try.ntmps15
  go_wp2_with fail
  go_loopg [4, 3] L (fun gg t4 t3 wr => ∃ (i : Nat) (lv : Value) (rs : List InR), Hid (i + gg = L) ∧ t4 = .int .i64 (i : Int) ∧ t3 = lv ∧ Hid (GS w (plP (l.take i)) lv rs wr))
  case atStart => exact ⟨0, _, [], by unfold Hid; omega, rfl, rfl, H0⟩
  case round =>
    clear H0
    obtain ⟨i, lv, rs, hi, rfl, elx, hC⟩ := hrel
    obtain rfl := elx.symm
    obtain ⟨la, lc, elv, hlv1, hlv2⟩ := (unhide hC).row.shape
    obtain ⟨PL, hPL⟩ : ∃ z, Hid ((plP (l.take i)).length = z) := ⟨_, hide rfl⟩
    rw [unhide hPL] at elv
    subst elv
    by_cases hlt : i < L
    case neg =>
      have hiL : i = L := by have := unhide hi; omega
      have i1 : ¬ (i : Int) < (L : Int) := by omega
      have HF : Hid (Below w.heap.size w wr ∧ InsV Tr wr (plP l) (.slice la PL lc)) := by
        have q := (unhide hC).ins
        rw [hiL, ← unhide hL, List.take_length] at q
        exact ⟨(unhide hC).bl, q⟩
      clear hiL
      go_wp2_with fail
      go_ret
      first | exact ⟨_, rfl, unhide HF⟩ | exact unhide HF
    have hil : i < l.length := by rw [unhide hL]; exact hlt
    obtain ⟨x, hx⟩ : ∃ p, l[i]? = some p := ⟨_, List.getElem?_eq_getElem hil⟩
    obtain ⟨ab, ao, _, r, e1, hab, _, f, xc⟩ := NV.at zIn (show NV enIn 8 InP D w l (.slice a L c) from unhide HI) hx
    rw [unhide hL] at e1
    cases e1
    obtain ⟨rop, rcode, rdst, rav, rn, rpc, rneed, rev⟩ := r
    obtain ⟨h1, h2, h3, h4, h5, h6, h7, h8⟩ := f
    simp only at h1 h2 h3 h4 h5 h6 h7 h8
    obtain ⟨aa, ac, ea1, hva1, hva2⟩ := h7.1.shape
    obtain ⟨ea, ec, ee1, hve1, hve2⟩ := NV.shape h8
    subst ea1 ee1 h1 h2 h3 h4 h5 h6
    have HE := hide h8
    have HOX := hide (unhide HM x (List.mem_of_getElem? hx))
    obtain ⟨AL, hAL⟩ : ∃ z, Hid (x.args.length = z) := ⟨_, hide rfl⟩
    obtain ⟨EL, hEL⟩ : ∃ z, Hid (x.ex.length = z) := ⟨_, hide rfl⟩
    rw [unhide hAL] at xc hva1
    rw [unhide hEL] at xc hve1 HE
    have x0 := ((unhide hC).bl.cell (p := ⟨ab, ao + i * 8 + 0, none⟩) hab).trans (xc 0 _ rfl)
    have x1 := ((unhide hC).bl.cell (p := ⟨ab, ao + i * 8 + 1, none⟩) hab).trans (xc 1 _ rfl)
    have x2 := ((unhide hC).bl.cell (p := ⟨ab, ao + i * 8 + 2, none⟩) hab).trans (xc 2 _ rfl)
    have x3 := ((unhide hC).bl.cell (p := ⟨ab, ao + i * 8 + 3, none⟩) hab).trans (xc 3 _ rfl)
    have x4 := ((unhide hC).bl.cell (p := ⟨ab, ao + i * 8 + 4, none⟩) hab).trans (xc 4 _ rfl)
    have x5 := ((unhide hC).bl.cell (p := ⟨ab, ao + i * 8 + 5, none⟩) hab).trans (xc 5 _ rfl)
    have x6 := ((unhide hC).bl.cell (p := ⟨ab, ao + i * 8 + 6, none⟩) hab).trans (xc 6 _ rfl)
    have x7 := ((unhide hC).bl.cell (p := ⟨ab, ao + i * 8 + 7, none⟩) hab).trans (xc 7 _ rfl)
    simp only [Nat.add_zero] at x0
    have hlw := Nat.lt_of_lt_of_le hab (unhide hC).bl.size
    have i0 : (0 : Int) ≤ (i : Int) := by omega
    have i1 : (i : Int) < (L : Int) := by omega
    unfold maxLen at hva2 hve2
    have hAN : AL ≤ 1048576 := by have := (unhide HOX).1; have := unhide hAL; omega
    have hEN : EL ≤ 1048576 := by have := (unhide HOX).2.1; have := unhide hEL; omega
    have HPP := hide (plP_push hx)
    obtain ⟨P5, hP⟩ : ∃ z, Hid (wr.heap.size = z) := ⟨_, hide rfl⟩
    have HC5 := hide ((unhide hC).on (box1n wr (.cells #[.int .i64 x.op, .int .i64 x.code, .int .i64 x.dst, .slice aa AL ac, .int .i64 x.n, .int .i64 x.pc, .int .i64 x.need, .slice ea EL ec] 50)))
    have H5 := hide ((BX.nil wr).add #[.int .i64 x.op, .int .i64 x.code, .int .i64 x.dst, .slice aa AL ac, .int .i64 x.n, .int .i64 x.pc, .int .i64 x.need, .slice ea EL ec] 50)
    simp only [List.nil_append] at H5
    clear xc h7 h8 hx
    by_cases m1 : x.op = 1
    case pos =>
      have e1 : (x.op == 1) = true := by simp [m1]
      have HC6 : Hid (GS w (plP (l.take (i + 1))) (.slice la PL lc) rs (wr.alloc (.cells #[.int .i64 x.op, .int .i64 x.code, .int .i64 x.dst, .slice aa AL ac, .int .i64 x.n, .int .i64 x.pc, .int .i64 x.need, .slice ea EL ec] 50))) := by
        have q := unhide HPP
        rw [if_pos m1] at q
        rw [q]
        exact HC5
      clear m1
      go_wp2_with fail
      go_roundg (gk - 1)
      case measure => have := unhide hi; omega
      case rel => exact ⟨i + 1, _, rs, by have := unhide hi; unfold Hid; omega, by go_num, rfl, HC6⟩
    have e1 : (x.op == 1) = false := by simp [m1]
    have HNP := hide ((unhide HPP).trans (if_neg m1))
    obtain ⟨W5, hW5⟩ : ∃ W, Hid (wr.alloc (.cells #[.int .i64 x.op, .int .i64 x.code, .int .i64 x.dst, .slice aa AL ac, .int .i64 x.n, .int .i64 x.pc, .int .i64 x.need, .slice ea EL ec] 50) = W) := ⟨_, hide rfl⟩
    obtain ⟨G0, hG0⟩ : ∃ G0, Hid (gk = G0) := ⟨_, hide rfl⟩
    rw [unhide hW5] at HC5 H5
    rw [unhide hP] at H5
    have HW5S : Hid (W5.heap.size = P5 + 1) := by rw [← unhide hW5, ← unhide hP]; exact World.size_alloc _ _
    have H0 : Hid (GH W5 ((x.ex.take 0).map plS) (.slice none 0 0) [] W5) := GH.start W5
    have c7 := (unhide H5).ce 0 rfl 7
    have cl := (unhide H5).lt (i := 0) rfl
    simp at c7 cl
    go_wp2_with fail
    rw [unhide hW5, unhide hP]
    clear x0 x1 x2 x3 x4 x5 x6 x7 hlw m1 HPP c7 cl
    go_loopg [7, 6] EL (fun gg t7 t6 wq => ∃ (k : Nat) (gv : Value) (gs : List ShR), Hid (k + gg = EL) ∧ t7 = .int .i64 (k : Int) ∧ t6 = gv ∧ Hid (GH W5 ((x.ex.take k).map plS) gv gs wq))
    case atStart => exact ⟨0, _, [], by unfold Hid; omega, rfl, rfl, H0⟩
    case round =>
      clear H0
      obtain ⟨k, gv, gs, hk, rfl, elx, hH⟩ := hrel
      obtain rfl := elx.symm
      have c7 := ((unhide H5).go (unhide hH).bl).ce 0 rfl 7
      have cl := ((unhide H5).go (unhide hH).bl).lt (i := 0) rfl
      simp at c7 cl
      by_cases hlk : k < EL
      case neg =>
        have hkL : k = EL := by have := unhide hk; omega
        have j1 : ¬ (k : Int) < (EL : Int) := by omega
        have HSH : Hid (ShsV (fun q => W5.heap.size ≤ q) wr (x.ex.map plS) gv) := by
          have q := (unhide hH).shs
          rw [hkL, ← unhide hEL, List.take_length] at q
          exact q
        obtain ⟨ga, gc, egv, -, -⟩ := NV.shape (unhide HSH)
        rw [List.length_map, unhide hEL] at egv
        subst egv
        clear hkL
        go_wp2_with fail
        clear c7 cl
        obtain ⟨Y, hY⟩ : ∃ W, Hid (wr.drew = W) := ⟨_, hide rfl⟩
        have HBY0 : Hid (Below wr.heap.size wr Y) := by rw [← unhide hY]; exact ⟨rfl, rfl, rfl, Nat.le_refl _, fun _ _ => rfl⟩
        have HBY : Hid (Below W5.heap.size W5 Y) := bl_past (unhide hH).bl (unhide HBY0)
        have HSHY := hide (ShsV.mv.bel (unhide HSH) (unhide HBY0))
        have HCE : Hid (∀ W, Fr (fun q => (Value.slice la PL lc).ownBlock = some q) Y W → W.cell? ⟨P5, 0, none⟩ = some (.int .i64 x.op) ∧ W.cell? ⟨P5, 1, none⟩ = some (.int .i64 x.code) ∧ W.cell? ⟨P5, 2, none⟩ = some (.int .i64 x.dst) ∧ W.cell? ⟨P5, 3, none⟩ = some (.slice aa AL ac) ∧ W.cell? ⟨P5, 4, none⟩ = some (.int .i64 x.n) ∧ W.cell? ⟨P5, 5, none⟩ = some (.int .i64 x.pc) ∧ W.cell? ⟨P5, 6, none⟩ = some (.int .i64 x.need)) := fun W hW => by
          have zy := (unhide H5).go (unhide HBY)
          have z := blk_cells ((hW.block P5 (zy.lt (i := 0) rfl) (fun e => by have := (unhide hC).row.lt P5 e; have := unhide hP; omega)).trans (zy.h 0 _ rfl))
          exact ⟨z.1 0, z.1 1, z.1 2, z.1 3, z.1 4, z.1 5, z.1 6⟩
        have HSY : Hid (Fr (fun q => (Value.slice la PL lc).ownBlock = some q) Y Y) := Fr.refl _ _
        have hmk := mkO hAN Y
        refine wp_region_held_drew (S := fun W => Fr (fun q => (Value.slice la PL lc).ownBlock = some q) Y W) (by kernel_rfl) (by rw [unhide hY]; exact Fr.refl _ _) (fun hHeld => ?_)
        clear hHeld
        rw [unhide hY]
        clear hY
        refine wpAnyH_take (i := 0) (oi := _) (v := .slice la PL lc) rfl (by kernel_rfl) (by kernel_rfl) (by kernel_rfl) (fun _ _ _ h => h) (Or.inl ⟨by rfl, (by intro w' hSw; obtain ⟨z0, z1, z2, z3, z4, z5, z6⟩ := unhide HCE w' hSw; go_simp)⟩) (unhide HSY) ?_
        go_simp
        refine wpAnyH_take (i := 1) (oi := _) (v := .pointer (some ⟨P5, 0, none⟩)) rfl (by kernel_rfl) (by kernel_rfl) (by kernel_rfl) (fun _ _ _ h => h) (Or.inl ⟨by rfl, (by intro w' hSw; obtain ⟨z0, z1, z2, z3, z4, z5, z6⟩ := unhide HCE w' hSw; go_simp)⟩) (unhide HSY) ?_
        go_simp
        refine wpAnyH_take (i := 2) (oi := _) (v := .int .i64 x.op) rfl (by kernel_rfl) (by kernel_rfl) (by kernel_rfl) (fun _ _ _ h => h) (Or.inl ⟨by rfl, (by intro w' hSw; obtain ⟨z0, z1, z2, z3, z4, z5, z6⟩ := unhide HCE w' hSw; go_simp)⟩) (unhide HSY) ?_
        go_simp
        refine wpAnyH_take (i := 3) (oi := _) (v := .pointer (some ⟨P5, 1, none⟩)) rfl (by kernel_rfl) (by kernel_rfl) (by kernel_rfl) (fun _ _ _ h => h) (Or.inl ⟨by rfl, (by intro w' hSw; obtain ⟨z0, z1, z2, z3, z4, z5, z6⟩ := unhide HCE w' hSw; go_simp)⟩) (unhide HSY) ?_
        go_simp
        refine wpAnyH_take (i := 4) (oi := _) (v := .int .i64 x.code) rfl (by kernel_rfl) (by kernel_rfl) (by kernel_rfl) (fun _ _ _ h => h) (Or.inl ⟨by rfl, (by intro w' hSw; obtain ⟨z0, z1, z2, z3, z4, z5, z6⟩ := unhide HCE w' hSw; go_simp)⟩) (unhide HSY) ?_
        go_simp
        refine wpAnyH_take (i := 5) (oi := _) (v := .pointer (some ⟨P5, 2, none⟩)) rfl (by kernel_rfl) (by kernel_rfl) (by kernel_rfl) (fun _ _ _ h => h) (Or.inl ⟨by rfl, (by intro w' hSw; obtain ⟨z0, z1, z2, z3, z4, z5, z6⟩ := unhide HCE w' hSw; go_simp)⟩) (unhide HSY) ?_
        go_simp
        refine wpAnyH_take (i := 6) (oi := _) (v := .int .i64 x.dst) rfl (by kernel_rfl) (by kernel_rfl) (by kernel_rfl) (fun _ _ _ h => h) (Or.inl ⟨by rfl, (by intro w' hSw; obtain ⟨z0, z1, z2, z3, z4, z5, z6⟩ := unhide HCE w' hSw; go_simp)⟩) (unhide HSY) ?_
        go_simp
        refine wpAnyH_take (i := 7) (oi := _) (v := .pointer (some ⟨P5, 3, none⟩)) rfl (by kernel_rfl) (by kernel_rfl) (by kernel_rfl) (fun _ _ _ h => h) (Or.inl ⟨by rfl, (by intro w' hSw; obtain ⟨z0, z1, z2, z3, z4, z5, z6⟩ := unhide HCE w' hSw; go_simp)⟩) (unhide HSY) ?_
        go_simp
        refine wpAnyH_take (i := 8) (oi := _) (v := .slice aa AL ac) rfl (by kernel_rfl) (by kernel_rfl) (by kernel_rfl) (fun _ _ _ h => h) (Or.inl ⟨by rfl, (by intro w' hSw; obtain ⟨z0, z1, z2, z3, z4, z5, z6⟩ := unhide HCE w' hSw; go_simp)⟩) (unhide HSY) ?_
        go_simp
        refine wpAnyH_take (i := 9) (oi := _) (v := .int .i64 (AL : Int)) rfl (by kernel_rfl) (by kernel_rfl) (by kernel_rfl) (fun _ _ _ h => h) (Or.inl ⟨by rfl, (by intro w' hSw; obtain ⟨z0, z1, z2, z3, z4, z5, z6⟩ := unhide HCE w' hSw; go_simp)⟩) (unhide HSY) ?_
        go_simp
        refine wpAnyH_take (i := 11) (oi := _) (v := .pointer (some ⟨P5, 4, none⟩)) rfl (by kernel_rfl) (by kernel_rfl) (by kernel_rfl) (fun _ _ _ h => h) (Or.inl ⟨by rfl, (by intro w' hSw; obtain ⟨z0, z1, z2, z3, z4, z5, z6⟩ := unhide HCE w' hSw; go_simp)⟩) (unhide HSY) ?_
        go_simp
        refine wpAnyH_take (i := 12) (oi := _) (v := .int .i64 x.n) rfl (by kernel_rfl) (by kernel_rfl) (by kernel_rfl) (fun _ _ _ h => h) (Or.inl ⟨by rfl, (by intro w' hSw; obtain ⟨z0, z1, z2, z3, z4, z5, z6⟩ := unhide HCE w' hSw; go_simp)⟩) (unhide HSY) ?_
        go_simp
        refine wpAnyH_take (i := 13) (oi := _) (v := .pointer (some ⟨P5, 5, none⟩)) rfl (by kernel_rfl) (by kernel_rfl) (by kernel_rfl) (fun _ _ _ h => h) (Or.inl ⟨by rfl, (by intro w' hSw; obtain ⟨z0, z1, z2, z3, z4, z5, z6⟩ := unhide HCE w' hSw; go_simp)⟩) (unhide HSY) ?_
        go_simp
        refine wpAnyH_take (i := 14) (oi := _) (v := .int .i64 x.pc) rfl (by kernel_rfl) (by kernel_rfl) (by kernel_rfl) (fun _ _ _ h => h) (Or.inl ⟨by rfl, (by intro w' hSw; obtain ⟨z0, z1, z2, z3, z4, z5, z6⟩ := unhide HCE w' hSw; go_simp)⟩) (unhide HSY) ?_
        go_simp
        refine wpAnyH_take (i := 15) (oi := _) (v := .pointer (some ⟨P5, 6, none⟩)) rfl (by kernel_rfl) (by kernel_rfl) (by kernel_rfl) (fun _ _ _ h => h) (Or.inl ⟨by rfl, (by intro w' hSw; obtain ⟨z0, z1, z2, z3, z4, z5, z6⟩ := unhide HCE w' hSw; go_simp)⟩) (unhide HSY) ?_
        go_simp
        refine wpAnyH_take (i := 16) (oi := _) (v := .int .i64 x.need) rfl (by kernel_rfl) (by kernel_rfl) (by kernel_rfl) (fun _ _ _ h => h) (Or.inl ⟨by rfl, (by intro w' hSw; obtain ⟨z0, z1, z2, z3, z4, z5, z6⟩ := unhide HCE w' hSw; go_simp)⟩) (unhide HSY) ?_
        go_simp
        refine wpAnyH_take (i := 17) (oi := _) (v := .slice ga EL gc) rfl (by kernel_rfl) (by kernel_rfl) (by kernel_rfl) (fun _ _ _ h => h) (Or.inl ⟨by rfl, (by intro w' hSw; obtain ⟨z0, z1, z2, z3, z4, z5, z6⟩ := unhide HCE w' hSw; go_simp)⟩) (unhide HSY) ?_
        go_simp
        refine wpAnyH_ready (rs := [10]) (by kernel_rfl) (by simp) ?_
        refine AllReadyH.cons (o := _) rfl (fun K hK => ?_) AllReadyH.nil
        go_simp
        have HS1 : Hid (Fr (fun q => (Value.slice la PL lc).ownBlock = some q) Y (Y.alloc (.cells (madeCells (Value.agg #[.int .i64 0, .int .i64 0]).cells (AL * 2)) 52))) := Fr.of_below (box1n Y _)
        refine hK.out _ _ (unhide HS1) (fun _ => ?_)
        clear hK K
        go_simp
        refine wpAnyH_take (i := 18) (oi := _) (v := .agg #[.int .i64 x.op, .int .i64 x.code, .int .i64 x.dst, .slice (some ⟨Y.heap.size, 0, none⟩) AL AL, .int .i64 x.n, .int .i64 x.pc, .int .i64 x.need, .slice ga EL gc]) rfl (by kernel_rfl) (by kernel_rfl) (by kernel_rfl) (fun _ _ _ h => h) (Or.inl ⟨by rfl, (by intro w' hSw; obtain ⟨z0, z1, z2, z3, z4, z5, z6⟩ := unhide HCE w' hSw; go_simp)⟩) (unhide HS1) ?_
        go_simp
        refine wpAnyH_ready (rs := [19]) (by kernel_rfl) (by simp) ?_
        refine AllReadyH.cons (o := _) rfl (fun K hK => ?_) AllReadyH.nil
        go_simp
        have HB2 : Hid (Below Y.heap.size Y ((Y.alloc (.cells (madeCells (Value.agg #[.int .i64 0, .int .i64 0]).cells (AL * 2)) 52)).alloc (.cells #[.int .i64 x.op, .int .i64 x.code, .int .i64 x.dst, .slice (some ⟨Y.heap.size, 0, none⟩) AL AL, .int .i64 x.n, .int .i64 x.pc, .int .i64 x.need, .slice ga EL gc] 50))) := bl_two Y _ _
        have HS2 : Hid (Fr (fun q => (Value.slice la PL lc).ownBlock = some q) Y ((Y.alloc (.cells (madeCells (Value.agg #[.int .i64 0, .int .i64 0]).cells (AL * 2)) 52)).alloc (.cells #[.int .i64 x.op, .int .i64 x.code, .int .i64 x.dst, .slice (some ⟨Y.heap.size, 0, none⟩) AL AL, .int .i64 x.n, .int .i64 x.pc, .int .i64 x.need, .slice ga EL gc] 50))) := Fr.of_below (unhide HB2)
        refine hK.out _ _ (unhide HS2) (fun _ => ?_)
        clear hK K
        go_simp
        have HSHZ := hide (ShsV.mv.bel (unhide HSHY) (unhide HB2))
        have HC6 := hide ((unhide HC5).on (bl_past (unhide HBY) (unhide HB2)))
        have HXP : Hid (InP (fun q => W5.heap.size ≤ q) ((Y.alloc (.cells (madeCells (Value.agg #[.int .i64 0, .int .i64 0]).cells (AL * 2)) 52)).alloc (.cells #[.int .i64 x.op, .int .i64 x.code, .int .i64 x.dst, .slice (some ⟨Y.heap.size, 0, none⟩) AL AL, .int .i64 x.n, .int .i64 x.pc, .int .i64 x.need, .slice ga EL gc] 50)) (plI x) ⟨x.op, x.code, x.dst, .slice (some ⟨Y.heap.size, 0, none⟩) AL AL, x.n, x.pc, x.need, .slice ga EL gc⟩) := by
          refine ⟨rfl, rfl, rfl, rfl, rfl, rfl, ⟨?_, fun _ q hq => ?_⟩, unhide HSHZ⟩
          · have q := Rx.box1 (n := AL) (sz := 2) (heap_alloc_new Y (.cells (madeCells (Value.agg #[.int .i64 0, .int .i64 0]).cells (AL * 2)) 52)) (size_mc _ _) (by unfold maxLen; omega)
            rw [made_op] at q
            show Rx _ 2 _ (List.replicate x.args.length zOp).length (flt enO (List.replicate x.args.length zOp))
            rw [unhide hAL, List.length_replicate]
            exact q.below (box1n _ _) (Nat.le_refl _)
          · cases hq
            exact (unhide HBY).size
        have hlen2 : (plP (l.take i)).length ≤ 1048576 := by
          have a1 : (plP (l.take i)).length ≤ (l.take i).length := by unfold plP; rw [List.length_map]; exact List.length_filter_le _ _
          have a2 : (l.take i).length ≤ i := by rw [List.length_take]; omega
          omega
        obtain ⟨v', Z, hrun, hZr, hZg, hZa⟩ := runIn ⟨x.op, x.code, x.dst, .slice (some ⟨Y.heap.size, 0, none⟩) AL AL, x.n, x.pc, x.need, .slice ga EL gc⟩ (unhide HC6).row (heap_alloc_new (Y.alloc (.cells (madeCells (Value.agg #[.int .i64 0, .int .i64 0]).cells (AL * 2)) 52)) (.cells #[.int .i64 x.op, .int .i64 x.code, .int .i64 x.dst, .slice (some ⟨Y.heap.size, 0, none⟩) AL AL, .int .i64 x.n, .int .i64 x.pc, .int .i64 x.need, .slice ga EL gc] 50)) rfl rfl hlen2 40
        simp only [World.size_alloc] at hrun
        have HGN : Hid (GS w (plP (l.take (i + 1))) v' (rs ++ [⟨x.op, x.code, x.dst, .slice (some ⟨Y.heap.size, 0, none⟩) AL AL, x.n, x.pc, x.need, .slice ga EL gc⟩]) Z) := by
          unfold Hid
          rw [unhide HNP]
          exact (unhide HC5).push (bl_past (unhide HBY) (unhide HB2)) (unhide HXP) hZr rfl hZg hZa
        have HS3 : Hid (Fr (fun q => (Value.slice la PL lc).ownBlock = some q) Y Z) := (unhide HS2).trans ((Fr.refl (fun q => (Value.slice la PL lc).ownBlock = some q) _).grown hZg (fun q e => .inr e) |> fun f => ⟨f.os, f.tape, f.output, f.size, f.block⟩)
        clear hZr hZg hZa HXP
        refine wpAnyH_ready (rs := [20]) (by kernel_rfl) (by simp) ?_
        refine AllReadyH.cons (o := _) rfl (fun K hK => ?_) AllReadyH.nil
        refine step_appRun rfl _ _ (by rfl) _ _ _ (by rfl) (by rfl) hrun ?_
        refine hK.out _ _ (unhide HS3) (fun _ => ?_)
        clear hK K
        go_simp
        refine wpAnyH_ready (rs := [21]) (by kernel_rfl) (by simp) ?_
        refine AllReadyH.cons (o := _) rfl (fun K hK => ?_) AllReadyH.nil
        go_simp
        refine hK.out _ _ (unhide HS3) (fun _ => ?_)
        clear hK K
        go_simp
        refine wpAnyH_done (by kernel_rfl) ?_ _
        clear hrun hmk HCE HS1 HS2 HS3 HSY
        go_wp2_with fail
        go_roundg (G0 - 1)
        case measure => have h1 := unhide hG0; have h2 := unhide hi; omega
        case rel => exact ⟨i + 1, v', _, by have h1 := unhide hG0; have h2 := unhide hi; unfold Hid; omega, by go_num, rfl, HGN⟩
      have hkl : k < x.ex.length := by rw [unhide hEL]; exact hlk
      obtain ⟨s, hs⟩ : ∃ p, x.ex[k]? = some p := ⟨_, List.getElem?_eq_getElem hkl⟩
      obtain ⟨eb, eo, _, q, e1, heb, _, ⟨f1, f2, f3⟩, ec0⟩ := NV.at zSh (show NV enSh 3 ShP D w x.ex (.slice ea EL ec) from unhide HE) hs
      rw [unhide hEL] at e1
      cases e1
      obtain ⟨qfn, qpc, qv⟩ := q
      simp only at f1 f2 f3
      subst f1 f2
      obtain ⟨sa, sc, es, hs1, hs2⟩ := f3.1.shape
      subst es
      obtain ⟨SL, hSL⟩ : ∃ z, Hid (s.sl.length = z) := ⟨_, hide rfl⟩
      rw [unhide hSL] at ec0 hs1
      have hSN : SL ≤ 1048576 := by have := (unhide HOX).2.2 s (List.mem_of_getElem? hs); have := unhide hSL; omega
      obtain ⟨ga, gc, egv, hgl1, hgl2⟩ := (unhide hH).row.shape
      obtain ⟨GL, hGL⟩ : ∃ z, Hid (((x.ex.take k).map plS).length = z) := ⟨_, hide rfl⟩
      rw [unhide hGL] at egv
      subst egv
      have i0 : (0 : Int) ≤ (k : Int) := by omega
      have i1 : (k : Int) < (EL : Int) := by omega
      unfold maxLen at hs2
      have HTK : Hid ((x.ex.take (k + 1)).map plS = (x.ex.take k).map plS ++ [plS s]) := by unfold Hid; rw [take_push hs, List.map_append]; rfl
      have HEC := hide ec0
      clear ec0 f3 hs
      go_wp2_with fail
      clear c7 cl
      obtain ⟨Y, hY⟩ : ∃ W, Hid (wr.drew = W) := ⟨_, hide rfl⟩
      have HBY0 : Hid (Below wr.heap.size wr Y) := by rw [← unhide hY]; exact ⟨rfl, rfl, rfl, Nat.le_refl _, fun _ _ => rfl⟩
      have HBY : Hid (Below W5.heap.size W5 Y) := bl_past (unhide hH).bl (unhide HBY0)
      have HHY := hide ((unhide hH).on (unhide HBY0))
      have HGB : Hid (∀ q, (Value.slice ga GL gc).ownBlock = some q → W5.heap.size ≤ q) := (unhide hH).rb
      have HCE : Hid (∀ W, Fr (fun q => (Value.slice ga GL gc).ownBlock = some q) Y W → W.cell? ⟨P5, 7, none⟩ = some (.slice (some ⟨eb, eo, none⟩) EL ec) ∧ W.cell? ⟨eb, eo + k * 3, none⟩ = some (.int .i64 s.fn) ∧ W.cell? ⟨eb, eo + k * 3 + 1, none⟩ = some (.int .i64 s.pc) ∧ W.cell? ⟨eb, eo + k * 3 + 2, none⟩ = some (.slice sa SL sc)) := fun W hW => by
        have zy := (unhide H5).go (unhide HBY)
        have z := blk_cells ((hW.block P5 (zy.lt (i := 0) rfl) (fun e => by have := unhide HGB P5 e; have := unhide HW5S; omega)).trans (zy.h 0 _ rfl))
        have hw5 : w.heap.size ≤ W5.heap.size := (unhide HC5).bl.size
        have hbw := (unhide HC5).bl
        have hby := bl_past hbw (unhide HBY)
        have hys := hby.size
        have hne : ¬ (Value.slice ga GL gc).ownBlock = some eb := fun e => by have := unhide HGB eb e; omega
        have cc : ∀ j u, (enSh ⟨s.fn, s.pc, .slice sa SL sc⟩)[j]? = some u → W.cell? ⟨eb, eo + k * 3 + j, none⟩ = some u := fun j u hu => (hW.cell (a := ⟨eb, eo + k * 3 + j, none⟩) (Nat.lt_of_lt_of_le heb hys) hne).trans ((hby.cell (p := ⟨eb, eo + k * 3 + j, none⟩) heb).trans (unhide HEC j u hu))
        exact ⟨z.1 7, cc 0 _ rfl, cc 1 _ rfl, cc 2 _ rfl⟩
      have HSY : Hid (Fr (fun q => (Value.slice ga GL gc).ownBlock = some q) Y Y) := Fr.refl _ _
      have hmk := mkO hSN Y
      refine wp_region_held_drew (S := fun W => Fr (fun q => (Value.slice ga GL gc).ownBlock = some q) Y W) (by kernel_rfl) (by rw [unhide hY]; exact Fr.refl _ _) (fun hHeld => ?_)
      clear hHeld
      rw [unhide hY]
      clear hY
      refine wpAnyH_take (i := 0) (oi := _) (v := .slice ga GL gc) rfl (by kernel_rfl) (by kernel_rfl) (by kernel_rfl) (fun _ _ _ h => h) (Or.inl ⟨by rfl, (by intro w' hSw; obtain ⟨s0, s1, s2, s3⟩ := unhide HCE w' hSw; go_simp)⟩) (unhide HSY) ?_
      go_simp
      refine wpAnyH_take (i := 1) (oi := _) (v := .pointer (some ⟨P5, 7, none⟩)) rfl (by kernel_rfl) (by kernel_rfl) (by kernel_rfl) (fun _ _ _ h => h) (Or.inl ⟨by rfl, (by intro w' hSw; obtain ⟨s0, s1, s2, s3⟩ := unhide HCE w' hSw; go_simp)⟩) (unhide HSY) ?_
      go_simp
      refine wpAnyH_take (i := 2) (oi := _) (v := .slice (some ⟨eb, eo, none⟩) EL ec) rfl (by kernel_rfl) (by kernel_rfl) (by kernel_rfl) (fun _ _ _ h => h) (Or.inl ⟨by rfl, (by intro w' hSw; obtain ⟨s0, s1, s2, s3⟩ := unhide HCE w' hSw; go_simp)⟩) (unhide HSY) ?_
      go_simp
      refine wpAnyH_take (i := 3) (oi := _) (v := .int .i64 (k : Int)) rfl (by kernel_rfl) (by kernel_rfl) (by kernel_rfl) (fun _ _ _ h => h) (Or.inl ⟨by rfl, (by intro w' hSw; obtain ⟨s0, s1, s2, s3⟩ := unhide HCE w' hSw; go_simp)⟩) (unhide HSY) ?_
      go_simp
      refine wpAnyH_take (i := 4) (oi := _) (v := .pointer (some ⟨eb, eo + k * 3, none⟩)) rfl (by kernel_rfl) (by kernel_rfl) (by kernel_rfl) (fun _ _ _ h => h) (Or.inl ⟨by rfl, (by intro w' hSw; obtain ⟨s0, s1, s2, s3⟩ := unhide HCE w' hSw; go_simp)⟩) (unhide HSY) ?_
      go_simp
      refine wpAnyH_take (i := 5) (oi := _) (v := .pointer (some ⟨eb, eo + k * 3, none⟩)) rfl (by kernel_rfl) (by kernel_rfl) (by kernel_rfl) (fun _ _ _ h => h) (Or.inl ⟨by rfl, (by intro w' hSw; obtain ⟨s0, s1, s2, s3⟩ := unhide HCE w' hSw; go_simp)⟩) (unhide HSY) ?_
      go_simp
      refine wpAnyH_take (i := 6) (oi := _) (v := .int .i64 s.fn) rfl (by kernel_rfl) (by kernel_rfl) (by kernel_rfl) (fun _ _ _ h => h) (Or.inl ⟨by rfl, (by intro w' hSw; obtain ⟨s0, s1, s2, s3⟩ := unhide HCE w' hSw; go_simp)⟩) (unhide HSY) ?_
      go_simp
      refine wpAnyH_take (i := 7) (oi := _) (v := .pointer (some ⟨P5, 7, none⟩)) rfl (by kernel_rfl) (by kernel_rfl) (by kernel_rfl) (fun _ _ _ h => h) (Or.inl ⟨by rfl, (by intro w' hSw; obtain ⟨s0, s1, s2, s3⟩ := unhide HCE w' hSw; go_simp)⟩) (unhide HSY) ?_
      go_simp
      refine wpAnyH_take (i := 8) (oi := _) (v := .slice (some ⟨eb, eo, none⟩) EL ec) rfl (by kernel_rfl) (by kernel_rfl) (by kernel_rfl) (fun _ _ _ h => h) (Or.inl ⟨by rfl, (by intro w' hSw; obtain ⟨s0, s1, s2, s3⟩ := unhide HCE w' hSw; go_simp)⟩) (unhide HSY) ?_
      go_simp
      refine wpAnyH_take (i := 9) (oi := _) (v := .int .i64 (k : Int)) rfl (by kernel_rfl) (by kernel_rfl) (by kernel_rfl) (fun _ _ _ h => h) (Or.inl ⟨by rfl, (by intro w' hSw; obtain ⟨s0, s1, s2, s3⟩ := unhide HCE w' hSw; go_simp)⟩) (unhide HSY) ?_
      go_simp
      refine wpAnyH_take (i := 10) (oi := _) (v := .pointer (some ⟨eb, eo + k * 3, none⟩)) rfl (by kernel_rfl) (by kernel_rfl) (by kernel_rfl) (fun _ _ _ h => h) (Or.inl ⟨by rfl, (by intro w' hSw; obtain ⟨s0, s1, s2, s3⟩ := unhide HCE w' hSw; go_simp)⟩) (unhide HSY) ?_
      go_simp
      refine wpAnyH_take (i := 11) (oi := _) (v := .pointer (some ⟨eb, eo + k * 3 + 1, none⟩)) rfl (by kernel_rfl) (by kernel_rfl) (by kernel_rfl) (fun _ _ _ h => h) (Or.inl ⟨by rfl, (by intro w' hSw; obtain ⟨s0, s1, s2, s3⟩ := unhide HCE w' hSw; go_simp)⟩) (unhide HSY) ?_
      go_simp
      refine wpAnyH_take (i := 12) (oi := _) (v := .int .i64 s.pc) rfl (by kernel_rfl) (by kernel_rfl) (by kernel_rfl) (fun _ _ _ h => h) (Or.inl ⟨by rfl, (by intro w' hSw; obtain ⟨s0, s1, s2, s3⟩ := unhide HCE w' hSw; go_simp)⟩) (unhide HSY) ?_
      go_simp
      refine wpAnyH_take (i := 13) (oi := _) (v := .pointer (some ⟨P5, 7, none⟩)) rfl (by kernel_rfl) (by kernel_rfl) (by kernel_rfl) (fun _ _ _ h => h) (Or.inl ⟨by rfl, (by intro w' hSw; obtain ⟨s0, s1, s2, s3⟩ := unhide HCE w' hSw; go_simp)⟩) (unhide HSY) ?_
      go_simp
      refine wpAnyH_take (i := 14) (oi := _) (v := .slice (some ⟨eb, eo, none⟩) EL ec) rfl (by kernel_rfl) (by kernel_rfl) (by kernel_rfl) (fun _ _ _ h => h) (Or.inl ⟨by rfl, (by intro w' hSw; obtain ⟨s0, s1, s2, s3⟩ := unhide HCE w' hSw; go_simp)⟩) (unhide HSY) ?_
      go_simp
      refine wpAnyH_take (i := 15) (oi := _) (v := .int .i64 (k : Int)) rfl (by kernel_rfl) (by kernel_rfl) (by kernel_rfl) (fun _ _ _ h => h) (Or.inl ⟨by rfl, (by intro w' hSw; obtain ⟨s0, s1, s2, s3⟩ := unhide HCE w' hSw; go_simp)⟩) (unhide HSY) ?_
      go_simp
      refine wpAnyH_take (i := 16) (oi := _) (v := .pointer (some ⟨eb, eo + k * 3, none⟩)) rfl (by kernel_rfl) (by kernel_rfl) (by kernel_rfl) (fun _ _ _ h => h) (Or.inl ⟨by rfl, (by intro w' hSw; obtain ⟨s0, s1, s2, s3⟩ := unhide HCE w' hSw; go_simp)⟩) (unhide HSY) ?_
      go_simp
      refine wpAnyH_take (i := 17) (oi := _) (v := .pointer (some ⟨eb, eo + k * 3 + 2, none⟩)) rfl (by kernel_rfl) (by kernel_rfl) (by kernel_rfl) (fun _ _ _ h => h) (Or.inl ⟨by rfl, (by intro w' hSw; obtain ⟨s0, s1, s2, s3⟩ := unhide HCE w' hSw; go_simp)⟩) (unhide HSY) ?_
      go_simp
      refine wpAnyH_take (i := 18) (oi := _) (v := .slice sa SL sc) rfl (by kernel_rfl) (by kernel_rfl) (by kernel_rfl) (fun _ _ _ h => h) (Or.inl ⟨by rfl, (by intro w' hSw; obtain ⟨s0, s1, s2, s3⟩ := unhide HCE w' hSw; go_simp)⟩) (unhide HSY) ?_
      go_simp
      refine wpAnyH_take (i := 19) (oi := _) (v := .int .i64 (SL : Int)) rfl (by kernel_rfl) (by kernel_rfl) (by kernel_rfl) (fun _ _ _ h => h) (Or.inl ⟨by rfl, (by intro w' hSw; obtain ⟨s0, s1, s2, s3⟩ := unhide HCE w' hSw; go_simp)⟩) (unhide HSY) ?_
      go_simp
      refine wpAnyH_ready (rs := [20]) (by kernel_rfl) (by simp) ?_
      refine AllReadyH.cons (o := _) rfl (fun K hK => ?_) AllReadyH.nil
      go_simp
      have HS1 : Hid (Fr (fun q => (Value.slice ga GL gc).ownBlock = some q) Y (Y.alloc (.cells (madeCells (Value.agg #[.int .i64 0, .int .i64 0]).cells (SL * 2)) 52))) := Fr.of_below (box1n Y _)
      refine hK.out _ _ (unhide HS1) (fun _ => ?_)
      clear hK K
      go_simp
      refine wpAnyH_take (i := 21) (oi := _) (v := .agg #[.int .i64 s.fn, .int .i64 s.pc, .slice (some ⟨Y.heap.size, 0, none⟩) SL SL]) rfl (by kernel_rfl) (by kernel_rfl) (by kernel_rfl) (fun _ _ _ h => h) (Or.inl ⟨by rfl, (by intro w' hSw; obtain ⟨s0, s1, s2, s3⟩ := unhide HCE w' hSw; go_simp)⟩) (unhide HS1) ?_
      go_simp
      refine wpAnyH_ready (rs := [22]) (by kernel_rfl) (by simp) ?_
      refine AllReadyH.cons (o := _) rfl (fun K hK => ?_) AllReadyH.nil
      go_simp
      have HB2 : Hid (Below Y.heap.size Y ((Y.alloc (.cells (madeCells (Value.agg #[.int .i64 0, .int .i64 0]).cells (SL * 2)) 52)).alloc (.cells #[.int .i64 s.fn, .int .i64 s.pc, .slice (some ⟨Y.heap.size, 0, none⟩) SL SL] 65))) := bl_two Y _ _
      have HS2 : Hid (Fr (fun q => (Value.slice ga GL gc).ownBlock = some q) Y ((Y.alloc (.cells (madeCells (Value.agg #[.int .i64 0, .int .i64 0]).cells (SL * 2)) 52)).alloc (.cells #[.int .i64 s.fn, .int .i64 s.pc, .slice (some ⟨Y.heap.size, 0, none⟩) SL SL] 65))) := Fr.of_below (unhide HB2)
      refine hK.out _ _ (unhide HS2) (fun _ => ?_)
      clear hK K
      go_simp
      have HXP : Hid (ShP (fun q => wr.heap.size ≤ q) ((Y.alloc (.cells (madeCells (Value.agg #[.int .i64 0, .int .i64 0]).cells (SL * 2)) 52)).alloc (.cells #[.int .i64 s.fn, .int .i64 s.pc, .slice (some ⟨Y.heap.size, 0, none⟩) SL SL] 65)) (plS s) ⟨s.fn, s.pc, .slice (some ⟨Y.heap.size, 0, none⟩) SL SL⟩) := by
        refine ⟨rfl, rfl, ?_, fun _ q hq => ?_⟩
        · have q := Rx.box1 (n := SL) (sz := 2) (heap_alloc_new Y (.cells (madeCells (Value.agg #[.int .i64 0, .int .i64 0]).cells (SL * 2)) 52)) (size_mc _ _) (by unfold maxLen; omega)
          rw [made_op] at q
          show Rx _ 2 _ (List.replicate s.sl.length zOp).length (flt enO (List.replicate s.sl.length zOp))
          rw [unhide hSL, List.length_replicate]
          exact q.below (box1n _ _) (Nat.le_refl _)
        · cases hq
          exact (unhide HBY0).size
      have HH2 := hide ((unhide HHY).on (unhide HB2))
      have hglen : ((x.ex.take k).map plS).length ≤ 1048576 := by rw [List.length_map, List.length_take]; omega
      obtain ⟨v', Z, hrun, hZr, hZg, hZa⟩ := runSh ⟨s.fn, s.pc, .slice (some ⟨Y.heap.size, 0, none⟩) SL SL⟩ (unhide HH2).row (heap_alloc_new (Y.alloc (.cells (madeCells (Value.agg #[.int .i64 0, .int .i64 0]).cells (SL * 2)) 52)) (.cells #[.int .i64 s.fn, .int .i64 s.pc, .slice (some ⟨Y.heap.size, 0, none⟩) SL SL] 65)) rfl hglen 48
      simp only [World.size_alloc] at hrun
      have HGN : Hid (GH W5 ((x.ex.take (k + 1)).map plS) v' (gs ++ [⟨s.fn, s.pc, .slice (some ⟨Y.heap.size, 0, none⟩) SL SL⟩]) Z) := by
        unfold Hid
        rw [unhide HTK]
        exact (unhide hH).push (bl_past (unhide HBY0) (unhide HB2)) (unhide HXP) hZr rfl hZg hZa
      have HS3 : Hid (Fr (fun q => (Value.slice ga GL gc).ownBlock = some q) Y Z) := (unhide HS2).trans ((Fr.refl (fun q => (Value.slice ga GL gc).ownBlock = some q) _).grown hZg (fun q e => .inr e) |> fun f => ⟨f.os, f.tape, f.output, f.size, f.block⟩)
      clear hZr hZg hZa HXP
      refine wpAnyH_ready (rs := [23]) (by kernel_rfl) (by simp) ?_
      refine AllReadyH.cons (o := _) rfl (fun K hK => ?_) AllReadyH.nil
      refine step_appRun rfl _ _ (by rfl) _ _ _ (by rfl) (by rfl) hrun ?_
      refine hK.out _ _ (unhide HS3) (fun _ => ?_)
      clear hK K
      go_simp
      refine wpAnyH_ready (rs := [24]) (by kernel_rfl) (by simp) ?_
      refine AllReadyH.cons (o := _) rfl (fun K hK => ?_) AllReadyH.nil
      go_simp
      refine hK.out _ _ (unhide HS3) (fun _ => ?_)
      clear hK K
      go_simp
      refine wpAnyH_done (by kernel_rfl) ?_ _
      clear hrun hmk HCE HS1 HS2 HS3 HSY
      go_wp2_with fail
      go_roundg (gk - 1)
      case measure => have := unhide hk; omega
      case rel => exact ⟨k + 1, v', _, by have := unhide hk; unfold Hid; omega, by go_num, rfl, HGN⟩
end Go.Proofs.Ytpbdpejhjdoleaa
