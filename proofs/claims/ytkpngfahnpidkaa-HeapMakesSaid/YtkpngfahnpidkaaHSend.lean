/-
  Send.
-/
import Derived.Test.YtkpngfahnpidkaaHShut
namespace Go.Proofs.Ytkpngfahnpidkaa
open Go.RowKit
set_option linter.unusedVariables false

theorem Hp.pushIv {W w5 : World} {h : Nat} {bud sp : Int} {ov : Value} {os : List OD} (H : Hp W h bud sp ov os) {i : Nat} {o : OD} (ho : os[i]? = some o) {X : Obj} {v' : Value} {l : List (Int × Int)}
    (hr : Ro w5 2 v' l.length (flat l)) (hg : (W.alloc X).grownBy w5 o.iv.ownBlock) (hat : v'.ownBlock = o.iv.ownBlock ∨ v'.ownBlock = some (W.alloc X).heap.size) :
    w5.cell? ⟨o.b, o.ci, none⟩ = some o.iv ∧ w5.frozen? ⟨o.b, o.ci, none⟩ = false ∧ Hid (Now W h bud sp ov os (w5.setCell ⟨o.b, o.ci, none⟩ v') sp (os.set i { o with iv := v', its := l })) := by
  have f : Fr (fun k => o.iv.ownBlock = some k) W w5 := ((Fr.refl _ W).alloc X).grown hg (fun k hk => .inr hk)
  obtain ⟨a1, a2, a3, a4, a5⟩ := H.setIv ho f hr (by
    rcases hat with q | q
    · exact .inl q
    · right; intro k hk; rw [q] at hk; cases hk; simp)
  exact ⟨a1, a2, ov, a3, a4, a5⟩
theorem Now.own {w w' : World} {h : Nat} {bud sp sp' : Int} {ov : Value} {os os' : List OD} (N : Now w h bud sp ov os w' sp' os') : ∃ ov', Hp w' h bud sp' ov' os' := by
  obtain ⟨ov', h1, _⟩ := N
  exact ⟨ov', h1⟩
theorem chan_cells {w : World} {o : OD} (h : o.ok w) (hk : o.k = 9) : w.cell? ⟨o.b, 0, none⟩ = some (.int .i64 o.m) ∧ w.cell? ⟨o.b, 1, none⟩ = some o.iv ∧ w.cell? ⟨o.b, 2, none⟩ = some (.bool o.shut) :=
  ⟨h.cell 0 _ (by simp [OD.cells, hk]), h.cell 1 _ (by simp [OD.cells, hk]), h.cell 2 _ (by simp [OD.cells, hk])⟩
set_option maxRecDepth 100000 in
set_option maxHeartbeats 3200000 in
theorem send_none {w : World} {h : Nat} {bud sp : Int} {ov : Value} {os : List OD} (H : Hp w h bud sp ov os) (kk n xk xn : Int) (hm : ∀ o, nm os kk n = some o → o.k ≠ 9) :
    Calls Try.prog 13 #[.pointer (some ⟨h, 0, none⟩), .agg #[.int .i64 kk, .int .i64 n], .agg #[.int .i64 xk, .int .i64 xn]] w fun e w' => e = .returned (.tuple #[.bool false, .int .i64 1]) ∧ Below w.heap.size w w' := by
  have hB : Below w.heap.size w ((w.alloc (.cells #[.int .i64 kk, .int .i64 n] 33)).alloc (.cells #[.int .i64 xk, .int .i64 xn] 33)) := ((Below.refl _ _).alloc (Nat.le_refl _) _).alloc (by simp) _
  have HC := hide (channel_miss (H.below hB) kk n hm)
  have HB := hide hB
  have hz1 : (w.alloc (.cells #[.int .i64 kk, .int .i64 n] 33)).heap.size = w.heap.size + 1 := by simp
  have hz2 : ((w.alloc (.cells #[.int .i64 kk, .int .i64 n] 33)).alloc (.cells #[.int .i64 xk, .int .i64 xn] 33)).heap.size = w.heap.size + 2 := by simp
  obtain ⟨a0, a1⟩ := two_new w (.int .i64 kk) (.int .i64 n) 33
  have a0' : ((w.alloc (.cells #[.int .i64 kk, .int .i64 n] 33)).alloc (.cells #[.int .i64 xk, .int .i64 xn] 33)).cell? ⟨w.heap.size, 0, none⟩ = some (.int .i64 kk) := (World.cell?_of_block (Below.heap_alloc _ _ _ (by simp))).trans a0
  have a1' : ((w.alloc (.cells #[.int .i64 kk, .int .i64 n] 33)).alloc (.cells #[.int .i64 xk, .int .i64 xn] 33)).cell? ⟨w.heap.size, 1, none⟩ = some (.int .i64 n) := (World.cell?_of_block (Below.heap_alloc _ _ _ (by simp))).trans a1
  have HX := hide (two_new (w.alloc (.cells #[.int .i64 kk, .int .i64 n] 33)) (.int .i64 xk) (.int .i64 xn) 33)
  have hl := H.hlt
  clear H hB hm a0 a1
  go_enter Try.func13, Try.ntmps13
  go_wp2_with fail
  refine (unhide HC).mono ?_
  rintro e1 w1 ⟨rfl, hb1⟩
  have HB2 := hide ((unhide HB).trans (hb1.mono (unhide HB).size))
  clear hb1
  go_wp2_with fail
  go_ret2
  exact ⟨rfl, unhide HB2⟩
set_option maxRecDepth 100000 in
set_option maxHeartbeats 3200000 in
theorem send_shut {w : World} {h : Nat} {bud sp : Int} {ov : Value} {os : List OD} (H : Hp w h bud sp ov os) (kk n xk xn : Int) {o : OD} (hm : nm os kk n = some o) (hk : o.k = 9) (hs : o.shut = true) :
    Calls Try.prog 13 #[.pointer (some ⟨h, 0, none⟩), .agg #[.int .i64 kk, .int .i64 n], .agg #[.int .i64 xk, .int .i64 xn]] w fun e w' => e = .returned (.tuple #[.bool false, .int .i64 7]) ∧ Below w.heap.size w w' := by
  have hB : Below w.heap.size w ((w.alloc (.cells #[.int .i64 kk, .int .i64 n] 33)).alloc (.cells #[.int .i64 xk, .int .i64 xn] 33)) := ((Below.refl _ _).alloc (Nat.le_refl _) _).alloc (by simp) _
  have HC := hide (channel_hit (H.below hB) kk n hm hk)
  have HB := hide hB
  have hz1 : (w.alloc (.cells #[.int .i64 kk, .int .i64 n] 33)).heap.size = w.heap.size + 1 := by simp
  have hz2 : ((w.alloc (.cells #[.int .i64 kk, .int .i64 n] 33)).alloc (.cells #[.int .i64 xk, .int .i64 xn] 33)).heap.size = w.heap.size + 2 := by simp
  obtain ⟨a0, a1⟩ := two_new w (.int .i64 kk) (.int .i64 n) 33
  have a0' : ((w.alloc (.cells #[.int .i64 kk, .int .i64 n] 33)).alloc (.cells #[.int .i64 xk, .int .i64 xn] 33)).cell? ⟨w.heap.size, 0, none⟩ = some (.int .i64 kk) := (World.cell?_of_block (Below.heap_alloc _ _ _ (by simp))).trans a0
  have a1' : ((w.alloc (.cells #[.int .i64 kk, .int .i64 n] 33)).alloc (.cells #[.int .i64 xk, .int .i64 xn] 33)).cell? ⟨w.heap.size, 1, none⟩ = some (.int .i64 n) := (World.cell?_of_block (Below.heap_alloc _ _ _ (by simp))).trans a1
  have HX := hide (two_new (w.alloc (.cells #[.int .i64 kk, .int .i64 n] 33)) (.int .i64 xk) (.int .i64 xn) 33)
  have hl := H.hlt
  have HH := hide H
  have HK := hide (And.intro (nm_some hm).2.1 (And.intro hk hs))
  clear H hB hm hk a0 a1 hs
  go_enter Try.func13, Try.ntmps13
  go_wp2_with fail
  refine (unhide HC).mono ?_
  rintro e1 w1 ⟨rfl, hb1⟩
  have hb2 := (unhide HB).trans (hb1.mono (unhide HB).size)
  obtain ⟨ho, hk, hs⟩ := unhide HK
  have H1 := (unhide HH).below hb2
  have hok := H1.ok _ _ ho
  obtain ⟨c0, c1, c2⟩ := chan_cells hok hk
  obtain ⟨ia, icap, ie, icl, icm⟩ := hok.items.shape
  have hbl : o.b < w1.heap.size := hok.lt _ (.inl rfl)
  have HB2 := hide hb2
  rw [hs] at c2
  clear H1 hok ie hb1 hb2 ho hk hs c0 c1
  go_wp2_with fail
  go_ret2
  exact ⟨rfl, unhide HB2⟩
set_option maxRecDepth 100000 in
set_option maxHeartbeats 3200000 in
theorem send_full {w : World} {h : Nat} {bud sp : Int} {ov : Value} {os : List OD} (H : Hp w h bud sp ov os) (kk n xk xn : Int) {o : OD} (hm : nm os kk n = some o) (hk : o.k = 9) (hs : o.shut = false) (hf : o.m ≤ (o.its.length : Int)) :
    Calls Try.prog 13 #[.pointer (some ⟨h, 0, none⟩), .agg #[.int .i64 kk, .int .i64 n], .agg #[.int .i64 xk, .int .i64 xn]] w fun e w' => e = .returned (.tuple #[.bool false, .int .i64 0]) ∧ Below w.heap.size w w' := by
  have hB : Below w.heap.size w ((w.alloc (.cells #[.int .i64 kk, .int .i64 n] 33)).alloc (.cells #[.int .i64 xk, .int .i64 xn] 33)) := ((Below.refl _ _).alloc (Nat.le_refl _) _).alloc (by simp) _
  have HC := hide (channel_hit (H.below hB) kk n hm hk)
  have HB := hide hB
  have hz1 : (w.alloc (.cells #[.int .i64 kk, .int .i64 n] 33)).heap.size = w.heap.size + 1 := by simp
  have hz2 : ((w.alloc (.cells #[.int .i64 kk, .int .i64 n] 33)).alloc (.cells #[.int .i64 xk, .int .i64 xn] 33)).heap.size = w.heap.size + 2 := by simp
  obtain ⟨a0, a1⟩ := two_new w (.int .i64 kk) (.int .i64 n) 33
  have a0' : ((w.alloc (.cells #[.int .i64 kk, .int .i64 n] 33)).alloc (.cells #[.int .i64 xk, .int .i64 xn] 33)).cell? ⟨w.heap.size, 0, none⟩ = some (.int .i64 kk) := (World.cell?_of_block (Below.heap_alloc _ _ _ (by simp))).trans a0
  have a1' : ((w.alloc (.cells #[.int .i64 kk, .int .i64 n] 33)).alloc (.cells #[.int .i64 xk, .int .i64 xn] 33)).cell? ⟨w.heap.size, 1, none⟩ = some (.int .i64 n) := (World.cell?_of_block (Below.heap_alloc _ _ _ (by simp))).trans a1
  have HX := hide (two_new (w.alloc (.cells #[.int .i64 kk, .int .i64 n] 33)) (.int .i64 xk) (.int .i64 xn) 33)
  have hl := H.hlt
  have HH := hide H
  have HK := hide (And.intro (nm_some hm).2.1 (And.intro hk (And.intro hs hf)))
  clear H hB hm hk a0 a1 hs hf
  go_enter Try.func13, Try.ntmps13
  go_wp2_with fail
  refine (unhide HC).mono ?_
  rintro e1 w1 ⟨rfl, hb1⟩
  have hb2 := (unhide HB).trans (hb1.mono (unhide HB).size)
  obtain ⟨ho, hk, hs⟩ := unhide HK
  have H1 := (unhide HH).below hb2
  have hok := H1.ok _ _ ho
  obtain ⟨c0, c1, c2⟩ := chan_cells hok hk
  obtain ⟨ia, icap, ie, icl, icm⟩ := hok.items.shape
  have hbl : o.b < w1.heap.size := hok.lt _ (.inl rfl)
  have HB2 := hide hb2
  obtain ⟨hs, hf⟩ := hs
  rw [hs] at c2
  rw [ie] at c1
  clear H1 hok ie hb1 hb2 ho hk hs
  have d1 : decide ((o.its.length : Int) ≥ o.m) = true := decide_eq_true hf
  go_wp2_with fail
  go_quiet (fail)
  go_wp2_with fail
  go_ret2
  exact ⟨rfl, (unhide HB2).trans ((Fr.drewN (S := fun _ => False) _).below (unhide HB2).size (fun _ _ e => e))⟩
set_option maxRecDepth 100000 in
set_option maxHeartbeats 3200000 in
theorem send_room {w : World} {h : Nat} {bud sp : Int} {ov : Value} {os : List OD} (H : Hp w h bud sp ov os) (kk n xk xn : Int) {o : OD} (hm : nm os kk n = some o) (hk : o.k = 9) (hs : o.shut = false) (hf : (o.its.length : Int) < o.m) (hN : o.its.length ≤ 8000000000000) :
    Calls Try.prog 13 #[.pointer (some ⟨h, 0, none⟩), .agg #[.int .i64 kk, .int .i64 n], .agg #[.int .i64 xk, .int .i64 xn]] w fun e w' => e = .returned (.tuple #[.bool true, .int .i64 0]) ∧ ∃ v', Now w h bud sp ov os w' sp (os.set n.toNat { o with iv := v', its := o.its ++ [(xk, xn)] }) := by
  have hB : Below w.heap.size w ((w.alloc (.cells #[.int .i64 kk, .int .i64 n] 33)).alloc (.cells #[.int .i64 xk, .int .i64 xn] 33)) := ((Below.refl _ _).alloc (Nat.le_refl _) _).alloc (by simp) _
  have HC := hide (channel_hit (H.below hB) kk n hm hk)
  have HB := hide hB
  have hz1 : (w.alloc (.cells #[.int .i64 kk, .int .i64 n] 33)).heap.size = w.heap.size + 1 := by simp
  have hz2 : ((w.alloc (.cells #[.int .i64 kk, .int .i64 n] 33)).alloc (.cells #[.int .i64 xk, .int .i64 xn] 33)).heap.size = w.heap.size + 2 := by simp
  obtain ⟨a0, a1⟩ := two_new w (.int .i64 kk) (.int .i64 n) 33
  have a0' : ((w.alloc (.cells #[.int .i64 kk, .int .i64 n] 33)).alloc (.cells #[.int .i64 xk, .int .i64 xn] 33)).cell? ⟨w.heap.size, 0, none⟩ = some (.int .i64 kk) := (World.cell?_of_block (Below.heap_alloc _ _ _ (by simp))).trans a0
  have a1' : ((w.alloc (.cells #[.int .i64 kk, .int .i64 n] 33)).alloc (.cells #[.int .i64 xk, .int .i64 xn] 33)).cell? ⟨w.heap.size, 1, none⟩ = some (.int .i64 n) := (World.cell?_of_block (Below.heap_alloc _ _ _ (by simp))).trans a1
  have HX := hide (two_new (w.alloc (.cells #[.int .i64 kk, .int .i64 n] 33)) (.int .i64 xk) (.int .i64 xn) 33)
  have hl := H.hlt
  have HH := hide H
  have HK := hide (And.intro (nm_some hm).2.1 (And.intro hk (And.intro hs (And.intro hf hN))))
  clear H hB hm hk a0 a1 hs hf hN
  go_enter Try.func13, Try.ntmps13
  go_wp2_with fail
  refine (unhide HC).mono ?_
  rintro e1 w1 ⟨rfl, hb1⟩
  have hb2 := (unhide HB).trans (hb1.mono (unhide HB).size)
  obtain ⟨ho, hk, hs⟩ := unhide HK
  have H1 := (unhide HH).below hb2
  have hok := H1.ok _ _ ho
  obtain ⟨c0, c1, c2⟩ := chan_cells hok hk
  obtain ⟨ia, icap, ie, icl, icm⟩ := hok.items.shape
  have hbl : o.b < w1.heap.size := hok.lt _ (.inl rfl)
  have HB2 := hide hb2
  obtain ⟨hs, hf, hN⟩ := hs
  rw [hs] at c2
  have d1 : decide ((o.its.length : Int) ≥ o.m) = false := decide_eq_false (by omega)
  have hqx : w.heap.size + 1 < ((w.alloc (.cells #[.int .i64 kk, .int .i64 n] 33)).alloc (.cells #[.int .i64 xk, .int .i64 xn] 33)).heap.size := by omega
  have x0 : w1.cell? ⟨w.heap.size + 1, 0, none⟩ = some (.int .i64 xk) := (hb1.cell (p := ⟨w.heap.size + 1, 0, none⟩) hqx).trans (by have := (unhide HX).1; rw [hz1] at this; exact this)
  have x1 : w1.cell? ⟨w.heap.size + 1, 1, none⟩ = some (.int .i64 xn) := (hb1.cell (p := ⟨w.heap.size + 1, 1, none⟩) hqx).trans (by have := (unhide HX).2; rw [hz1] at this; exact this)
  have hft : Hid (∀ k, Fts h ov os k → k < w.heap.size) := (unhide HH).lt
  have HH1 := hide H1
  have HO := hide ho
  have HKK := hide hk
  have HQW : Hid (w.heap.size + 1 < w1.heap.size) := World.block_lt_of_cell? _ _ x0
  rw [ie] at c1
  have IE := hide ie
  clear H1 hok ie hb1 hb2 ho hk hs hf
  go_wp2_with fail
  go_quiet (fail)
  have HW : Hid (∀ k, (∀ S : Nat → Prop, Fr S w1 (w1.drewN k))) := fun k S => Fr.drewN k
  have HBW : Hid (Below w.heap.size w (w1.drewN nq)) := (unhide HB2).trans ((Fr.drewN (S := fun _ => False) _).below (unhide HB2).size (fun _ _ e => e))
  have HHW : Hid (Hp (w1.drewN nq) h bud sp ov os) := (unhide HH1).keep (unhide HW nq (fun _ => False)) (fun _ _ e => e)
  have b0 : (w1.drewN nq).cell? ⟨w.heap.size + 1, 0, none⟩ = some (.int .i64 xk) := x0
  have b1 : (w1.drewN nq).cell? ⟨w.heap.size + 1, 1, none⟩ = some (.int .i64 xn) := x1
  have hc0 : (w1.drewN nq).cell? ⟨o.b, 1, none⟩ = some (.slice ia o.its.length icap) := c1
  have hbW : o.b < (w1.drewN nq).heap.size := hbl
  have hqW : Hid (w.heap.size + 1 < (w1.drewN nq).heap.size) := HQW
  have hqb : Hid (o.b ≠ w.heap.size + 1) := by
    have := unhide hft o.b (Fts.mine (unhide HO) (.inl rfl))
    unfold Hid; omega
  clear c0 c1 c2 x0 x1 hbl HQW HW HH1 d1 HB2
  generalize w1.drewN nq = W at *
  have hnq : Hid ((Value.slice ia o.its.length icap).ownBlock ≠ some (w.heap.size + 1)) := by
    rw [← unhide IE]
    intro e
    have := unhide hft (w.heap.size + 1) (Fts.mine (unhide HO) (.inr (.inl e)))
    omega
  have HRo : Hid (Ro W.drew 2 (.slice ia o.its.length icap) o.its.length (flat o.its)) := by
    have := ((unhide HHW).ok _ _ (unhide HO)).items
    rw [unhide IE] at this
    exact this.keep (fun _ _ => rfl)
  have hcA : (W.alloc (.cells #[.int .i64 xk, .int .i64 xn] 33)).cell? ⟨o.b, 1, none⟩ = some (.slice ia o.its.length icap) := (World.cell?_of_block (Below.heap_alloc _ _ _ hbW)).trans hc0
  have HSA : Hid ((W.alloc (.cells #[.int .i64 xk, .int .i64 xn] 33)).drew.cell? ⟨w.heap.size + 1, 0, none⟩ = some (.int .i64 xk) ∧ (W.alloc (.cells #[.int .i64 xk, .int .i64 xn] 33)).drew.cell? ⟨w.heap.size + 1, 1, none⟩ = some (.int .i64 xn)) :=
    ⟨(World.cell?_of_block (a := ⟨w.heap.size + 1, 0, none⟩) (Below.heap_alloc _ _ _ (unhide hqW))).trans b0, (World.cell?_of_block (a := ⟨w.heap.size + 1, 1, none⟩) (Below.heap_alloc _ _ _ (unhide hqW))).trans b1⟩
  have HSET : Hid (∀ v' w5, Ro w5 2 v' (o.its ++ [(xk, xn)]).length (flat (o.its ++ [(xk, xn)])) → (W.alloc (.cells #[.int .i64 xk, .int .i64 xn] 33)).grownBy w5 (Value.slice ia o.its.length icap).ownBlock → (v'.ownBlock = (Value.slice ia o.its.length icap).ownBlock ∨ v'.ownBlock = some (W.alloc (.cells #[.int .i64 xk, .int .i64 xn] 33)).heap.size) →
      w5.cell? ⟨o.b, 1, none⟩ = some (.slice ia o.its.length icap) ∧ w5.frozen? ⟨o.b, 1, none⟩ = false ∧ Hid (Now W h bud sp ov os (w5.setCell ⟨o.b, 1, none⟩ v') sp (os.set n.toNat { o with iv := v', its := o.its ++ [(xk, xn)] }))) := fun v' w5 hr hg hat => by
    have e : o.ci = 1 := by unfold OD.ci; rw [unhide HKK]; rfl
    have := (unhide HHW).pushIv (unhide HO) hr (by rw [unhide IE]; exact hg) (by rw [unhide IE]; exact hat)
    rw [e, unhide IE] at this
    exact this
  have HQ : Hid (∀ w5, (W.alloc (.cells #[.int .i64 xk, .int .i64 xn] 33)).grownBy w5 (Value.slice ia o.its.length icap).ownBlock → ∀ j, w5.cell? ⟨w.heap.size + 1, j, none⟩ = W.cell? ⟨w.heap.size + 1, j, none⟩) := fun w5 hg j =>
    World.cell?_of_block ((hg.block (w.heap.size + 1) (by have := unhide hqW; simp; omega) (fun e => unhide hnq e.symm)).trans (Below.heap_alloc _ _ _ (unhide hqW)))
  go_wp2_with fail
  refine wp_region_held_drew (S := fun wx => wx.cell? ⟨w.heap.size + 1, 0, none⟩ = some (.int .i64 xk) ∧ wx.cell? ⟨w.heap.size + 1, 1, none⟩ = some (.int .i64 xn)) (by kernel_rfl) ⟨b0, b1⟩ (fun hHeld => ?_)
  refine wpAnyH_take (i := 0) (oi := _) (v := .pointer (some ⟨o.b, 0, none⟩)) rfl (by kernel_rfl) (by kernel_rfl) (by kernel_rfl) (fun _ _ _ h => h) (Or.inl ⟨by rfl, (by intro w hSw; go_simp)⟩) (by assumption) ?_
  refine wpAnyH_take (i := 1) (oi := _) (v := .pointer (some ⟨o.b, 0, none⟩)) rfl (by kernel_rfl) (by kernel_rfl) (by kernel_rfl) (fun _ _ _ h => h) (Or.inl ⟨by rfl, (by intro w hSw; go_simp)⟩) (by assumption) ?_
  refine wpAnyH_take (i := 2) (oi := _) (v := .pointer (some ⟨o.b, 0, none⟩)) rfl (by kernel_rfl) (by kernel_rfl) (by kernel_rfl) (fun _ _ _ h => h) (Or.inl ⟨by rfl, (by intro w hSw; go_simp)⟩) (by assumption) ?_
  go_simp
  refine wpAnyH_take (i := 3) (oi := _) (v := .pointer (some ⟨o.b, 1, none⟩)) rfl (by kernel_rfl) (by kernel_rfl) (by kernel_rfl) (fun _ _ _ h => h) (Or.inl ⟨by rfl, (by intro w hSw; go_simp)⟩) (by assumption) ?_
  refine wpAnyH_take (i := 5) (oi := _) (v := .agg #[.int .i64 xk, .int .i64 xn]) rfl (by kernel_rfl) (by kernel_rfl) (by kernel_rfl) (fun _ _ _ h => h) (Or.inl ⟨by rfl, (by intro w hSw; obtain ⟨hs1, hs2⟩ := hSw; go_simp)⟩) (by assumption) ?_
  go_simp
  refine wpAnyH_ready (rs := [4, 6]) (by kernel_rfl) (by simp) ?_
  refine AllReadyH.cons (o := _) rfl (fun K hK => ?_) (AllReadyH.cons (o := _) rfl (fun K hK => ?_) AllReadyH.nil)
  · go_simp
    refine hK.out _ _ hHeld (fun _ => ?_)
    clear hK K
    refine wpAnyH_ready (rs := [6]) (by kernel_rfl) (by simp) ?_
    refine AllReadyH.cons (o := _) rfl (fun K hK => ?_) AllReadyH.nil
    go_simp
    refine hK.out _ _ (unhide HSA) (fun _ => ?_)
    clear hK K
    refine wpAnyH_ready (rs := [7]) (by kernel_rfl) (by simp) ?_
    refine AllReadyH.cons (o := _) rfl (fun K hK => ?_) AllReadyH.nil
    refine step_app rfl _ _ rfl (.slice ia o.its.length icap) o.its rfl (((unhide HRo).keep (w' := W.drew.alloc (.cells #[.int .i64 xk, .int .i64 xn] 33)) (fun g hg => Below.heap_alloc _ _ _ ((unhide HRo).lt g hg))).keep (fun _ _ => rfl)) ⟨W.heap.size, 0, none⟩ 1 xk xn rfl (by exact two_new' W (.int .i64 xk) (.int .i64 xn) 33) (by omega) ?_
    intro v' w5 hr5 hg5 hat5
    obtain ⟨va, vcap, rfl, _⟩ := hr5.shape
    have hg5' : (W.alloc (.cells #[.int .i64 xk, .int .i64 xn] 33)).grownBy w5 (Value.slice ia o.its.length icap).ownBlock := ⟨hg5.os, hg5.tape, hg5.output, hg5.size, hg5.block⟩
    obtain ⟨k0, kf, A⟩ := unhide HSET _ w5 hr5 hg5' hat5
    simp only [List.length_append, List.length_cons, List.length_nil, Nat.zero_add] at A
    have hbq : ∀ j, w5.cell? ⟨w.heap.size + 1, j, none⟩ = W.cell? ⟨w.heap.size + 1, j, none⟩ := unhide HQ w5 hg5'
    have b05 := (hbq 0).trans b0
    have b15 := (hbq 1).trans b1
    clear hr5 hg5 hg5' hat5 hbq
    refine hK.out _ _ ⟨b05, b15⟩ (fun hHeld5 => ?_)
    clear hK K
    go_simp
    refine wpAnyH_take (i := 8) (oi := _) (v := .pointer (some ⟨o.b, 0, none⟩)) rfl (by kernel_rfl) (by kernel_rfl) (by kernel_rfl) (fun _ _ _ h => h) (Or.inl ⟨by rfl, (by intro w hSw; go_simp)⟩) (by assumption) ?_
    refine wpAnyH_take (i := 9) (oi := _) (v := .pointer (some ⟨o.b, 1, none⟩)) rfl (by kernel_rfl) (by kernel_rfl) (by kernel_rfl) (fun _ _ _ h => h) (Or.inl ⟨by rfl, (by intro w hSw; go_simp)⟩) (by assumption) ?_
    go_simp
    refine wpAnyH_ready (rs := [10]) (by kernel_rfl) (by simp) ?_
    refine AllReadyH.cons (o := _) rfl (fun K hK => ?_) AllReadyH.nil
    have hb5 : o.b < w5.heap.size := World.block_lt_of_cell? _ _ k0
    go_simp
    have b06 : ∀ u, (w5.setCell ⟨o.b, 1, none⟩ u).cell? ⟨w.heap.size + 1, 0, none⟩ = some (.int .i64 xk) := fun u => by rw [World.cell?_setCell_other _ _ _ _ (fun e => unhide hqb (congrArg Addr.block e))]; exact b05
    have b16 : ∀ u, (w5.setCell ⟨o.b, 1, none⟩ u).cell? ⟨w.heap.size + 1, 1, none⟩ = some (.int .i64 xn) := fun u => by rw [World.cell?_setCell_other _ _ _ _ (fun e => unhide hqb (congrArg Addr.block e))]; exact b15
    refine hK.out _ _ ⟨b06 _, b16 _⟩ (fun hHeld6 => ?_)
    clear hK K
    refine wpAnyH_done (by kernel_rfl) ?_ _
    clear hHeld hHeld5 hHeld6 b05 b15 b06 b16 k0 kf b0 b1 hcA hc0
    go_wp2_with fail
    go_ret2
    exact ⟨rfl, _, Now.after (unhide HBW) (unhide A)⟩
  · go_simp
    refine hK.out _ _ (unhide HSA) (fun _ => ?_)
    clear hK K
    refine wpAnyH_ready (rs := [4]) (by kernel_rfl) (by simp) ?_
    refine AllReadyH.cons (o := _) rfl (fun K hK => ?_) AllReadyH.nil
    go_simp
    refine hK.out _ _ (unhide HSA) (fun _ => ?_)
    clear hK K
    refine wpAnyH_ready (rs := [7]) (by kernel_rfl) (by simp) ?_
    refine AllReadyH.cons (o := _) rfl (fun K hK => ?_) AllReadyH.nil
    refine step_app rfl _ _ rfl (.slice ia o.its.length icap) o.its rfl (((unhide HRo).keep (w' := W.drew.alloc (.cells #[.int .i64 xk, .int .i64 xn] 33)) (fun g hg => Below.heap_alloc _ _ _ ((unhide HRo).lt g hg))).keep (fun _ _ => rfl)) ⟨W.heap.size, 0, none⟩ 1 xk xn rfl (by exact two_new' W (.int .i64 xk) (.int .i64 xn) 33) (by omega) ?_
    intro v' w5 hr5 hg5 hat5
    obtain ⟨va, vcap, rfl, _⟩ := hr5.shape
    have hg5' : (W.alloc (.cells #[.int .i64 xk, .int .i64 xn] 33)).grownBy w5 (Value.slice ia o.its.length icap).ownBlock := ⟨hg5.os, hg5.tape, hg5.output, hg5.size, hg5.block⟩
    obtain ⟨k0, kf, A⟩ := unhide HSET _ w5 hr5 hg5' hat5
    simp only [List.length_append, List.length_cons, List.length_nil, Nat.zero_add] at A
    have hbq : ∀ j, w5.cell? ⟨w.heap.size + 1, j, none⟩ = W.cell? ⟨w.heap.size + 1, j, none⟩ := unhide HQ w5 hg5'
    have b05 := (hbq 0).trans b0
    have b15 := (hbq 1).trans b1
    clear hr5 hg5 hg5' hat5 hbq
    refine hK.out _ _ ⟨b05, b15⟩ (fun hHeld5 => ?_)
    clear hK K
    go_simp
    refine wpAnyH_take (i := 8) (oi := _) (v := .pointer (some ⟨o.b, 0, none⟩)) rfl (by kernel_rfl) (by kernel_rfl) (by kernel_rfl) (fun _ _ _ h => h) (Or.inl ⟨by rfl, (by intro w hSw; go_simp)⟩) (by assumption) ?_
    refine wpAnyH_take (i := 9) (oi := _) (v := .pointer (some ⟨o.b, 1, none⟩)) rfl (by kernel_rfl) (by kernel_rfl) (by kernel_rfl) (fun _ _ _ h => h) (Or.inl ⟨by rfl, (by intro w hSw; go_simp)⟩) (by assumption) ?_
    go_simp
    refine wpAnyH_ready (rs := [10]) (by kernel_rfl) (by simp) ?_
    refine AllReadyH.cons (o := _) rfl (fun K hK => ?_) AllReadyH.nil
    have hb5 : o.b < w5.heap.size := World.block_lt_of_cell? _ _ k0
    go_simp
    have b06 : ∀ u, (w5.setCell ⟨o.b, 1, none⟩ u).cell? ⟨w.heap.size + 1, 0, none⟩ = some (.int .i64 xk) := fun u => by rw [World.cell?_setCell_other _ _ _ _ (fun e => unhide hqb (congrArg Addr.block e))]; exact b05
    have b16 : ∀ u, (w5.setCell ⟨o.b, 1, none⟩ u).cell? ⟨w.heap.size + 1, 1, none⟩ = some (.int .i64 xn) := fun u => by rw [World.cell?_setCell_other _ _ _ _ (fun e => unhide hqb (congrArg Addr.block e))]; exact b15
    refine hK.out _ _ ⟨b06 _, b16 _⟩ (fun hHeld6 => ?_)
    clear hK K
    refine wpAnyH_done (by kernel_rfl) ?_ _
    clear hHeld hHeld5 hHeld6 b05 b15 b06 b16 k0 kf b0 b1 hcA hc0
    go_wp2_with fail
    go_ret2
    exact ⟨rfl, _, Now.after (unhide HBW) (unhide A)⟩
end Go.Proofs.Ytkpngfahnpidkaa
