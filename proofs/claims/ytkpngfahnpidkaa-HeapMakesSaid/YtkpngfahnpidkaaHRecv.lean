/-
  Recv.
-/
import Derived.Test.YtkpngfahnpidkaaHDel
namespace Go.Proofs.Ytkpngfahnpidkaa
open Go.RowKit
set_option linter.unusedVariables false

theorem Now.put {w w1 w' w2 : World} {h : Nat} {bud sp sp' : Int} {ov : Value} {os os' : List OD} (hB : Below w.heap.size w w1) (hlt : ∀ k, Fts h ov os k → k < w.heap.size) (N : Now w1 h bud sp ov os w' sp' os') {b : Nat} (hb : w.heap.size ≤ b) (hb1 : b < w1.heap.size) (f : Fr (fun k => k = b) w' w2) :
    Now w h bud sp ov os w2 sp' os' := by
  obtain ⟨ov', h1, h2, h3⟩ := N
  refine ⟨ov', h1.keep f (fun k hk e => ?_), ?_, fun k hk => (h3 k hk).imp id (fun q => Nat.le_trans hB.size q)⟩
  · subst e
    rcases h3 k hk with q | q
    · have := hlt k q; omega
    · omega
  · have f1 : Fr (Fts h ov os) w w' := (Fr.of_below hB).trans h2
    refine ⟨f.os.trans f1.os, f.tape.trans f1.tape, f.output.trans f1.output, Nat.le_trans f1.size f.size, fun k hk hn => ?_⟩
    rw [f.block k (Nat.lt_of_lt_of_le hk f1.size) (by omega)]
    exact f1.block k hk hn
theorem put2 {w1 : World} {b : Nat} {u0 u1 : Value} (x0 : w1.cell? ⟨b, 0, none⟩ = some u0) (x1 : w1.cell? ⟨b, 1, none⟩ = some u1) (a c : Value) :
    ((w1.setCell ⟨b, 0, none⟩ a).setCell ⟨b, 1, none⟩ c).cell? ⟨b, 0, none⟩ = some a ∧ ((w1.setCell ⟨b, 0, none⟩ a).setCell ⟨b, 1, none⟩ c).cell? ⟨b, 1, none⟩ = some c ∧ Fr (fun k => k = b) w1 ((w1.setCell ⟨b, 0, none⟩ a).setCell ⟨b, 1, none⟩ c) := by
  refine ⟨?_, ?_, ((Fr.refl (fun k => k = b) w1).setCell ⟨b, 0, none⟩ (.inr rfl) _).setCell ⟨b, 1, none⟩ (.inr rfl) _⟩
  · rw [World.cell?_setCell_other _ _ _ _ (by simp)]
    exact World.cell?_setCell_same _ _ _ x0
  · refine World.cell?_setCell_same _ _ _ (?_ : _ = some u1)
    rw [World.cell?_setCell_other _ _ _ _ (by simp)]
    exact x1
theorem flat_wo (p : Int × Int) (r : List (Int × Int)) : wo 2 0 (flat (p :: r)) = flat r := by
  unfold wo
  simp [flat]
set_option maxRecDepth 100000 in
set_option maxHeartbeats 1600000 in
theorem recv_none {w : World} {h : Nat} {bud sp : Int} {ov : Value} {os : List OD} (H : Hp w h bud sp ov os) (kk n : Int) (hm : ∀ o, nm os kk n = some o → o.k ≠ 9) :
    Calls Try.prog 15 #[.pointer (some ⟨h, 0, none⟩), .agg #[.int .i64 kk, .int .i64 n]] w fun e w' => e = .returned (.tuple #[.agg #[.int .i64 0, .int .i64 0], .bool false, .int .i64 1]) ∧ Below w.heap.size w w' := by
  have hB : Below w.heap.size w ((w.alloc (.cells #[.int .i64 kk, .int .i64 n] 33)).alloc (.cells #[.int .i64 0, .int .i64 0] 33)) := ((Below.refl _ _).alloc (Nat.le_refl _) _).alloc (by simp) _
  have HC := hide (channel_miss (H.below hB) kk n hm)
  have HB := hide hB
  have hz1 : (w.alloc (.cells #[.int .i64 kk, .int .i64 n] 33)).heap.size = w.heap.size + 1 := by simp
  have hz2 : ((w.alloc (.cells #[.int .i64 kk, .int .i64 n] 33)).alloc (.cells #[.int .i64 0, .int .i64 0] 33)).heap.size = w.heap.size + 2 := by simp
  obtain ⟨a0, a1⟩ := two_new w (.int .i64 kk) (.int .i64 n) 33
  have a0' : ((w.alloc (.cells #[.int .i64 kk, .int .i64 n] 33)).alloc (.cells #[.int .i64 0, .int .i64 0] 33)).cell? ⟨w.heap.size, 0, none⟩ = some (.int .i64 kk) := (World.cell?_of_block (Below.heap_alloc _ _ _ (by simp))).trans a0
  have a1' : ((w.alloc (.cells #[.int .i64 kk, .int .i64 n] 33)).alloc (.cells #[.int .i64 0, .int .i64 0] 33)).cell? ⟨w.heap.size, 1, none⟩ = some (.int .i64 n) := (World.cell?_of_block (Below.heap_alloc _ _ _ (by simp))).trans a1
  have HX := hide (two_new (w.alloc (.cells #[.int .i64 kk, .int .i64 n] 33)) (.int .i64 0) (.int .i64 0) 33)
  have HXF : Hid (∀ j, ((w.alloc (.cells #[.int .i64 kk, .int .i64 n] 33)).alloc (.cells #[.int .i64 0, .int .i64 0] 33)).frozen? ⟨w.heap.size + 1, j, none⟩ = false) := fun j => by
    have := heap_alloc_new (w.alloc (.cells #[.int .i64 kk, .int .i64 n] 33)) (.cells #[.int .i64 0, .int .i64 0] 33)
    rw [hz1] at this
    unfold World.frozen?
    simp only
    rw [this]
    simp
  have hl := H.hlt
  clear H hB hm a0 a1
  go_enter Try.func15, Try.ntmps15
  go_wp2_with fail
  refine (unhide HC).mono ?_
  rintro e1 w1 ⟨rfl, hb1⟩
  have HB2 := hide ((unhide HB).trans (hb1.mono (unhide HB).size))
  have hqx : w.heap.size + 1 < ((w.alloc (.cells #[.int .i64 kk, .int .i64 n] 33)).alloc (.cells #[.int .i64 0, .int .i64 0] 33)).heap.size := by omega
  have x0 : w1.cell? ⟨w.heap.size + 1, 0, none⟩ = some (.int .i64 0) := (hb1.cell (p := ⟨w.heap.size + 1, 0, none⟩) hqx).trans (by have := (unhide HX).1; rw [hz1] at this; exact this)
  have x1 : w1.cell? ⟨w.heap.size + 1, 1, none⟩ = some (.int .i64 0) := (hb1.cell (p := ⟨w.heap.size + 1, 1, none⟩) hqx).trans (by have := (unhide HX).2; rw [hz1] at this; exact this)
  have xf : ∀ j, w1.frozen? ⟨w.heap.size + 1, j, none⟩ = false := fun j => (World.frozen?_of_block (hb1.block _ hqx)).trans (unhide HXF j)
  have xf0 := xf 0
  have xf1 := xf 1
  have hxl : w.heap.size + 1 < w1.heap.size := World.block_lt_of_cell? _ _ x0
  clear hb1 xf
  go_wp2_with fail
  obtain ⟨z0, z1, zf⟩ := put2 x0 x1 (.int .i64 0) (.int .i64 0)
  have ZF := hide zf
  clear zf x0 x1 xf0 xf1
  generalize (w1.setCell ⟨w.heap.size + 1, 0, none⟩ (.int .i64 0)).setCell ⟨w.heap.size + 1, 1, none⟩ (.int .i64 0) = W at *
  refine bodyPost_ret (v := .tuple #[.agg #[.int .i64 0, .int .i64 0], .bool false, .int .i64 1]) (by simp [results, Try.results15, go_sem, z0, z1]) rfl ?_
  exact ⟨rfl, (unhide HB2).trans ((unhide ZF).below (unhide HB2).size (fun k hk e => by omega))⟩
set_option maxRecDepth 100000 in
set_option maxHeartbeats 3200000 in
theorem recv_empty {w : World} {h : Nat} {bud sp : Int} {ov : Value} {os : List OD} (H : Hp w h bud sp ov os) (kk n : Int) {o : OD} (hm : nm os kk n = some o) (hk : o.k = 9) (hi : o.its = []) :
    Calls Try.prog 15 #[.pointer (some ⟨h, 0, none⟩), .agg #[.int .i64 kk, .int .i64 n]] w fun e w' => e = .returned (.tuple #[.agg #[.int .i64 0, .int .i64 0], .bool o.shut, .int .i64 0]) ∧ Below w.heap.size w w' := by
  have hB : Below w.heap.size w ((w.alloc (.cells #[.int .i64 kk, .int .i64 n] 33)).alloc (.cells #[.int .i64 0, .int .i64 0] 33)) := ((Below.refl _ _).alloc (Nat.le_refl _) _).alloc (by simp) _
  have HC := hide (channel_hit (H.below hB) kk n hm hk)
  have HB := hide hB
  have hz1 : (w.alloc (.cells #[.int .i64 kk, .int .i64 n] 33)).heap.size = w.heap.size + 1 := by simp
  have hz2 : ((w.alloc (.cells #[.int .i64 kk, .int .i64 n] 33)).alloc (.cells #[.int .i64 0, .int .i64 0] 33)).heap.size = w.heap.size + 2 := by simp
  obtain ⟨a0, a1⟩ := two_new w (.int .i64 kk) (.int .i64 n) 33
  have a0' : ((w.alloc (.cells #[.int .i64 kk, .int .i64 n] 33)).alloc (.cells #[.int .i64 0, .int .i64 0] 33)).cell? ⟨w.heap.size, 0, none⟩ = some (.int .i64 kk) := (World.cell?_of_block (Below.heap_alloc _ _ _ (by simp))).trans a0
  have a1' : ((w.alloc (.cells #[.int .i64 kk, .int .i64 n] 33)).alloc (.cells #[.int .i64 0, .int .i64 0] 33)).cell? ⟨w.heap.size, 1, none⟩ = some (.int .i64 n) := (World.cell?_of_block (Below.heap_alloc _ _ _ (by simp))).trans a1
  have HX := hide (two_new (w.alloc (.cells #[.int .i64 kk, .int .i64 n] 33)) (.int .i64 0) (.int .i64 0) 33)
  have HXF : Hid (∀ j, ((w.alloc (.cells #[.int .i64 kk, .int .i64 n] 33)).alloc (.cells #[.int .i64 0, .int .i64 0] 33)).frozen? ⟨w.heap.size + 1, j, none⟩ = false) := fun j => by
    have := heap_alloc_new (w.alloc (.cells #[.int .i64 kk, .int .i64 n] 33)) (.cells #[.int .i64 0, .int .i64 0] 33)
    rw [hz1] at this
    unfold World.frozen?
    simp only
    rw [this]
    simp
  have hl := H.hlt
  have HH := hide H
  have HK := hide (And.intro (nm_some hm).2.1 (And.intro hk hi))
  clear H hB hm hk hi a0 a1
  go_enter Try.func15, Try.ntmps15
  go_wp2_with fail
  refine (unhide HC).mono ?_
  rintro e1 w1 ⟨rfl, hb1⟩
  have hb2 := (unhide HB).trans (hb1.mono (unhide HB).size)
  obtain ⟨ho, hk, hi⟩ := unhide HK
  have H1 := (unhide HH).below hb2
  have hok := H1.ok _ _ ho
  obtain ⟨c0, c1, c2⟩ := chan_cells hok hk
  obtain ⟨ia, icap, ie, icl, icm⟩ := hok.items.shape
  rw [ie, hi] at c1
  simp only [List.length_nil] at c1
  have hbl : o.b < w1.heap.size := hok.lt _ (.inl rfl)
  have hne : o.b ≠ w.heap.size + 1 := by
    have := (unhide HH).lt o.b (Fts.mine ho (.inl rfl))
    omega
  have HB2 := hide hb2
  have hqx : w.heap.size + 1 < ((w.alloc (.cells #[.int .i64 kk, .int .i64 n] 33)).alloc (.cells #[.int .i64 0, .int .i64 0] 33)).heap.size := by omega
  have x0 : w1.cell? ⟨w.heap.size + 1, 0, none⟩ = some (.int .i64 0) := (hb1.cell (p := ⟨w.heap.size + 1, 0, none⟩) hqx).trans (by have := (unhide HX).1; rw [hz1] at this; exact this)
  have x1 : w1.cell? ⟨w.heap.size + 1, 1, none⟩ = some (.int .i64 0) := (hb1.cell (p := ⟨w.heap.size + 1, 1, none⟩) hqx).trans (by have := (unhide HX).2; rw [hz1] at this; exact this)
  have xf : ∀ j, w1.frozen? ⟨w.heap.size + 1, j, none⟩ = false := fun j => (World.frozen?_of_block (hb1.block _ hqx)).trans (unhide HXF j)
  have xf0 := xf 0
  have xf1 := xf 1
  have hxl : w.heap.size + 1 < w1.heap.size := World.block_lt_of_cell? _ _ x0
  clear H1 hok ie icl icm hb1 hb2 ho hk hi c0 xf
  obtain ⟨z0, z1, zf⟩ := put2 x0 x1 (.int .i64 0) (.int .i64 0)
  have ZF := hide zf
  have HL := hide hxl
  clear zf
  go_wp2_with fail
  go_region
  all_goals clear x0 x1 xf0 xf1
  all_goals generalize (w1.setCell ⟨w.heap.size + 1, 0, none⟩ (.int .i64 0)).setCell ⟨w.heap.size + 1, 1, none⟩ (.int .i64 0) = W at *
  all_goals have y0 : W.drew.cell? ⟨w.heap.size + 1, 0, none⟩ = some (.int .i64 0) := z0
  all_goals have y1 : W.drew.cell? ⟨w.heap.size + 1, 1, none⟩ = some (.int .i64 0) := z1
  all_goals go_wp2_with fail
  all_goals refine bodyPost_ret (v := .tuple #[.agg #[.int .i64 0, .int .i64 0], .bool o.shut, .int .i64 0]) (by simp [results, Try.results15, go_sem, y0, y1]) rfl ?_
  all_goals exact ⟨rfl, (unhide HB2).trans ((unhide ZF).drew.below (unhide HB2).size (fun k hk e => by omega))⟩
set_option maxRecDepth 100000 in
set_option maxHeartbeats 3200000 in
theorem recv_some {w : World} {h : Nat} {bud sp : Int} {ov : Value} {os : List OD} (H : Hp w h bud sp ov os) (kk n : Int) {o : OD} (hm : nm os kk n = some o) (hk : o.k = 9) {pk pn : Int} {r : List (Int × Int)} (hi : o.its = (pk, pn) :: r) :
    Calls Try.prog 15 #[.pointer (some ⟨h, 0, none⟩), .agg #[.int .i64 kk, .int .i64 n]] w fun e w' => e = .returned (.tuple #[.agg #[.int .i64 pk, .int .i64 pn], .bool true, .int .i64 0]) ∧ ∃ v', Now w h bud sp ov os w' sp (os.set n.toNat { o with iv := v', its := r }) := by
  have hB : Below w.heap.size w ((w.alloc (.cells #[.int .i64 kk, .int .i64 n] 33)).alloc (.cells #[.int .i64 0, .int .i64 0] 33)) := ((Below.refl _ _).alloc (Nat.le_refl _) _).alloc (by simp) _
  have HC := hide (channel_hit (H.below hB) kk n hm hk)
  have HB := hide hB
  have hz1 : (w.alloc (.cells #[.int .i64 kk, .int .i64 n] 33)).heap.size = w.heap.size + 1 := by simp
  have hz2 : ((w.alloc (.cells #[.int .i64 kk, .int .i64 n] 33)).alloc (.cells #[.int .i64 0, .int .i64 0] 33)).heap.size = w.heap.size + 2 := by simp
  obtain ⟨a0, a1⟩ := two_new w (.int .i64 kk) (.int .i64 n) 33
  have a0' : ((w.alloc (.cells #[.int .i64 kk, .int .i64 n] 33)).alloc (.cells #[.int .i64 0, .int .i64 0] 33)).cell? ⟨w.heap.size, 0, none⟩ = some (.int .i64 kk) := (World.cell?_of_block (Below.heap_alloc _ _ _ (by simp))).trans a0
  have a1' : ((w.alloc (.cells #[.int .i64 kk, .int .i64 n] 33)).alloc (.cells #[.int .i64 0, .int .i64 0] 33)).cell? ⟨w.heap.size, 1, none⟩ = some (.int .i64 n) := (World.cell?_of_block (Below.heap_alloc _ _ _ (by simp))).trans a1
  have HX := hide (two_new (w.alloc (.cells #[.int .i64 kk, .int .i64 n] 33)) (.int .i64 0) (.int .i64 0) 33)
  have HXF : Hid (∀ j, ((w.alloc (.cells #[.int .i64 kk, .int .i64 n] 33)).alloc (.cells #[.int .i64 0, .int .i64 0] 33)).frozen? ⟨w.heap.size + 1, j, none⟩ = false) := fun j => by
    have := heap_alloc_new (w.alloc (.cells #[.int .i64 kk, .int .i64 n] 33)) (.cells #[.int .i64 0, .int .i64 0] 33)
    rw [hz1] at this
    unfold World.frozen?
    simp only
    rw [this]
    simp
  have hl := H.hlt
  have HH := hide H
  have HK := hide (And.intro (nm_some hm).2.1 (And.intro hk hi))
  clear H hB hm hk hi a0 a1
  go_enter Try.func15, Try.ntmps15
  go_wp2_with fail
  refine (unhide HC).mono ?_
  rintro e1 w1 ⟨rfl, hb1⟩
  have hb2 := (unhide HB).trans (hb1.mono (unhide HB).size)
  obtain ⟨ho, hk, hi⟩ := unhide HK
  have H1 := (unhide HH).below hb2
  have hok := H1.ok _ _ ho
  obtain ⟨c0, c1, c2⟩ := chan_cells hok hk
  have hit := hok.items
  rw [hi] at hit
  obtain ⟨g, off, cap, ie, icl, icm, hgl, hcell⟩ := hit.full (by simp)
  simp only [List.length_cons] at ie hit hcell icl
  have p0 : w1.cell? ⟨g, off, none⟩ = some (.int .i64 pk) := by have := hcell 0 (by omega); simpa [flat] using this
  have p1 : w1.cell? ⟨g, off + 1, none⟩ = some (.int .i64 pn) := by have := hcell 1 (by omega); simpa [flat] using this
  rw [ie] at c1
  have hbl : o.b < w1.heap.size := hok.lt _ (.inl rfl)
  have HB2 := hide hb2
  have hqx : w.heap.size + 1 < ((w.alloc (.cells #[.int .i64 kk, .int .i64 n] 33)).alloc (.cells #[.int .i64 0, .int .i64 0] 33)).heap.size := by omega
  have x0 : w1.cell? ⟨w.heap.size + 1, 0, none⟩ = some (.int .i64 0) := (hb1.cell (p := ⟨w.heap.size + 1, 0, none⟩) hqx).trans (by have := (unhide HX).1; rw [hz1] at this; exact this)
  have x1 : w1.cell? ⟨w.heap.size + 1, 1, none⟩ = some (.int .i64 0) := (hb1.cell (p := ⟨w.heap.size + 1, 1, none⟩) hqx).trans (by have := (unhide HX).2; rw [hz1] at this; exact this)
  have xf : ∀ j, w1.frozen? ⟨w.heap.size + 1, j, none⟩ = false := fun j => (World.frozen?_of_block (hb1.block _ hqx)).trans (unhide HXF j)
  have xf0 := xf 0
  have xf1 := xf 1
  have hxl : w.heap.size + 1 < w1.heap.size := World.block_lt_of_cell? _ _ x0
  -- the world in which Delete is called
  have hBx : Below w1.heap.size w1 (w1.alloc (.cells #[.int .i64 pk, .int .i64 pn] 33)) := (Below.refl _ _).alloc (Nat.le_refl _) _
  have H2 := H1.below hBx
  rw [ie] at hit
  have HD := hide (delV_any (hit.keep (w' := w1.alloc (.cells #[.int .i64 pk, .int .i64 pn] 33)) (fun q hq => Below.heap_alloc _ _ _ (hit.lt q hq))) (i := 0) (by omega) (ones_flat _))
  have HSET : Hid (∀ w3, Ro w3 2 (.slice (some ⟨g, off, none⟩) r.length cap) r.length (flat r) → Fr (fun k => k = g) (w1.alloc (.cells #[.int .i64 pk, .int .i64 pn] 33)) w3 →
      w3.cell? ⟨o.b, 1, none⟩ = some (.slice (some ⟨g, off, none⟩) (r.length + 1) cap) ∧ w3.frozen? ⟨o.b, 1, none⟩ = false ∧ Hid (Now w1 h bud sp ov os (w3.setCell ⟨o.b, 1, none⟩ (.slice (some ⟨g, off, none⟩) r.length cap)) sp (os.set n.toNat { o with iv := .slice (some ⟨g, off, none⟩) r.length cap, its := r }))) := fun w3 hr hf => by
    have e : o.ci = 1 := by unfold OD.ci; rw [hk]; rfl
    obtain ⟨a1, a2, a3, a4, a5⟩ := H2.setIv ho (hf.mono (fun k _ q => by rw [ie, q]; rfl)) hr (.inl (by rw [ie]; rfl))
    rw [e, ie] at a1
    rw [e] at a2 a3 a4
    exact ⟨a1, a2, Now.after hBx ⟨ov, a3, a4, a5⟩⟩
  have HFAR : Hid (∀ b, (b = w.heap.size + 1 ∨ b = w1.heap.size) → b ≠ g ∧ b ≠ o.b) := fun b hb => by
    have l1 := (unhide HH).lt o.b (Fts.mine ho (.inl rfl))
    have l2 := (unhide HH).lt g (Fts.mine ho (.inr (.inl (by rw [ie]; rfl))))
    have := hb2.size
    omega
  have HLT := hide (unhide HH).lt
  obtain ⟨y0, y1⟩ := two_new w1 (.int .i64 pk) (.int .i64 pn) 33
  have i0 : (0 : Int) < (r.length : Int) + 1 := by omega
  have dz : decide ((r.length : Int) + 1 = 0) = false := decide_eq_false (by omega)
  clear H1 H2 hok hit hcell hb1 hb2 ho hk hi ie c0 c2 xf icl icm hBx
  go_wp2_with fail
  refine (unhide HD).mono ?_
  rintro e2 w3 ⟨rfl, hr3, hf3, hz3⟩
  rw [flat_wo] at hr3
  obtain ⟨k0, kf, A⟩ := unhide HSET w3 hr3 hf3
  have hz4 : w3.heap.size = w1.heap.size + 1 := by rw [hz3]; simp
  obtain ⟨t1, t2⟩ := unhide HFAR (w.heap.size + 1) (.inl rfl)
  obtain ⟨t3, t4⟩ := unhide HFAR w1.heap.size (.inr rfl)
  have yy : ∀ b j u, (w1.alloc (.cells #[.int .i64 pk, .int .i64 pn] 33)).cell? ⟨b, j, none⟩ = some u → b ≠ g → b ≠ o.b → ∀ v, (w3.setCell ⟨o.b, 1, none⟩ v).cell? ⟨b, j, none⟩ = some u := fun b j u hu hg ho v => by
    rw [World.cell?_setCell_other _ _ _ _ (fun e => ho (congrArg Addr.block e).symm)]
    exact (hf3.cell (a := ⟨b, j, none⟩) (World.block_lt_of_cell? _ _ hu) hg).trans hu
  have y03 := yy w1.heap.size 0 _ y0 t3 t4 (.slice (some ⟨g, off, none⟩) r.length cap)
  have y13 := yy w1.heap.size 1 _ y1 t3 t4 (.slice (some ⟨g, off, none⟩) r.length cap)
  have x03 := yy (w.heap.size + 1) 0 _ ((World.cell?_of_block (Below.heap_alloc _ _ _ hxl)).trans x0) t1 t2 (.slice (some ⟨g, off, none⟩) r.length cap)
  have x13 := yy (w.heap.size + 1) 1 _ ((World.cell?_of_block (Below.heap_alloc _ _ _ hxl)).trans x1) t1 t2 (.slice (some ⟨g, off, none⟩) r.length cap)
  have xff : ∀ j, w1.frozen? ⟨w.heap.size + 1, j, none⟩ = false → (w3.setCell ⟨o.b, 1, none⟩ (.slice (some ⟨g, off, none⟩) r.length cap)).frozen? ⟨w.heap.size + 1, j, none⟩ = false := fun j hj => by
    rw [World.frozen?_setCell, hf3.frozen (a := ⟨w.heap.size + 1, j, none⟩) (by simp; omega) t1]
    exact (World.frozen?_of_block (Below.heap_alloc _ _ _ hxl)).trans hj
  have xf03 := xff 0 xf0
  have xf13 := xff 1 xf1
  have hb3 : o.b < w3.heap.size := by omega
  have hx3 : w.heap.size + 1 < (w3.setCell ⟨o.b, 1, none⟩ (.slice (some ⟨g, off, none⟩) r.length cap)).heap.size := by simp [World.setCell]; omega
  have hy3 : w1.heap.size < (w3.setCell ⟨o.b, 1, none⟩ (.slice (some ⟨g, off, none⟩) r.length cap)).heap.size := by simp [World.setCell]; omega
  clear hr3 hf3 hz3 yy xff y0 y1 x0 x1 xf0 xf1 p0 p1 c1 hbl
  have HHX := hide hxl
  go_wp2_with fail
  obtain ⟨z0, z1, zf⟩ := put2 x03 x13 (.int .i64 pk) (.int .i64 pn)
  have ZF := hide zf
  clear zf x03 x13 y03 y13 xf03 xf13 hx3 hy3
  generalize ((w3.setCell ⟨o.b, 1, none⟩ (.slice (some ⟨g, off, none⟩) r.length cap)).setCell ⟨w.heap.size + 1, 0, none⟩ (.int .i64 pk)).setCell ⟨w.heap.size + 1, 1, none⟩ (.int .i64 pn) = W at *
  refine bodyPost_ret (v := .tuple #[.agg #[.int .i64 pk, .int .i64 pn], .bool true, .int .i64 0]) (by simp [results, Try.results15, go_sem, z0, z1]) rfl ?_
  exact ⟨rfl, _, Now.put (unhide HB2) (unhide HLT) (unhide A) (by omega) (unhide HHX) (unhide ZF)⟩
end Go.Proofs.Ytkpngfahnpidkaa
