/-
  SetField.
-/
import Derived.Test.YtkpngfahnpidkaaRAdd
import Derived.Test.YtkpngfahnpidkaaPAsk
namespace Go.Proofs.Ytkpngfahnpidkaa
open Go.RowKit
set_option linter.unusedVariables false
set_option linter.unusedSimpArgs false

set_option maxRecDepth 100000 in
set_option maxHeartbeats 6400000 in
theorem setf_full {w : World} {h : Nat} {bud sp : Int} {ov : Value} {os : List OD} (H : Hp w h bud sp ov os) (hb : 0 ≤ bud ∧ bud < 4611686018427387904) (hs : 0 ≤ sp ∧ sp ≤ bud) (kk n : Int) {o : OD} (hm : nm os kk n = some o) (hk : o.k = 7) (key xk xn : Int) (hi : fx o.keys key = none) (hf : 256 ≤ o.keys.length) :
    Calls Try.prog 21 #[.pointer (some ⟨h, 0, none⟩), .agg #[.int .i64 kk, .int .i64 n], .int .i64 key, .agg #[.int .i64 xk, .int .i64 xn]] w fun e w' => e = .returned (.tuple #[.int .i64 8, .bool true]) ∧ Below w.heap.size w w' := by
  have hB : Below w.heap.size w ((w.alloc (.cells #[.int .i64 kk, .int .i64 n] 33)).alloc (.cells #[.int .i64 xk, .int .i64 xn] 33)) := ((Below.refl _ _).alloc (Nat.le_refl _) _).alloc (by simp) _
  have HC := field_any (H.below hB) kk n hm hk key
  rw [hi] at HC
  unfold fieldV at HC
  have HC := hide HC
  have HB := hide hB
  have hz1 : (w.alloc (.cells #[.int .i64 kk, .int .i64 n] 33)).heap.size = w.heap.size + 1 := by simp
  have hz2 : ((w.alloc (.cells #[.int .i64 kk, .int .i64 n] 33)).alloc (.cells #[.int .i64 xk, .int .i64 xn] 33)).heap.size = w.heap.size + 2 := by simp
  obtain ⟨a0, a1⟩ := two_new w (.int .i64 kk) (.int .i64 n) 33
  have a0' : ((w.alloc (.cells #[.int .i64 kk, .int .i64 n] 33)).alloc (.cells #[.int .i64 xk, .int .i64 xn] 33)).cell? ⟨w.heap.size, 0, none⟩ = some (.int .i64 kk) := (World.cell?_of_block (Below.heap_alloc _ _ _ (by simp))).trans a0
  have a1' : ((w.alloc (.cells #[.int .i64 kk, .int .i64 n] 33)).alloc (.cells #[.int .i64 xk, .int .i64 xn] 33)).cell? ⟨w.heap.size, 1, none⟩ = some (.int .i64 n) := (World.cell?_of_block (Below.heap_alloc _ _ _ (by simp))).trans a1
  have HX := hide (two_new (w.alloc (.cells #[.int .i64 kk, .int .i64 n] 33)) (.int .i64 xk) (.int .i64 xn) 33)
  have hl := H.hlt
  have HH := hide H
  have HO := hide (nm_some hm).2.1
  have HK7 := hide hk
  clear H hB hm hk hi a0 a1
  go_enter Try.func21, Try.ntmps21
  go_wp2_with fail
  refine (unhide HC).mono ?_
  rintro e1 w1 ⟨rfl, hb1⟩
  have hb2 := (unhide HB).trans (hb1.mono (unhide HB).size)
  have H1 := (unhide HH).below hb2
  have hqx : w.heap.size + 1 < ((w.alloc (.cells #[.int .i64 kk, .int .i64 n] 33)).alloc (.cells #[.int .i64 xk, .int .i64 xn] 33)).heap.size := by omega
  have x0 : w1.cell? ⟨w.heap.size + 1, 0, none⟩ = some (.int .i64 xk) := (hb1.cell (p := ⟨w.heap.size + 1, 0, none⟩) hqx).trans (by have := (unhide HX).1; rw [hz1] at this; exact this)
  have x1 : w1.cell? ⟨w.heap.size + 1, 1, none⟩ = some (.int .i64 xn) := (hb1.cell (p := ⟨w.heap.size + 1, 1, none⟩) hqx).trans (by have := (unhide HX).2; rw [hz1] at this; exact this)
  have hxl : w.heap.size + 1 < w1.heap.size := World.block_lt_of_cell? _ _ x0
  have HB2 := hide hb2
  have HADD := hide (addf_full H1 hb hs (unhide HO) (unhide HK7) key xk xn hf)
  clear hb1 hb2 H1
  go_wp2_with fail
  refine (unhide HADD).mono ?_
  rintro e2 w3 ⟨rfl, b3⟩
  have HF := hide b3
  clear b3
  go_wp2_with fail
  go_ret2
  exact ⟨rfl, (unhide HB2).trans ((unhide HF).mono (unhide HB2).size)⟩
set_option maxRecDepth 100000 in
set_option maxHeartbeats 6400000 in
theorem setf_no {w : World} {h : Nat} {bud sp : Int} {ov : Value} {os : List OD} (H : Hp w h bud sp ov os) (hb : 0 ≤ bud ∧ bud < 4611686018427387904) (hs : 0 ≤ sp ∧ sp ≤ bud) (kk n : Int) {o : OD} (hm : nm os kk n = some o) (hk : o.k = 7) (key xk xn : Int) (hi : fx o.keys key = none) (hf : o.keys.length < 256) (hr : bud - sp < 2) :
    Calls Try.prog 21 #[.pointer (some ⟨h, 0, none⟩), .agg #[.int .i64 kk, .int .i64 n], .int .i64 key, .agg #[.int .i64 xk, .int .i64 xn]] w fun e w' => e = .returned (.tuple #[.int .i64 0, .bool false]) ∧ Below w.heap.size w w' := by
  have hB : Below w.heap.size w ((w.alloc (.cells #[.int .i64 kk, .int .i64 n] 33)).alloc (.cells #[.int .i64 xk, .int .i64 xn] 33)) := ((Below.refl _ _).alloc (Nat.le_refl _) _).alloc (by simp) _
  have HC := field_any (H.below hB) kk n hm hk key
  rw [hi] at HC
  unfold fieldV at HC
  have HC := hide HC
  have HB := hide hB
  have hz1 : (w.alloc (.cells #[.int .i64 kk, .int .i64 n] 33)).heap.size = w.heap.size + 1 := by simp
  have hz2 : ((w.alloc (.cells #[.int .i64 kk, .int .i64 n] 33)).alloc (.cells #[.int .i64 xk, .int .i64 xn] 33)).heap.size = w.heap.size + 2 := by simp
  obtain ⟨a0, a1⟩ := two_new w (.int .i64 kk) (.int .i64 n) 33
  have a0' : ((w.alloc (.cells #[.int .i64 kk, .int .i64 n] 33)).alloc (.cells #[.int .i64 xk, .int .i64 xn] 33)).cell? ⟨w.heap.size, 0, none⟩ = some (.int .i64 kk) := (World.cell?_of_block (Below.heap_alloc _ _ _ (by simp))).trans a0
  have a1' : ((w.alloc (.cells #[.int .i64 kk, .int .i64 n] 33)).alloc (.cells #[.int .i64 xk, .int .i64 xn] 33)).cell? ⟨w.heap.size, 1, none⟩ = some (.int .i64 n) := (World.cell?_of_block (Below.heap_alloc _ _ _ (by simp))).trans a1
  have HX := hide (two_new (w.alloc (.cells #[.int .i64 kk, .int .i64 n] 33)) (.int .i64 xk) (.int .i64 xn) 33)
  have hl := H.hlt
  have HH := hide H
  have HO := hide (nm_some hm).2.1
  have HK7 := hide hk
  clear H hB hm hk hi a0 a1
  go_enter Try.func21, Try.ntmps21
  go_wp2_with fail
  refine (unhide HC).mono ?_
  rintro e1 w1 ⟨rfl, hb1⟩
  have hb2 := (unhide HB).trans (hb1.mono (unhide HB).size)
  have H1 := (unhide HH).below hb2
  have hqx : w.heap.size + 1 < ((w.alloc (.cells #[.int .i64 kk, .int .i64 n] 33)).alloc (.cells #[.int .i64 xk, .int .i64 xn] 33)).heap.size := by omega
  have x0 : w1.cell? ⟨w.heap.size + 1, 0, none⟩ = some (.int .i64 xk) := (hb1.cell (p := ⟨w.heap.size + 1, 0, none⟩) hqx).trans (by have := (unhide HX).1; rw [hz1] at this; exact this)
  have x1 : w1.cell? ⟨w.heap.size + 1, 1, none⟩ = some (.int .i64 xn) := (hb1.cell (p := ⟨w.heap.size + 1, 1, none⟩) hqx).trans (by have := (unhide HX).2; rw [hz1] at this; exact this)
  have hxl : w.heap.size + 1 < w1.heap.size := World.block_lt_of_cell? _ _ x0
  have HB2 := hide hb2
  have HADD := hide (addf_no H1 hb hs (unhide HO) (unhide HK7) key xk xn hf hr)
  clear hb1 hb2 H1
  go_wp2_with fail
  refine (unhide HADD).mono ?_
  rintro e2 w3 ⟨rfl, b3⟩
  have HF := hide b3
  clear b3
  go_wp2_with fail
  go_ret2
  exact ⟨rfl, (unhide HB2).trans ((unhide HF).mono (unhide HB2).size)⟩
set_option maxRecDepth 100000 in
set_option maxHeartbeats 6400000 in
theorem setf_ok {w : World} {h : Nat} {bud sp : Int} {ov : Value} {os : List OD} (H : Hp w h bud sp ov os) (hb : 0 ≤ bud ∧ bud < 4611686018427387904) (hs : 0 ≤ sp ∧ sp ≤ bud) (kk n : Int) {o : OD} (hm : nm os kk n = some o) (hk : o.k = 7) (key xk xn : Int) (hi : fx o.keys key = none) (hf : o.keys.length < 256) (hlen : o.its.length = o.keys.length) (hr : 2 ≤ bud - sp) :
    Calls Try.prog 21 #[.pointer (some ⟨h, 0, none⟩), .agg #[.int .i64 kk, .int .i64 n], .int .i64 key, .agg #[.int .i64 xk, .int .i64 xn]] w fun e w' => e = .returned (.tuple #[.int .i64 0, .bool true]) ∧ ∃ v1 v2, Now w h bud sp ov os w' (sp + 2) (os.set n.toNat { o with kv := v1, keys := o.keys ++ [key], iv := v2, its := o.its ++ [(xk, xn)] }) := by
  have hB : Below w.heap.size w ((w.alloc (.cells #[.int .i64 kk, .int .i64 n] 33)).alloc (.cells #[.int .i64 xk, .int .i64 xn] 33)) := ((Below.refl _ _).alloc (Nat.le_refl _) _).alloc (by simp) _
  have HC := field_any (H.below hB) kk n hm hk key
  rw [hi] at HC
  unfold fieldV at HC
  have HC := hide HC
  have HB := hide hB
  have hz1 : (w.alloc (.cells #[.int .i64 kk, .int .i64 n] 33)).heap.size = w.heap.size + 1 := by simp
  have hz2 : ((w.alloc (.cells #[.int .i64 kk, .int .i64 n] 33)).alloc (.cells #[.int .i64 xk, .int .i64 xn] 33)).heap.size = w.heap.size + 2 := by simp
  obtain ⟨a0, a1⟩ := two_new w (.int .i64 kk) (.int .i64 n) 33
  have a0' : ((w.alloc (.cells #[.int .i64 kk, .int .i64 n] 33)).alloc (.cells #[.int .i64 xk, .int .i64 xn] 33)).cell? ⟨w.heap.size, 0, none⟩ = some (.int .i64 kk) := (World.cell?_of_block (Below.heap_alloc _ _ _ (by simp))).trans a0
  have a1' : ((w.alloc (.cells #[.int .i64 kk, .int .i64 n] 33)).alloc (.cells #[.int .i64 xk, .int .i64 xn] 33)).cell? ⟨w.heap.size, 1, none⟩ = some (.int .i64 n) := (World.cell?_of_block (Below.heap_alloc _ _ _ (by simp))).trans a1
  have HX := hide (two_new (w.alloc (.cells #[.int .i64 kk, .int .i64 n] 33)) (.int .i64 xk) (.int .i64 xn) 33)
  have hl := H.hlt
  have HH := hide H
  have HO := hide (nm_some hm).2.1
  have HK7 := hide hk
  clear H hB hm hk hi a0 a1
  go_enter Try.func21, Try.ntmps21
  go_wp2_with fail
  refine (unhide HC).mono ?_
  rintro e1 w1 ⟨rfl, hb1⟩
  have hb2 := (unhide HB).trans (hb1.mono (unhide HB).size)
  have H1 := (unhide HH).below hb2
  have hqx : w.heap.size + 1 < ((w.alloc (.cells #[.int .i64 kk, .int .i64 n] 33)).alloc (.cells #[.int .i64 xk, .int .i64 xn] 33)).heap.size := by omega
  have x0 : w1.cell? ⟨w.heap.size + 1, 0, none⟩ = some (.int .i64 xk) := (hb1.cell (p := ⟨w.heap.size + 1, 0, none⟩) hqx).trans (by have := (unhide HX).1; rw [hz1] at this; exact this)
  have x1 : w1.cell? ⟨w.heap.size + 1, 1, none⟩ = some (.int .i64 xn) := (hb1.cell (p := ⟨w.heap.size + 1, 1, none⟩) hqx).trans (by have := (unhide HX).2; rw [hz1] at this; exact this)
  have hxl : w.heap.size + 1 < w1.heap.size := World.block_lt_of_cell? _ _ x0
  have HB2 := hide hb2
  have HADD := hide (addf_ok H1 hb hs (unhide HO) (unhide HK7) key xk xn hf hlen hr)
  clear hb1 hb2 H1
  go_wp2_with fail
  refine (unhide HADD).mono ?_
  rintro e2 w3 ⟨rfl, v1, v2, N⟩
  have HF := hide N
  clear N
  go_wp2_with fail
  go_ret2
  exact ⟨rfl, _, _, Now.after (unhide HB2) (unhide HF)⟩
set_option maxRecDepth 100000 in
set_option maxHeartbeats 6400000 in
theorem setf_found {w : World} {h : Nat} {bud sp : Int} {ov : Value} {os : List OD} (H : Hp w h bud sp ov os) (hb : 0 ≤ bud ∧ bud < 4611686018427387904) (hs : 0 ≤ sp ∧ sp ≤ bud) (kk n : Int) {o : OD} (hm : nm os kk n = some o) (hk : o.k = 7) (key xk xn : Int) {i : Nat} (hi : fx o.keys key = some i) (hlen : o.its.length = o.keys.length) :
    Calls Try.prog 21 #[.pointer (some ⟨h, 0, none⟩), .agg #[.int .i64 kk, .int .i64 n], .int .i64 key, .agg #[.int .i64 xk, .int .i64 xn]] w fun e w' => e = .returned (.tuple #[.int .i64 0, .bool true]) ∧ Now w h bud sp ov os w' sp (os.set n.toNat { o with its := o.its.set i (xk, xn) }) := by
  have hB : Below w.heap.size w ((w.alloc (.cells #[.int .i64 kk, .int .i64 n] 33)).alloc (.cells #[.int .i64 xk, .int .i64 xn] 33)) := ((Below.refl _ _).alloc (Nat.le_refl _) _).alloc (by simp) _
  have HC := field_any (H.below hB) kk n hm hk key
  rw [hi] at HC
  unfold fieldV at HC
  have HC := hide HC
  have HB := hide hB
  have hz1 : (w.alloc (.cells #[.int .i64 kk, .int .i64 n] 33)).heap.size = w.heap.size + 1 := by simp
  have hz2 : ((w.alloc (.cells #[.int .i64 kk, .int .i64 n] 33)).alloc (.cells #[.int .i64 xk, .int .i64 xn] 33)).heap.size = w.heap.size + 2 := by simp
  obtain ⟨a0, a1⟩ := two_new w (.int .i64 kk) (.int .i64 n) 33
  have a0' : ((w.alloc (.cells #[.int .i64 kk, .int .i64 n] 33)).alloc (.cells #[.int .i64 xk, .int .i64 xn] 33)).cell? ⟨w.heap.size, 0, none⟩ = some (.int .i64 kk) := (World.cell?_of_block (Below.heap_alloc _ _ _ (by simp))).trans a0
  have a1' : ((w.alloc (.cells #[.int .i64 kk, .int .i64 n] 33)).alloc (.cells #[.int .i64 xk, .int .i64 xn] 33)).cell? ⟨w.heap.size, 1, none⟩ = some (.int .i64 n) := (World.cell?_of_block (Below.heap_alloc _ _ _ (by simp))).trans a1
  have HX := hide (two_new (w.alloc (.cells #[.int .i64 kk, .int .i64 n] 33)) (.int .i64 xk) (.int .i64 xn) 33)
  have hl := H.hlt
  have HH := hide H
  have HO := hide (nm_some hm).2.1
  have HK7 := hide hk
  have hil : i < o.its.length := by rw [hlen]; exact fx_lt hi
  clear H hB hm hk hi a0 a1 hlen
  go_enter Try.func21, Try.ntmps21
  go_wp2_with fail
  refine (unhide HC).mono ?_
  rintro e1 w1 ⟨rfl, hb1⟩
  have hb2 := (unhide HB).trans (hb1.mono (unhide HB).size)
  have H1 := (unhide HH).below hb2
  have hqx : w.heap.size + 1 < ((w.alloc (.cells #[.int .i64 kk, .int .i64 n] 33)).alloc (.cells #[.int .i64 xk, .int .i64 xn] 33)).heap.size := by omega
  have x0 : w1.cell? ⟨w.heap.size + 1, 0, none⟩ = some (.int .i64 xk) := (hb1.cell (p := ⟨w.heap.size + 1, 0, none⟩) hqx).trans (by have := (unhide HX).1; rw [hz1] at this; exact this)
  have x1 : w1.cell? ⟨w.heap.size + 1, 1, none⟩ = some (.int .i64 xn) := (hb1.cell (p := ⟨w.heap.size + 1, 1, none⟩) hqx).trans (by have := (unhide HX).2; rw [hz1] at this; exact this)
  have hxl : w.heap.size + 1 < w1.heap.size := World.block_lt_of_cell? _ _ x0
  have HB2 := hide hb2
  have hok := H1.ok _ _ (unhide HO)
  obtain ⟨c0, c1⟩ := rec_cells hok (unhide HK7)
  obtain ⟨g, off, cap, ie, icl, icm, hgl, hqq⟩ := hok.items.full (by omega)
  clear hqq
  have hir := hok.items
  rw [ie] at c1 hir
  obtain ⟨⟨u0, k0⟩, ⟨u1, k1⟩, kf, _, r1, r2⟩ := hir.put rfl hil (xk, xn)
  have kf0 := kf (off + i * 2)
  have kf1 := kf (off + i * 2 + 1)
  have hbl : o.b < w1.heap.size := hok.lt _ (.inl rfl)
  have hgb : g ≠ o.b := fun e => (H1.one (unhide HO)).1 (by rw [ie, e]; rfl)
  have hgq : g ≠ w.heap.size + 1 := by
    have := (unhide HH).lt g (Fts.mine (unhide HO) (.inr (.inl (by rw [ie]; rfl))))
    omega
  have HN : Hid (Now w1 h bud sp ov os ((w1.setCell ⟨g, off + i * 2, none⟩ (.int .i64 xk)).setCell ⟨g, off + i * 2 + 1, none⟩ (.int .i64 xn)) sp (os.set n.toNat { o with its := o.its.set i (xk, xn) })) := H1.turnIv (unhide HO) (r2.mono (fun k _ e => by rw [ie, e]; rfl)) (by rw [List.length_set, ie]; exact r1)
  have i0 : (0 : Int) ≤ (i : Int) := by omega
  have i1 : (i : Int) < (o.its.length : Int) := by omega
  have HSX : Hid (((w1.setCell ⟨g, off + i * 2, none⟩ (.int .i64 xk)).setCell ⟨g, off + i * 2 + 1, none⟩ (.int .i64 xn)).cell? ⟨w.heap.size + 1, 0, none⟩ = some (.int .i64 xk) ∧ ((w1.setCell ⟨g, off + i * 2, none⟩ (.int .i64 xk)).setCell ⟨g, off + i * 2 + 1, none⟩ (.int .i64 xn)).cell? ⟨w.heap.size + 1, 1, none⟩ = some (.int .i64 xn) ∧ ((w1.setCell ⟨g, off + i * 2, none⟩ (.int .i64 xk)).setCell ⟨g, off + i * 2 + 1, none⟩ (.int .i64 xn)).cell? ⟨o.b, 1, none⟩ = some (.slice (some ⟨g, off, none⟩) o.its.length cap) ∧ o.b < ((w1.setCell ⟨g, off + i * 2, none⟩ (.int .i64 xk)).setCell ⟨g, off + i * 2 + 1, none⟩ (.int .i64 xn)).heap.size) := by
    have o2 : ∀ b j, b ≠ g → ((w1.setCell ⟨g, off + i * 2, none⟩ (.int .i64 xk)).setCell ⟨g, off + i * 2 + 1, none⟩ (.int .i64 xn)).cell? ⟨b, j, none⟩ = w1.cell? ⟨b, j, none⟩ := fun b j hb => by
      rw [World.cell?_setCell_other _ _ _ _ (fun e => hb (congrArg Addr.block e).symm), World.cell?_setCell_other _ _ _ _ (fun e => hb (congrArg Addr.block e).symm)]
    exact ⟨(o2 _ _ (fun e => hgq e.symm)).trans x0, (o2 _ _ (fun e => hgq e.symm)).trans x1, (o2 _ _ (fun e => hgb e.symm)).trans c1, by simp [World.setCell]; exact hbl⟩
  unfold maxLen at icm
  have hS : w1.cell? ⟨w.heap.size + 1, 0, none⟩ = some (.int .i64 xk) ∧ w1.cell? ⟨w.heap.size + 1, 1, none⟩ = some (.int .i64 xn) ∧ w1.cell? ⟨o.b, 1, none⟩ = some (.slice (some ⟨g, off, none⟩) o.its.length cap) ∧ o.b < w1.heap.size := ⟨x0, x1, c1, hbl⟩
  clear hb1 hb2 H1 hok hir ie r1 r2 kf c0
  go_wp2_with fail
  refine wp_region_held_drew (S := (fun wx => wx.cell? ⟨w.heap.size + 1, 0, none⟩ = some (.int .i64 xk) ∧ wx.cell? ⟨w.heap.size + 1, 1, none⟩ = some (.int .i64 xn) ∧ wx.cell? ⟨o.b, 1, none⟩ = some (.slice (some ⟨g, off, none⟩) o.its.length cap) ∧ o.b < wx.heap.size)) (by kernel_rfl) hS (fun hHeld => ?_)
  refine wpAnyH_take (i := 0) (oi := _) (v := .pointer (some ⟨o.b, 0, none⟩)) rfl (by kernel_rfl) (by kernel_rfl) (by kernel_rfl) (fun _ _ _ h => h) (Or.inl ⟨by rfl, (by intro w hSw; go_simp)⟩) (by assumption) ?_
  refine wpAnyH_take (i := 1) (oi := _) (v := .pointer (some ⟨o.b, 0, none⟩)) rfl (by kernel_rfl) (by kernel_rfl) (by kernel_rfl) (fun _ _ _ h => h) (Or.inl ⟨by rfl, (by intro w hSw; obtain ⟨hs1, hs2, hs3, hs4⟩ := hSw; go_simp)⟩) (by assumption) ?_
  refine wpAnyH_take (i := 2) (oi := _) (v := .pointer (some ⟨o.b, 1, none⟩)) rfl (by kernel_rfl) (by kernel_rfl) (by kernel_rfl) (fun _ _ _ h => h) (Or.inl ⟨by rfl, (by intro w hSw; obtain ⟨hs1, hs2, hs3, hs4⟩ := hSw; go_simp)⟩) (by assumption) ?_
  go_simp
  refine wpAnyH_take (i := 3) (oi := _) (v := .slice (some ⟨g, off, none⟩) o.its.length cap) rfl (by kernel_rfl) (by kernel_rfl) (by kernel_rfl) (fun _ _ _ h => h) (Or.inl ⟨by rfl, (by intro w hSw; obtain ⟨hs1, hs2, hs3, hs4⟩ := hSw; go_simp)⟩) (by assumption) ?_
  refine wpAnyH_take (i := 4) (oi := _) (v := .int .i64 (i : Int)) rfl (by kernel_rfl) (by kernel_rfl) (by kernel_rfl) (fun _ _ _ h => h) (Or.inl ⟨by rfl, (by intro w hSw; go_simp)⟩) (by assumption) ?_
  refine wpAnyH_take (i := 5) (oi := _) (v := .agg #[.int .i64 xk, .int .i64 xn]) rfl (by kernel_rfl) (by kernel_rfl) (by kernel_rfl) (fun _ _ _ h => h) (Or.inl ⟨by rfl, (by intro w hSw; obtain ⟨hs1, hs2, hs3, hs4⟩ := hSw; go_simp)⟩) (by assumption) ?_
  go_simp
  refine wpAnyH_take (i := 6) (oi := _) (v := .pointer (some ⟨g, off + i * 2, none⟩)) rfl (by kernel_rfl) (by kernel_rfl) (by kernel_rfl) (fun _ _ _ h => h) (Or.inl ⟨by rfl, (by intro w hSw; obtain ⟨hs1, hs2, hs3, hs4⟩ := hSw; go_simp)⟩) (by assumption) ?_
  go_simp
  refine wpAnyH_ready (rs := [7]) (by kernel_rfl) (by simp) ?_
  refine AllReadyH.cons (o := _) rfl (fun K hK => ?_) AllReadyH.nil
  go_simp
  refine hK.out _ _ (unhide HSX) (fun hHeld2 => ?_)
  clear hK K
  refine wpAnyH_done (by kernel_rfl) ?_ _
  clear hHeld hHeld2 hS
  go_wp2_with fail
  go_ret2
  exact ⟨rfl, Now.after (unhide HB2) (Now.below (unhide HN) ((Below.refl _ _).drew))⟩
end Go.Proofs.Ytkpngfahnpidkaa
