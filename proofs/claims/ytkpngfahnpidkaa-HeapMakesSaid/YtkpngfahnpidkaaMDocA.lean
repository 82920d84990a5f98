/-
  The document's heap: Array, Record, Bound, Chan.
-/
import Derived.Test.YtkpngfahnpidkaaMMake
namespace Go.Proofs.Ytkpngfahnpidkaa
open Go.RowKit
set_option linter.unusedVariables false
set_option linter.unusedSimpArgs false

theorem rmk_ok {w W : World} {r : Nat} {bud sp : Int} {rv : Value} {ds : List RD} (H : Rh w r bud sp rv ds) (hB : Below w.heap.size w W) (hb : 0 ≤ bud ∧ bud < 9223372036854775808) (hs : 0 ≤ sp ∧ sp < 9223372036854775808) (cost : Int) (hr : room bud sp cost = true) (d : RD) (hok : d.ok W) (hd : ∀ k, d.mine k → w.heap.size ≤ k) (hL : ds.length ≤ 1700000000000) :
    Calls Try.prog 72 #[.pointer (some ⟨r, 0, none⟩), .bool true, .int .i64 cost, .agg #[.int .i64 d.a.k, d.iv, d.kv, .int .i64 d.a.fn, .int .i64 d.a.cap, .bool d.a.shut]] W fun e w' => e = .returned (.tuple #[.agg #[.int .i64 d.a.k, .int .i64 (ds.length : Int)], .bool true]) ∧ RNow w r bud sp rv ds w' (sp + cost) (ds.map (·.a) ++ [d.a]) ∧ Fr (Rfs r rv ds) W w' := by
  have hl := H.lt
  refine (rmake_ok (H.below hB) hb hs cost hr d hok (fun k hk => ⟨fun e => ?_, fun e => ?_⟩) hL).mono fun e w' ⟨he, rv', h1, h2, h3⟩ => ⟨he, ⟨rv', ds ++ [d], h1, by simp, (Fr.of_below hB).trans h2, fun k hk => ?_⟩, h2⟩
  · have := hd k hk; have := H.rlt; omega
  · have := hd k hk; have := hl k (.inr (.inl e)); omega
  · rcases h3 k hk with q | q | q
    · exact .inl q
    · exact .inr (hd k q)
    · exact .inr (Nat.le_trans hB.size q)
theorem rmk_no {w W : World} {r : Nat} {bud sp : Int} {rv : Value} {ds : List RD} (H : Rh w r bud sp rv ds) (hB : Below w.heap.size w W) (hb : 0 ≤ bud ∧ bud < 9223372036854775808) (hs : 0 ≤ sp ∧ sp < 9223372036854775808) (may : Bool) (cost : Int) (hno : may = false ∨ room bud sp cost = false) (d : RD) (hok : d.ok W) :
    Calls Try.prog 72 #[.pointer (some ⟨r, 0, none⟩), .bool may, .int .i64 cost, .agg #[.int .i64 d.a.k, d.iv, d.kv, .int .i64 d.a.fn, .int .i64 d.a.cap, .bool d.a.shut]] W fun e w' => e = .returned (.tuple #[.agg #[.int .i64 0, .int .i64 0], .bool false]) ∧ RNow w r bud sp rv ds w' sp (ds.map (·.a)) ∧ Fr (Rfs r rv ds) W w' := by
  obtain ⟨ia, ic, ie, _⟩ := hok.items.shape
  obtain ⟨ka, kc, ke, _⟩ := hok.keys.shape
  rw [ie, ke]
  exact (rmake_no (H.below hB) hb hs may cost hno d.a.k d.a.fn d.a.cap ia d.a.its.length ic ka d.a.keys.length kc d.a.shut).mono fun e w' ⟨he, hb'⟩ => ⟨he, RNow.same H (hB.trans (hb'.mono hB.size)), Fr.of_below hb'⟩
set_option maxRecDepth 100000 in
set_option maxHeartbeats 3200000 in
theorem rrec_ok {w : World} {r : Nat} {bud sp : Int} {rv : Value} {ds : List RD} (H : Rh w r bud sp rv ds) (hb : 0 ≤ bud ∧ bud < 9223372036854775808) (hs : 0 ≤ sp ∧ sp < 9223372036854775808) (hr : room bud sp 2 = true) (hL : ds.length ≤ 1700000000000) :
    Calls Try.prog 50 #[.pointer (some ⟨r, 0, none⟩)] w fun e w' => e = .returned (.tuple #[.agg #[.int .i64 7, .int .i64 (ds.length : Int)], .bool true]) ∧ RNow w r bud sp rv ds w' (sp + 2) (ds.map (·.a) ++ [⟨7, [], [], 0, 0, false⟩]) := by
  have hB : Below w.heap.size w (w.alloc (.cells #[.int .i64 0, .int .i64 0] 33)) := (Below.refl _ _).alloc (Nat.le_refl _) _
  have hz : (w.alloc (.cells #[.int .i64 0, .int .i64 0] 33)).heap.size = w.heap.size + 1 := by simp
  obtain ⟨t0, t1⟩ := two_new w (.int .i64 0) (.int .i64 0) 33
  have tf : ∀ j, (w.alloc (.cells #[.int .i64 0, .int .i64 0] 33)).frozen? ⟨w.heap.size, j, none⟩ = false := fun j => frozen_new _ _ _ _
  have hlt := H.lt
  have nb : ¬ Rfs r rv ds w.heap.size := fun e => by have := hlt _ e; omega
  have H0 := H.below hB
  have HM := hide (rmk_ok H0 (Below.refl _ _) hb hs 2 hr ⟨⟨7, [], [], 0, 0, false⟩, .slice none 0 0, .slice none 0 0⟩ ⟨Ro.nil _ _, Ro.nil _ _⟩ (by rintro k (e | e) <;> simp [Value.ownBlock] at e) hL)
  have LT1 : Hid (w.heap.size < (w.alloc (.cells #[.int .i64 0, .int .i64 0] 33)).heap.size) := by unfold Hid; omega
  have HB := hide hB
  have HZ := hide hz
  have NB := hide nb
  have HLT := hide hlt
  clear H H0 hB hz hlt nb
  go_enter Try.func50, Try.ntmps50
  go_wp2_with fail
  refine (unhide HM).mono ?_
  rintro e2 w2 ⟨rfl, hN2, hf2⟩
  have lt1 : w.heap.size < (w.alloc (.cells #[.int .i64 0, .int .i64 0] 33)).heap.size := unhide LT1
  have u0 : w2.cell? ⟨w.heap.size, 0, none⟩ = some (.int .i64 0) := (hf2.cell (a := ⟨w.heap.size, 0, none⟩) lt1 (unhide NB)).trans t0
  have u1 : w2.cell? ⟨w.heap.size, 1, none⟩ = some (.int .i64 0) := (hf2.cell (a := ⟨w.heap.size, 1, none⟩) lt1 (unhide NB)).trans t1
  have uf : ∀ j, w2.frozen? ⟨w.heap.size, j, none⟩ = false := fun j => (hf2.frozen (a := ⟨w.heap.size, j, none⟩) lt1 (unhide NB)).trans (tf j)
  have hl2 : w.heap.size < w2.heap.size := World.block_lt_of_cell? _ _ u0
  have HN2 := hide hN2
  clear hN2 hf2 t0 t1 tf lt1
  have BF : Hid (Fr (fun q => q = w.heap.size) w2 ((w2.setCell ⟨w.heap.size, 0, none⟩ (.int .i64 7)).setCell ⟨w.heap.size, 1, none⟩ (.int .i64 (ds.length : Int)))) := ((Fr.refl (fun q => q = w.heap.size) w2).setCell ⟨w.heap.size, 0, none⟩ (.inr rfl) _).setCell ⟨w.heap.size, 1, none⟩ (.inr rfl) _
  have z0 : Hid (((w2.setCell ⟨w.heap.size, 0, none⟩ (.int .i64 7)).setCell ⟨w.heap.size, 1, none⟩ (.int .i64 (ds.length : Int))).cell? ⟨w.heap.size, 0, none⟩ = some (.int .i64 7)) := (World.cell?_setCell_other _ _ _ _ (by simp)).trans (World.cell?_setCell_same _ _ _ u0)
  have z1 : Hid (((w2.setCell ⟨w.heap.size, 0, none⟩ (.int .i64 7)).setCell ⟨w.heap.size, 1, none⟩ (.int .i64 (ds.length : Int))).cell? ⟨w.heap.size, 1, none⟩ = some (.int .i64 (ds.length : Int))) := World.cell?_setCell_same _ _ _ ((World.cell?_setCell_other _ _ _ _ (by simp)).trans u1)
  go_wp2_with fail
  have z0 := unhide z0
  have z1 := unhide z1
  refine bodyPost_ret (v := .tuple #[.agg #[.int .i64 7, .int .i64 (ds.length : Int)], .bool true]) (by simp [results, Try.results50, go_sem, z0, z1]) rfl ?_
  exact ⟨rfl, RNow.puts (unhide HB) (unhide HLT) (unhide HN2) (fun q e => by rw [unhide HZ]; omega) (unhide BF)⟩
set_option maxRecDepth 100000 in
set_option maxHeartbeats 3200000 in
theorem rrec_no {w : World} {r : Nat} {bud sp : Int} {rv : Value} {ds : List RD} (H : Rh w r bud sp rv ds) (hb : 0 ≤ bud ∧ bud < 9223372036854775808) (hs : 0 ≤ sp ∧ sp < 9223372036854775808) (hr : room bud sp 2 = false) :
    Calls Try.prog 50 #[.pointer (some ⟨r, 0, none⟩)] w fun e w' => e = .returned (.tuple #[.agg #[.int .i64 0, .int .i64 0], .bool false]) ∧ RNow w r bud sp rv ds w' sp (ds.map (·.a)) := by
  have hB : Below w.heap.size w (w.alloc (.cells #[.int .i64 0, .int .i64 0] 33)) := (Below.refl _ _).alloc (Nat.le_refl _) _
  have hz : (w.alloc (.cells #[.int .i64 0, .int .i64 0] 33)).heap.size = w.heap.size + 1 := by simp
  obtain ⟨t0, t1⟩ := two_new w (.int .i64 0) (.int .i64 0) 33
  have tf : ∀ j, (w.alloc (.cells #[.int .i64 0, .int .i64 0] 33)).frozen? ⟨w.heap.size, j, none⟩ = false := fun j => frozen_new _ _ _ _
  have hlt := H.lt
  have nb : ¬ Rfs r rv ds w.heap.size := fun e => by have := hlt _ e; omega
  have H0 := H.below hB
  have HM := hide (rmk_no H0 (Below.refl _ _) hb hs true 2 (.inr hr) ⟨⟨7, [], [], 0, 0, false⟩, .slice none 0 0, .slice none 0 0⟩ ⟨Ro.nil _ _, Ro.nil _ _⟩)
  have LT1 : Hid (w.heap.size < (w.alloc (.cells #[.int .i64 0, .int .i64 0] 33)).heap.size) := by unfold Hid; omega
  have HB := hide hB
  have HZ := hide hz
  have NB := hide nb
  have HLT := hide hlt
  clear H H0 hB hz hlt nb
  go_enter Try.func50, Try.ntmps50
  go_wp2_with fail
  refine (unhide HM).mono ?_
  rintro e2 w2 ⟨rfl, hN2, hf2⟩
  have lt1 : w.heap.size < (w.alloc (.cells #[.int .i64 0, .int .i64 0] 33)).heap.size := unhide LT1
  have u0 : w2.cell? ⟨w.heap.size, 0, none⟩ = some (.int .i64 0) := (hf2.cell (a := ⟨w.heap.size, 0, none⟩) lt1 (unhide NB)).trans t0
  have u1 : w2.cell? ⟨w.heap.size, 1, none⟩ = some (.int .i64 0) := (hf2.cell (a := ⟨w.heap.size, 1, none⟩) lt1 (unhide NB)).trans t1
  have uf : ∀ j, w2.frozen? ⟨w.heap.size, j, none⟩ = false := fun j => (hf2.frozen (a := ⟨w.heap.size, j, none⟩) lt1 (unhide NB)).trans (tf j)
  have hl2 : w.heap.size < w2.heap.size := World.block_lt_of_cell? _ _ u0
  have HN2 := hide hN2
  clear hN2 hf2 t0 t1 tf lt1
  have BF : Hid (Fr (fun q => q = w.heap.size) w2 ((w2.setCell ⟨w.heap.size, 0, none⟩ (.int .i64 0)).setCell ⟨w.heap.size, 1, none⟩ (.int .i64 0))) := ((Fr.refl (fun q => q = w.heap.size) w2).setCell ⟨w.heap.size, 0, none⟩ (.inr rfl) _).setCell ⟨w.heap.size, 1, none⟩ (.inr rfl) _
  have z0 : Hid (((w2.setCell ⟨w.heap.size, 0, none⟩ (.int .i64 0)).setCell ⟨w.heap.size, 1, none⟩ (.int .i64 0)).cell? ⟨w.heap.size, 0, none⟩ = some (.int .i64 0)) := (World.cell?_setCell_other _ _ _ _ (by simp)).trans (World.cell?_setCell_same _ _ _ u0)
  have z1 : Hid (((w2.setCell ⟨w.heap.size, 0, none⟩ (.int .i64 0)).setCell ⟨w.heap.size, 1, none⟩ (.int .i64 0)).cell? ⟨w.heap.size, 1, none⟩ = some (.int .i64 0)) := World.cell?_setCell_same _ _ _ ((World.cell?_setCell_other _ _ _ _ (by simp)).trans u1)
  go_wp2_with fail
  have z0 := unhide z0
  have z1 := unhide z1
  refine bodyPost_ret (v := .tuple #[.agg #[.int .i64 0, .int .i64 0], .bool false]) (by simp [results, Try.results50, go_sem, z0, z1]) rfl ?_
  exact ⟨rfl, RNow.puts (unhide HB) (unhide HLT) (unhide HN2) (fun q e => by rw [unhide HZ]; omega) (unhide BF)⟩
set_option maxRecDepth 100000 in
set_option maxHeartbeats 3200000 in
theorem rchn_ok {w : World} {r : Nat} {bud sp : Int} {rv : Value} {ds : List RD} (H : Rh w r bud sp rv ds) (hb : 0 ≤ bud ∧ bud < 9223372036854775808) (hs : 0 ≤ sp ∧ sp < 9223372036854775808) {n : Int} (h1 : 1 ≤ n) (h2 : n ≤ 64) (hr : room bud sp (2 + n) = true) (hL : ds.length ≤ 1700000000000) :
    Calls Try.prog 52 #[.pointer (some ⟨r, 0, none⟩), .int .i64 n] w fun e w' => e = .returned (.tuple #[.agg #[.int .i64 9, .int .i64 (ds.length : Int)], .bool true]) ∧ RNow w r bud sp rv ds w' (sp + (2 + n)) (ds.map (·.a) ++ [⟨9, [], [], 0, n, false⟩]) := by
  have hB : Below w.heap.size w (w.alloc (.cells #[.int .i64 0, .int .i64 0] 33)) := (Below.refl _ _).alloc (Nat.le_refl _) _
  have hz : (w.alloc (.cells #[.int .i64 0, .int .i64 0] 33)).heap.size = w.heap.size + 1 := by simp
  obtain ⟨t0, t1⟩ := two_new w (.int .i64 0) (.int .i64 0) 33
  have tf : ∀ j, (w.alloc (.cells #[.int .i64 0, .int .i64 0] 33)).frozen? ⟨w.heap.size, j, none⟩ = false := fun j => frozen_new _ _ _ _
  have hlt := H.lt
  have nb : ¬ Rfs r rv ds w.heap.size := fun e => by have := hlt _ e; omega
  have H0 := H.below hB
  have HM := hide (rmk_ok H0 (Below.refl _ _) hb hs (2 + n) hr ⟨⟨9, [], [], 0, n, false⟩, .slice none 0 0, .slice none 0 0⟩ ⟨Ro.nil _ _, Ro.nil _ _⟩ (by rintro k (e | e) <;> simp [Value.ownBlock] at e) hL)
  have LT1 : Hid (w.heap.size < (w.alloc (.cells #[.int .i64 0, .int .i64 0] 33)).heap.size) := by unfold Hid; omega
  have HB := hide hB
  have HZ := hide hz
  have NB := hide nb
  have HLT := hide hlt
  clear H H0 hB hz hlt nb
  go_enter Try.func52, Try.ntmps52
  go_wp2_with fail
  refine (unhide HM).mono ?_
  rintro e2 w2 ⟨rfl, hN2, hf2⟩
  have lt1 : w.heap.size < (w.alloc (.cells #[.int .i64 0, .int .i64 0] 33)).heap.size := unhide LT1
  have u0 : w2.cell? ⟨w.heap.size, 0, none⟩ = some (.int .i64 0) := (hf2.cell (a := ⟨w.heap.size, 0, none⟩) lt1 (unhide NB)).trans t0
  have u1 : w2.cell? ⟨w.heap.size, 1, none⟩ = some (.int .i64 0) := (hf2.cell (a := ⟨w.heap.size, 1, none⟩) lt1 (unhide NB)).trans t1
  have uf : ∀ j, w2.frozen? ⟨w.heap.size, j, none⟩ = false := fun j => (hf2.frozen (a := ⟨w.heap.size, j, none⟩) lt1 (unhide NB)).trans (tf j)
  have hl2 : w.heap.size < w2.heap.size := World.block_lt_of_cell? _ _ u0
  have HN2 := hide hN2
  clear hN2 hf2 t0 t1 tf lt1
  have BF : Hid (Fr (fun q => q = w.heap.size) w2 ((w2.setCell ⟨w.heap.size, 0, none⟩ (.int .i64 9)).setCell ⟨w.heap.size, 1, none⟩ (.int .i64 (ds.length : Int)))) := ((Fr.refl (fun q => q = w.heap.size) w2).setCell ⟨w.heap.size, 0, none⟩ (.inr rfl) _).setCell ⟨w.heap.size, 1, none⟩ (.inr rfl) _
  have z0 : Hid (((w2.setCell ⟨w.heap.size, 0, none⟩ (.int .i64 9)).setCell ⟨w.heap.size, 1, none⟩ (.int .i64 (ds.length : Int))).cell? ⟨w.heap.size, 0, none⟩ = some (.int .i64 9)) := (World.cell?_setCell_other _ _ _ _ (by simp)).trans (World.cell?_setCell_same _ _ _ u0)
  have z1 : Hid (((w2.setCell ⟨w.heap.size, 0, none⟩ (.int .i64 9)).setCell ⟨w.heap.size, 1, none⟩ (.int .i64 (ds.length : Int))).cell? ⟨w.heap.size, 1, none⟩ = some (.int .i64 (ds.length : Int))) := World.cell?_setCell_same _ _ _ ((World.cell?_setCell_other _ _ _ _ (by simp)).trans u1)
  go_wp2_with fail
  have z0 := unhide z0
  have z1 := unhide z1
  refine bodyPost_ret (v := .tuple #[.agg #[.int .i64 9, .int .i64 (ds.length : Int)], .bool true]) (by simp [results, Try.results52, go_sem, z0, z1]) rfl ?_
  exact ⟨rfl, RNow.puts (unhide HB) (unhide HLT) (unhide HN2) (fun q e => by rw [unhide HZ]; omega) (unhide BF)⟩
set_option maxRecDepth 100000 in
set_option maxHeartbeats 3200000 in
theorem rchn_no {w : World} {r : Nat} {bud sp : Int} {rv : Value} {ds : List RD} (H : Rh w r bud sp rv ds) (hb : 0 ≤ bud ∧ bud < 9223372036854775808) (hs : 0 ≤ sp ∧ sp < 9223372036854775808) {n : Int} (h1 : 1 ≤ n) (h2 : n ≤ 64) (hr : room bud sp (2 + n) = false) :
    Calls Try.prog 52 #[.pointer (some ⟨r, 0, none⟩), .int .i64 n] w fun e w' => e = .returned (.tuple #[.agg #[.int .i64 0, .int .i64 0], .bool false]) ∧ RNow w r bud sp rv ds w' sp (ds.map (·.a)) := by
  have hB : Below w.heap.size w (w.alloc (.cells #[.int .i64 0, .int .i64 0] 33)) := (Below.refl _ _).alloc (Nat.le_refl _) _
  have hz : (w.alloc (.cells #[.int .i64 0, .int .i64 0] 33)).heap.size = w.heap.size + 1 := by simp
  obtain ⟨t0, t1⟩ := two_new w (.int .i64 0) (.int .i64 0) 33
  have tf : ∀ j, (w.alloc (.cells #[.int .i64 0, .int .i64 0] 33)).frozen? ⟨w.heap.size, j, none⟩ = false := fun j => frozen_new _ _ _ _
  have hlt := H.lt
  have nb : ¬ Rfs r rv ds w.heap.size := fun e => by have := hlt _ e; omega
  have H0 := H.below hB
  have HM := hide (rmk_no H0 (Below.refl _ _) hb hs true (2 + n) (.inr hr) ⟨⟨9, [], [], 0, n, false⟩, .slice none 0 0, .slice none 0 0⟩ ⟨Ro.nil _ _, Ro.nil _ _⟩)
  have LT1 : Hid (w.heap.size < (w.alloc (.cells #[.int .i64 0, .int .i64 0] 33)).heap.size) := by unfold Hid; omega
  have HB := hide hB
  have HZ := hide hz
  have NB := hide nb
  have HLT := hide hlt
  clear H H0 hB hz hlt nb
  go_enter Try.func52, Try.ntmps52
  go_wp2_with fail
  refine (unhide HM).mono ?_
  rintro e2 w2 ⟨rfl, hN2, hf2⟩
  have lt1 : w.heap.size < (w.alloc (.cells #[.int .i64 0, .int .i64 0] 33)).heap.size := unhide LT1
  have u0 : w2.cell? ⟨w.heap.size, 0, none⟩ = some (.int .i64 0) := (hf2.cell (a := ⟨w.heap.size, 0, none⟩) lt1 (unhide NB)).trans t0
  have u1 : w2.cell? ⟨w.heap.size, 1, none⟩ = some (.int .i64 0) := (hf2.cell (a := ⟨w.heap.size, 1, none⟩) lt1 (unhide NB)).trans t1
  have uf : ∀ j, w2.frozen? ⟨w.heap.size, j, none⟩ = false := fun j => (hf2.frozen (a := ⟨w.heap.size, j, none⟩) lt1 (unhide NB)).trans (tf j)
  have hl2 : w.heap.size < w2.heap.size := World.block_lt_of_cell? _ _ u0
  have HN2 := hide hN2
  clear hN2 hf2 t0 t1 tf lt1
  have BF : Hid (Fr (fun q => q = w.heap.size) w2 ((w2.setCell ⟨w.heap.size, 0, none⟩ (.int .i64 0)).setCell ⟨w.heap.size, 1, none⟩ (.int .i64 0))) := ((Fr.refl (fun q => q = w.heap.size) w2).setCell ⟨w.heap.size, 0, none⟩ (.inr rfl) _).setCell ⟨w.heap.size, 1, none⟩ (.inr rfl) _
  have z0 : Hid (((w2.setCell ⟨w.heap.size, 0, none⟩ (.int .i64 0)).setCell ⟨w.heap.size, 1, none⟩ (.int .i64 0)).cell? ⟨w.heap.size, 0, none⟩ = some (.int .i64 0)) := (World.cell?_setCell_other _ _ _ _ (by simp)).trans (World.cell?_setCell_same _ _ _ u0)
  have z1 : Hid (((w2.setCell ⟨w.heap.size, 0, none⟩ (.int .i64 0)).setCell ⟨w.heap.size, 1, none⟩ (.int .i64 0)).cell? ⟨w.heap.size, 1, none⟩ = some (.int .i64 0)) := World.cell?_setCell_same _ _ _ ((World.cell?_setCell_other _ _ _ _ (by simp)).trans u1)
  go_wp2_with fail
  have z0 := unhide z0
  have z1 := unhide z1
  refine bodyPost_ret (v := .tuple #[.agg #[.int .i64 0, .int .i64 0], .bool false]) (by simp [results, Try.results52, go_sem, z0, z1]) rfl ?_
  exact ⟨rfl, RNow.puts (unhide HB) (unhide HLT) (unhide HN2) (fun q e => by rw [unhide HZ]; omega) (unhide BF)⟩
set_option maxRecDepth 100000 in
set_option maxHeartbeats 3200000 in
theorem rchn_bad1 {w : World} {r : Nat} {bud sp : Int} {rv : Value} {ds : List RD} (H : Rh w r bud sp rv ds) (hb : 0 ≤ bud ∧ bud < 9223372036854775808) (hs : 0 ≤ sp ∧ sp < 9223372036854775808) {n : Int} (h1 : n < 1) :
    Calls Try.prog 52 #[.pointer (some ⟨r, 0, none⟩), .int .i64 n] w fun e w' => e = .returned (.tuple #[.agg #[.int .i64 0, .int .i64 0], .bool false]) ∧ RNow w r bud sp rv ds w' sp (ds.map (·.a)) := by
  have hB : Below w.heap.size w (w.alloc (.cells #[.int .i64 0, .int .i64 0] 33)) := (Below.refl _ _).alloc (Nat.le_refl _) _
  have hz : (w.alloc (.cells #[.int .i64 0, .int .i64 0] 33)).heap.size = w.heap.size + 1 := by simp
  obtain ⟨t0, t1⟩ := two_new w (.int .i64 0) (.int .i64 0) 33
  have tf : ∀ j, (w.alloc (.cells #[.int .i64 0, .int .i64 0] 33)).frozen? ⟨w.heap.size, j, none⟩ = false := fun j => frozen_new _ _ _ _
  have hlt := H.lt
  have nb : ¬ Rfs r rv ds w.heap.size := fun e => by have := hlt _ e; omega
  have H0 := H.below hB
  have HM := hide (rmk_no H0 (Below.refl _ _) hb hs false 2 (.inl rfl) ⟨⟨9, [], [], 0, n, false⟩, .slice none 0 0, .slice none 0 0⟩ ⟨Ro.nil _ _, Ro.nil _ _⟩)
  have LT1 : Hid (w.heap.size < (w.alloc (.cells #[.int .i64 0, .int .i64 0] 33)).heap.size) := by unfold Hid; omega
  have HB := hide hB
  have HZ := hide hz
  have NB := hide nb
  have HLT := hide hlt
  clear H H0 hB hz hlt nb
  go_enter Try.func52, Try.ntmps52
  go_wp2_with fail
  refine (unhide HM).mono ?_
  rintro e2 w2 ⟨rfl, hN2, hf2⟩
  have lt1 : w.heap.size < (w.alloc (.cells #[.int .i64 0, .int .i64 0] 33)).heap.size := unhide LT1
  have u0 : w2.cell? ⟨w.heap.size, 0, none⟩ = some (.int .i64 0) := (hf2.cell (a := ⟨w.heap.size, 0, none⟩) lt1 (unhide NB)).trans t0
  have u1 : w2.cell? ⟨w.heap.size, 1, none⟩ = some (.int .i64 0) := (hf2.cell (a := ⟨w.heap.size, 1, none⟩) lt1 (unhide NB)).trans t1
  have uf : ∀ j, w2.frozen? ⟨w.heap.size, j, none⟩ = false := fun j => (hf2.frozen (a := ⟨w.heap.size, j, none⟩) lt1 (unhide NB)).trans (tf j)
  have hl2 : w.heap.size < w2.heap.size := World.block_lt_of_cell? _ _ u0
  have HN2 := hide hN2
  clear hN2 hf2 t0 t1 tf lt1
  have BF : Hid (Fr (fun q => q = w.heap.size) w2 ((w2.setCell ⟨w.heap.size, 0, none⟩ (.int .i64 0)).setCell ⟨w.heap.size, 1, none⟩ (.int .i64 0))) := ((Fr.refl (fun q => q = w.heap.size) w2).setCell ⟨w.heap.size, 0, none⟩ (.inr rfl) _).setCell ⟨w.heap.size, 1, none⟩ (.inr rfl) _
  have z0 : Hid (((w2.setCell ⟨w.heap.size, 0, none⟩ (.int .i64 0)).setCell ⟨w.heap.size, 1, none⟩ (.int .i64 0)).cell? ⟨w.heap.size, 0, none⟩ = some (.int .i64 0)) := (World.cell?_setCell_other _ _ _ _ (by simp)).trans (World.cell?_setCell_same _ _ _ u0)
  have z1 : Hid (((w2.setCell ⟨w.heap.size, 0, none⟩ (.int .i64 0)).setCell ⟨w.heap.size, 1, none⟩ (.int .i64 0)).cell? ⟨w.heap.size, 1, none⟩ = some (.int .i64 0)) := World.cell?_setCell_same _ _ _ ((World.cell?_setCell_other _ _ _ _ (by simp)).trans u1)
  go_wp2_with fail
  have z0 := unhide z0
  have z1 := unhide z1
  refine bodyPost_ret (v := .tuple #[.agg #[.int .i64 0, .int .i64 0], .bool false]) (by simp [results, Try.results52, go_sem, z0, z1]) rfl ?_
  exact ⟨rfl, RNow.puts (unhide HB) (unhide HLT) (unhide HN2) (fun q e => by rw [unhide HZ]; omega) (unhide BF)⟩
set_option maxRecDepth 100000 in
set_option maxHeartbeats 3200000 in
theorem rchn_bad2 {w : World} {r : Nat} {bud sp : Int} {rv : Value} {ds : List RD} (H : Rh w r bud sp rv ds) (hb : 0 ≤ bud ∧ bud < 9223372036854775808) (hs : 0 ≤ sp ∧ sp < 9223372036854775808) {n : Int} (h1 : 64 < n) :
    Calls Try.prog 52 #[.pointer (some ⟨r, 0, none⟩), .int .i64 n] w fun e w' => e = .returned (.tuple #[.agg #[.int .i64 0, .int .i64 0], .bool false]) ∧ RNow w r bud sp rv ds w' sp (ds.map (·.a)) := by
  have hB : Below w.heap.size w (w.alloc (.cells #[.int .i64 0, .int .i64 0] 33)) := (Below.refl _ _).alloc (Nat.le_refl _) _
  have hz : (w.alloc (.cells #[.int .i64 0, .int .i64 0] 33)).heap.size = w.heap.size + 1 := by simp
  obtain ⟨t0, t1⟩ := two_new w (.int .i64 0) (.int .i64 0) 33
  have tf : ∀ j, (w.alloc (.cells #[.int .i64 0, .int .i64 0] 33)).frozen? ⟨w.heap.size, j, none⟩ = false := fun j => frozen_new _ _ _ _
  have hlt := H.lt
  have nb : ¬ Rfs r rv ds w.heap.size := fun e => by have := hlt _ e; omega
  have H0 := H.below hB
  have HM := hide (rmk_no H0 (Below.refl _ _) hb hs false 2 (.inl rfl) ⟨⟨9, [], [], 0, n, false⟩, .slice none 0 0, .slice none 0 0⟩ ⟨Ro.nil _ _, Ro.nil _ _⟩)
  have LT1 : Hid (w.heap.size < (w.alloc (.cells #[.int .i64 0, .int .i64 0] 33)).heap.size) := by unfold Hid; omega
  have h0 : 1 ≤ n := by omega
  have d9 : decide (n ≤ 64) = false := decide_eq_false (by omega)
  have HB := hide hB
  have HZ := hide hz
  have NB := hide nb
  have HLT := hide hlt
  clear H H0 hB hz hlt nb
  go_enter Try.func52, Try.ntmps52
  go_wp2_with fail
  refine (unhide HM).mono ?_
  rintro e2 w2 ⟨rfl, hN2, hf2⟩
  have lt1 : w.heap.size < (w.alloc (.cells #[.int .i64 0, .int .i64 0] 33)).heap.size := unhide LT1
  have u0 : w2.cell? ⟨w.heap.size, 0, none⟩ = some (.int .i64 0) := (hf2.cell (a := ⟨w.heap.size, 0, none⟩) lt1 (unhide NB)).trans t0
  have u1 : w2.cell? ⟨w.heap.size, 1, none⟩ = some (.int .i64 0) := (hf2.cell (a := ⟨w.heap.size, 1, none⟩) lt1 (unhide NB)).trans t1
  have uf : ∀ j, w2.frozen? ⟨w.heap.size, j, none⟩ = false := fun j => (hf2.frozen (a := ⟨w.heap.size, j, none⟩) lt1 (unhide NB)).trans (tf j)
  have hl2 : w.heap.size < w2.heap.size := World.block_lt_of_cell? _ _ u0
  have HN2 := hide hN2
  clear hN2 hf2 t0 t1 tf lt1
  have BF : Hid (Fr (fun q => q = w.heap.size) w2 ((w2.setCell ⟨w.heap.size, 0, none⟩ (.int .i64 0)).setCell ⟨w.heap.size, 1, none⟩ (.int .i64 0))) := ((Fr.refl (fun q => q = w.heap.size) w2).setCell ⟨w.heap.size, 0, none⟩ (.inr rfl) _).setCell ⟨w.heap.size, 1, none⟩ (.inr rfl) _
  have z0 : Hid (((w2.setCell ⟨w.heap.size, 0, none⟩ (.int .i64 0)).setCell ⟨w.heap.size, 1, none⟩ (.int .i64 0)).cell? ⟨w.heap.size, 0, none⟩ = some (.int .i64 0)) := (World.cell?_setCell_other _ _ _ _ (by simp)).trans (World.cell?_setCell_same _ _ _ u0)
  have z1 : Hid (((w2.setCell ⟨w.heap.size, 0, none⟩ (.int .i64 0)).setCell ⟨w.heap.size, 1, none⟩ (.int .i64 0)).cell? ⟨w.heap.size, 1, none⟩ = some (.int .i64 0)) := World.cell?_setCell_same _ _ _ ((World.cell?_setCell_other _ _ _ _ (by simp)).trans u1)
  go_wp2_with fail
  have z0 := unhide z0
  have z1 := unhide z1
  refine bodyPost_ret (v := .tuple #[.agg #[.int .i64 0, .int .i64 0], .bool false]) (by simp [results, Try.results52, go_sem, z0, z1]) rfl ?_
  exact ⟨rfl, RNow.puts (unhide HB) (unhide HLT) (unhide HN2) (fun q e => by rw [unhide HZ]; omega) (unhide BF)⟩
end Go.Proofs.Ytkpngfahnpidkaa
