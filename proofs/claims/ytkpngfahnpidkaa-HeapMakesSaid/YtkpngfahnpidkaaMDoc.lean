/-
  The document's heap: Array, Record, Bound, Chan.
-/
import Derived.Test.YtkpngfahnpidkaaMDocA
namespace Go.Proofs.Ytkpngfahnpidkaa
open Go.RowKit
set_option linter.unusedVariables false
set_option linter.unusedSimpArgs false

set_option maxRecDepth 100000 in
set_option maxHeartbeats 3200000 in
theorem rarr_ok {w : World} {r : Nat} {bud sp : Int} {rv : Value} {ds : List RD} (H : Rh w r bud sp rv ds) (hb : 0 ≤ bud ∧ bud < 9223372036854775808) (hs : 0 ≤ sp ∧ sp < 9223372036854775808) {a : Option Addr} {L c : Nat} {l : List (Int × Int)} (hRt : RtV w (.slice a L c) l) (h4 : L ≤ 4096) (hr : room bud sp (2 + (L : Int)) = true) (hL : ds.length ≤ 1700000000000) :
    Calls Try.prog 49 #[.pointer (some ⟨r, 0, none⟩), .slice a L c] w fun e w' => e = .returned (.tuple #[.agg #[.int .i64 6, .int .i64 (ds.length : Int)], .bool true]) ∧ RNow w r bud sp rv ds w' (sp + (2 + (L : Int))) (ds.map (·.a) ++ [⟨6, l, [], 0, 0, false⟩]) := by
  have hB : Below w.heap.size w (w.alloc (.cells #[.int .i64 0, .int .i64 0] 33)) := (Below.refl _ _).alloc (Nat.le_refl _) _
  have hz : (w.alloc (.cells #[.int .i64 0, .int .i64 0] 33)).heap.size = w.heap.size + 1 := by simp
  obtain ⟨t0, t1⟩ := two_new w (.int .i64 0) (.int .i64 0) 33
  have tf : ∀ j, (w.alloc (.cells #[.int .i64 0, .int .i64 0] 33)).frozen? ⟨w.heap.size, j, none⟩ = false := fun j => frozen_new _ _ _ _
  have hlt := H.lt
  have nb : ¬ Rfs r rv ds w.heap.size := fun e => by have := hlt _ e; omega
  have H0 := H.below hB
  have hN : L ≤ 8796093021952 := by omega
  have d8 : decide (L ≤ 4096) = true := decide_eq_true (by omega)
  have d9 : decide ((L : Int) ≤ 4096) = true := decide_eq_true (by omega)
  have eL : l.length = L := by obtain ⟨_, _, e, _⟩ := hRt; cases e; rfl
  have HC := hide (copyV_any (hRt.below hB) (by rw [eL]; exact hN))
  have HH0 := hide H0
  have HB := hide hB
  have HZ := hide hz
  have NB := hide nb
  have HLT := hide hlt
  have ww0 := hide (And.intro t0 (And.intro t1 tf))
  clear H H0 hB hz hlt nb hRt t0 t1 tf
  go_enter Try.func49, Try.ntmps49
  go_wp2_with fail
  refine (unhide HC).mono ?_
  rintro e1 w1 ⟨v1, rfl, g1, g2, g3⟩
  obtain ⟨va, vc, ve, _⟩ := g1.shape
  rw [eL] at ve
  have hB1 : Below w1.heap.size w1 (w1.alloc (.cells #[.int .i64 6, .slice va L vc, .slice none 0 0, .int .i64 0, .int .i64 0, .bool false] 56)) := (Below.refl _ _).alloc (Nat.le_refl _) _
  have g4 : Below (w.alloc (.cells #[.int .i64 0, .int .i64 0] 33)).heap.size (w.alloc (.cells #[.int .i64 0, .int .i64 0] 33)) (w1.alloc (.cells #[.int .i64 6, .slice va L vc, .slice none 0 0, .int .i64 0, .int .i64 0, .bool false] 56)) := g2.trans (hB1.mono g2.size)
  have gk : Ro (w1.alloc (.cells #[.int .i64 6, .slice va L vc, .slice none 0 0, .int .i64 0, .int .i64 0, .bool false] 56)) 2 v1 l.length (flat l) := g1.fr (Fr.of_below (S := fun _ => False) hB1) (fun _ _ e => e)
  have LT1 : Hid (w.heap.size < (w1.alloc (.cells #[.int .i64 6, .slice va L vc, .slice none 0 0, .int .i64 0, .int .i64 0, .bool false] 56)).heap.size) := by have := g4.size; have := unhide HZ; unfold Hid; omega
  have HM := hide (rmk_ok (unhide HH0) g4 hb hs (2 + (L : Int)) hr ⟨⟨6, l, [], 0, 0, false⟩, v1, .slice none 0 0⟩ ⟨gk, Ro.nil _ _⟩ (by rintro k (e | e); exact g3 k e; simp [Value.ownBlock] at e) hL)
  have lt0 : w.heap.size < (w.alloc (.cells #[.int .i64 0, .int .i64 0] 33)).heap.size := by have := unhide HZ; omega
  have t0 := (g4.cell (p := ⟨w.heap.size, 0, none⟩) lt0).trans (unhide ww0).1
  have t1 := (g4.cell (p := ⟨w.heap.size, 1, none⟩) lt0).trans (unhide ww0).2.1
  have tf : ∀ j, (w1.alloc (.cells #[.int .i64 6, .slice va L vc, .slice none 0 0, .int .i64 0, .int .i64 0, .bool false] 56)).frozen? ⟨w.heap.size, j, none⟩ = false := fun j => ((Fr.of_below (S := fun _ => False) g4).frozen (a := ⟨w.heap.size, j, none⟩) lt0 (fun e => e)).trans ((unhide ww0).2.2 j)
  rw [ve] at HM ⊢
  clear g1 g2 g3 g4 gk hB1 lt0 ve HC
  go_wp2_with fail
  refine (unhide HM).mono ?_
  rintro e2 w2 ⟨rfl, hN2, hf2⟩
  have lt1 : w.heap.size < (w1.alloc (.cells #[.int .i64 6, .slice va L vc, .slice none 0 0, .int .i64 0, .int .i64 0, .bool false] 56)).heap.size := unhide LT1
  have u0 : w2.cell? ⟨w.heap.size, 0, none⟩ = some (.int .i64 0) := (hf2.cell (a := ⟨w.heap.size, 0, none⟩) lt1 (unhide NB)).trans t0
  have u1 : w2.cell? ⟨w.heap.size, 1, none⟩ = some (.int .i64 0) := (hf2.cell (a := ⟨w.heap.size, 1, none⟩) lt1 (unhide NB)).trans t1
  have uf : ∀ j, w2.frozen? ⟨w.heap.size, j, none⟩ = false := fun j => (hf2.frozen (a := ⟨w.heap.size, j, none⟩) lt1 (unhide NB)).trans (tf j)
  have hl2 : w.heap.size < w2.heap.size := World.block_lt_of_cell? _ _ u0
  have HN2 := hide hN2
  clear hN2 hf2 t0 t1 tf lt1
  have BF : Hid (Fr (fun q => q = w.heap.size) w2 ((w2.setCell ⟨w.heap.size, 0, none⟩ (.int .i64 6)).setCell ⟨w.heap.size, 1, none⟩ (.int .i64 (ds.length : Int)))) := ((Fr.refl (fun q => q = w.heap.size) w2).setCell ⟨w.heap.size, 0, none⟩ (.inr rfl) _).setCell ⟨w.heap.size, 1, none⟩ (.inr rfl) _
  have z0 : Hid (((w2.setCell ⟨w.heap.size, 0, none⟩ (.int .i64 6)).setCell ⟨w.heap.size, 1, none⟩ (.int .i64 (ds.length : Int))).cell? ⟨w.heap.size, 0, none⟩ = some (.int .i64 6)) := (World.cell?_setCell_other _ _ _ _ (by simp)).trans (World.cell?_setCell_same _ _ _ u0)
  have z1 : Hid (((w2.setCell ⟨w.heap.size, 0, none⟩ (.int .i64 6)).setCell ⟨w.heap.size, 1, none⟩ (.int .i64 (ds.length : Int))).cell? ⟨w.heap.size, 1, none⟩ = some (.int .i64 (ds.length : Int))) := World.cell?_setCell_same _ _ _ ((World.cell?_setCell_other _ _ _ _ (by simp)).trans u1)
  go_wp2_with fail
  have z0 := unhide z0
  have z1 := unhide z1
  refine bodyPost_ret (v := .tuple #[.agg #[.int .i64 6, .int .i64 (ds.length : Int)], .bool true]) (by simp [results, Try.results49, go_sem, z0, z1]) rfl ?_
  exact ⟨rfl, RNow.puts (unhide HB) (unhide HLT) (unhide HN2) (fun q e => by rw [unhide HZ]; omega) (unhide BF)⟩
set_option maxRecDepth 100000 in
set_option maxHeartbeats 3200000 in
theorem rarr_no {w : World} {r : Nat} {bud sp : Int} {rv : Value} {ds : List RD} (H : Rh w r bud sp rv ds) (hb : 0 ≤ bud ∧ bud < 9223372036854775808) (hs : 0 ≤ sp ∧ sp < 9223372036854775808) {a : Option Addr} {L c : Nat} {l : List (Int × Int)} (hRt : RtV w (.slice a L c) l) (h4 : L ≤ 4096) (hr : room bud sp (2 + (L : Int)) = false) :
    Calls Try.prog 49 #[.pointer (some ⟨r, 0, none⟩), .slice a L c] w fun e w' => e = .returned (.tuple #[.agg #[.int .i64 0, .int .i64 0], .bool false]) ∧ RNow w r bud sp rv ds w' sp (ds.map (·.a)) := by
  have hB : Below w.heap.size w (w.alloc (.cells #[.int .i64 0, .int .i64 0] 33)) := (Below.refl _ _).alloc (Nat.le_refl _) _
  have hz : (w.alloc (.cells #[.int .i64 0, .int .i64 0] 33)).heap.size = w.heap.size + 1 := by simp
  obtain ⟨t0, t1⟩ := two_new w (.int .i64 0) (.int .i64 0) 33
  have tf : ∀ j, (w.alloc (.cells #[.int .i64 0, .int .i64 0] 33)).frozen? ⟨w.heap.size, j, none⟩ = false := fun j => frozen_new _ _ _ _
  have hlt := H.lt
  have nb : ¬ Rfs r rv ds w.heap.size := fun e => by have := hlt _ e; omega
  have H0 := H.below hB
  have hN : L ≤ 8796093021952 := by omega
  have d8 : decide (L ≤ 4096) = true := decide_eq_true (by omega)
  have d9 : decide ((L : Int) ≤ 4096) = true := decide_eq_true (by omega)
  have eL : l.length = L := by obtain ⟨_, _, e, _⟩ := hRt; cases e; rfl
  have HC := hide (copyV_any (hRt.below hB) (by rw [eL]; exact hN))
  have HH0 := hide H0
  have HB := hide hB
  have HZ := hide hz
  have NB := hide nb
  have HLT := hide hlt
  have ww0 := hide (And.intro t0 (And.intro t1 tf))
  clear H H0 hB hz hlt nb hRt t0 t1 tf
  go_enter Try.func49, Try.ntmps49
  go_wp2_with fail
  refine (unhide HC).mono ?_
  rintro e1 w1 ⟨v1, rfl, g1, g2, g3⟩
  obtain ⟨va, vc, ve, _⟩ := g1.shape
  rw [eL] at ve
  have hB1 : Below w1.heap.size w1 (w1.alloc (.cells #[.int .i64 6, .slice va L vc, .slice none 0 0, .int .i64 0, .int .i64 0, .bool false] 56)) := (Below.refl _ _).alloc (Nat.le_refl _) _
  have g4 : Below (w.alloc (.cells #[.int .i64 0, .int .i64 0] 33)).heap.size (w.alloc (.cells #[.int .i64 0, .int .i64 0] 33)) (w1.alloc (.cells #[.int .i64 6, .slice va L vc, .slice none 0 0, .int .i64 0, .int .i64 0, .bool false] 56)) := g2.trans (hB1.mono g2.size)
  have gk : Ro (w1.alloc (.cells #[.int .i64 6, .slice va L vc, .slice none 0 0, .int .i64 0, .int .i64 0, .bool false] 56)) 2 v1 l.length (flat l) := g1.fr (Fr.of_below (S := fun _ => False) hB1) (fun _ _ e => e)
  have LT1 : Hid (w.heap.size < (w1.alloc (.cells #[.int .i64 6, .slice va L vc, .slice none 0 0, .int .i64 0, .int .i64 0, .bool false] 56)).heap.size) := by have := g4.size; have := unhide HZ; unfold Hid; omega
  have HM := hide (rmk_no (unhide HH0) g4 hb hs true (2 + (L : Int)) (.inr hr) ⟨⟨6, l, [], 0, 0, false⟩, v1, .slice none 0 0⟩ ⟨gk, Ro.nil _ _⟩)
  have lt0 : w.heap.size < (w.alloc (.cells #[.int .i64 0, .int .i64 0] 33)).heap.size := by have := unhide HZ; omega
  have t0 := (g4.cell (p := ⟨w.heap.size, 0, none⟩) lt0).trans (unhide ww0).1
  have t1 := (g4.cell (p := ⟨w.heap.size, 1, none⟩) lt0).trans (unhide ww0).2.1
  have tf : ∀ j, (w1.alloc (.cells #[.int .i64 6, .slice va L vc, .slice none 0 0, .int .i64 0, .int .i64 0, .bool false] 56)).frozen? ⟨w.heap.size, j, none⟩ = false := fun j => ((Fr.of_below (S := fun _ => False) g4).frozen (a := ⟨w.heap.size, j, none⟩) lt0 (fun e => e)).trans ((unhide ww0).2.2 j)
  rw [ve] at HM ⊢
  clear g1 g2 g3 g4 gk hB1 lt0 ve HC
  go_wp2_with fail
  refine (unhide HM).mono ?_
  rintro e2 w2 ⟨rfl, hN2, hf2⟩
  have lt1 : w.heap.size < (w1.alloc (.cells #[.int .i64 6, .slice va L vc, .slice none 0 0, .int .i64 0, .int .i64 0, .bool false] 56)).heap.size := unhide LT1
  have u0 : w2.cell? ⟨w.heap.size, 0, none⟩ = some (.int .i64 0) := (hf2.cell (a := ⟨w.heap.size, 0, none⟩) lt1 (unhide NB)).trans t0
  have u1 : w2.cell? ⟨w.heap.size, 1, none⟩ = some (.int .i64 0) := (hf2.cell (a := ⟨w.heap.size, 1, none⟩) lt1 (unhide NB)).trans t1
  have uf : ∀ j, w2.frozen? ⟨w.heap.size, j, none⟩ = false := fun j => (hf2.frozen (a := ⟨w.heap.size, j, none⟩) lt1 (unhide NB)).trans (tf j)
  have hl2 : w.heap.size < w2.heap.size := World.block_lt_of_cell? _ _ u0
  have HN2 := hide hN2
  clear hN2 hf2 t0 t1 tf lt1
  have BF : Hid (Fr (fun q => q = w.heap.size) w2 ((w2.setCell ⟨w.heap.size, 0, none⟩ (.int .i64 0)).setCell ⟨w.heap.size, 1, none⟩ (.int .i64 0))) := ((Fr.refl (fun q => q = w.heap.size) w2).setCell ⟨w.heap.size, 0, none⟩ (.inr rfl) _).setCell ⟨w.heap.size, 1, none⟩ (.inr rfl) _
  have z0 : Hid (((w2.setCell ⟨w.heap.size, 0, none⟩ (.int .i64 0)).setCell ⟨w.heap.size, 1, none⟩ (.int .i64 0)).cell? ⟨w.heap.size, 0, none⟩ = some (.int .i64 0)) := (World.cell?_setCell_other _ _ _ _ (by simp)).trans (World.cell?_setCell_same _ _ _ u0)
  have z1 : Hid (((w2.setCell ⟨w.heap.size, 0, none⟩ (.int .i64 0)).setCell ⟨w.heap.size, 1, none⟩ (.int .i64 0)).cell? ⟨w.heap.size, 1, none⟩ = some (.int .i64 0)) := World.cell?_setCell_same _ _ _ ((World.cell?_setCell_other _ _ _ _ (by simp)).trans u1)
  go_wp2_with fail
  have z0 := unhide z0
  have z1 := unhide z1
  refine bodyPost_ret (v := .tuple #[.agg #[.int .i64 0, .int .i64 0], .bool false]) (by simp [results, Try.results49, go_sem, z0, z1]) rfl ?_
  exact ⟨rfl, RNow.puts (unhide HB) (unhide HLT) (unhide HN2) (fun q e => by rw [unhide HZ]; omega) (unhide BF)⟩
set_option maxRecDepth 100000 in
set_option maxHeartbeats 3200000 in
theorem rarr_bad1 {w : World} {r : Nat} {bud sp : Int} {rv : Value} {ds : List RD} (H : Rh w r bud sp rv ds) (hb : 0 ≤ bud ∧ bud < 9223372036854775808) (hs : 0 ≤ sp ∧ sp < 9223372036854775808) {a : Option Addr} {L c : Nat} {l : List (Int × Int)} (hRt : RtV w (.slice a L c) l) (hN : L ≤ 8796093021952) (h4 : 4096 < L) :
    Calls Try.prog 49 #[.pointer (some ⟨r, 0, none⟩), .slice a L c] w fun e w' => e = .returned (.tuple #[.agg #[.int .i64 0, .int .i64 0], .bool false]) ∧ RNow w r bud sp rv ds w' sp (ds.map (·.a)) := by
  have hB : Below w.heap.size w (w.alloc (.cells #[.int .i64 0, .int .i64 0] 33)) := (Below.refl _ _).alloc (Nat.le_refl _) _
  have hz : (w.alloc (.cells #[.int .i64 0, .int .i64 0] 33)).heap.size = w.heap.size + 1 := by simp
  obtain ⟨t0, t1⟩ := two_new w (.int .i64 0) (.int .i64 0) 33
  have tf : ∀ j, (w.alloc (.cells #[.int .i64 0, .int .i64 0] 33)).frozen? ⟨w.heap.size, j, none⟩ = false := fun j => frozen_new _ _ _ _
  have hlt := H.lt
  have nb : ¬ Rfs r rv ds w.heap.size := fun e => by have := hlt _ e; omega
  have H0 := H.below hB
  have d8 : decide (L ≤ 4096) = false := decide_eq_false (by omega)
  have d9 : decide ((L : Int) ≤ 4096) = false := decide_eq_false (by omega)
  have eL : l.length = L := by obtain ⟨_, _, e, _⟩ := hRt; cases e; rfl
  have HC := hide (copyV_any (hRt.below hB) (by rw [eL]; exact hN))
  have HH0 := hide H0
  have HB := hide hB
  have HZ := hide hz
  have NB := hide nb
  have HLT := hide hlt
  have ww0 := hide (And.intro t0 (And.intro t1 tf))
  clear H H0 hB hz hlt nb hRt t0 t1 tf
  go_enter Try.func49, Try.ntmps49
  go_wp2_with fail
  refine (unhide HC).mono ?_
  rintro e1 w1 ⟨v1, rfl, g1, g2, g3⟩
  obtain ⟨va, vc, ve, _⟩ := g1.shape
  rw [eL] at ve
  have hB1 : Below w1.heap.size w1 (w1.alloc (.cells #[.int .i64 6, .slice va L vc, .slice none 0 0, .int .i64 0, .int .i64 0, .bool false] 56)) := (Below.refl _ _).alloc (Nat.le_refl _) _
  have g4 : Below (w.alloc (.cells #[.int .i64 0, .int .i64 0] 33)).heap.size (w.alloc (.cells #[.int .i64 0, .int .i64 0] 33)) (w1.alloc (.cells #[.int .i64 6, .slice va L vc, .slice none 0 0, .int .i64 0, .int .i64 0, .bool false] 56)) := g2.trans (hB1.mono g2.size)
  have gk : Ro (w1.alloc (.cells #[.int .i64 6, .slice va L vc, .slice none 0 0, .int .i64 0, .int .i64 0, .bool false] 56)) 2 v1 l.length (flat l) := g1.fr (Fr.of_below (S := fun _ => False) hB1) (fun _ _ e => e)
  have LT1 : Hid (w.heap.size < (w1.alloc (.cells #[.int .i64 6, .slice va L vc, .slice none 0 0, .int .i64 0, .int .i64 0, .bool false] 56)).heap.size) := by have := g4.size; have := unhide HZ; unfold Hid; omega
  have HM := hide (rmk_no (unhide HH0) g4 hb hs false (2 + (L : Int)) (.inl rfl) ⟨⟨6, l, [], 0, 0, false⟩, v1, .slice none 0 0⟩ ⟨gk, Ro.nil _ _⟩)
  have lt0 : w.heap.size < (w.alloc (.cells #[.int .i64 0, .int .i64 0] 33)).heap.size := by have := unhide HZ; omega
  have t0 := (g4.cell (p := ⟨w.heap.size, 0, none⟩) lt0).trans (unhide ww0).1
  have t1 := (g4.cell (p := ⟨w.heap.size, 1, none⟩) lt0).trans (unhide ww0).2.1
  have tf : ∀ j, (w1.alloc (.cells #[.int .i64 6, .slice va L vc, .slice none 0 0, .int .i64 0, .int .i64 0, .bool false] 56)).frozen? ⟨w.heap.size, j, none⟩ = false := fun j => ((Fr.of_below (S := fun _ => False) g4).frozen (a := ⟨w.heap.size, j, none⟩) lt0 (fun e => e)).trans ((unhide ww0).2.2 j)
  rw [ve] at HM ⊢
  clear g1 g2 g3 g4 gk hB1 lt0 ve HC
  go_wp2_with fail
  refine (unhide HM).mono ?_
  rintro e2 w2 ⟨rfl, hN2, hf2⟩
  have lt1 : w.heap.size < (w1.alloc (.cells #[.int .i64 6, .slice va L vc, .slice none 0 0, .int .i64 0, .int .i64 0, .bool false] 56)).heap.size := unhide LT1
  have u0 : w2.cell? ⟨w.heap.size, 0, none⟩ = some (.int .i64 0) := (hf2.cell (a := ⟨w.heap.size, 0, none⟩) lt1 (unhide NB)).trans t0
  have u1 : w2.cell? ⟨w.heap.size, 1, none⟩ = some (.int .i64 0) := (hf2.cell (a := ⟨w.heap.size, 1, none⟩) lt1 (unhide NB)).trans t1
  have uf : ∀ j, w2.frozen? ⟨w.heap.size, j, none⟩ = false := fun j => (hf2.frozen (a := ⟨w.heap.size, j, none⟩) lt1 (unhide NB)).trans (tf j)
  have hl2 : w.heap.size < w2.heap.size := World.block_lt_of_cell? _ _ u0
  have HN2 := hide hN2
  clear hN2 hf2 t0 t1 tf lt1
  have BF : Hid (Fr (fun q => q = w.heap.size) w2 ((w2.setCell ⟨w.heap.size, 0, none⟩ (.int .i64 0)).setCell ⟨w.heap.size, 1, none⟩ (.int .i64 0))) := ((Fr.refl (fun q => q = w.heap.size) w2).setCell ⟨w.heap.size, 0, none⟩ (.inr rfl) _).setCell ⟨w.heap.size, 1, none⟩ (.inr rfl) _
  have z0 : Hid (((w2.setCell ⟨w.heap.size, 0, none⟩ (.int .i64 0)).setCell ⟨w.heap.size, 1, none⟩ (.int .i64 0)).cell? ⟨w.heap.size, 0, none⟩ = some (.int .i64 0)) := (World.cell?_setCell_other _ _ _ _ (by simp)).trans (World.cell?_setCell_same _ _ _ u0)
  have z1 : Hid (((w2.setCell ⟨w.heap.size, 0, none⟩ (.int .i64 0)).setCell ⟨w.heap.size, 1, none⟩ (.int .i64 0)).cell? ⟨w.heap.size, 1, none⟩ = some (.int .i64 0)) := World.cell?_setCell_same _ _ _ ((World.cell?_setCell_other _ _ _ _ (by simp)).trans u1)
  go_wp2_with fail
  have z0 := unhide z0
  have z1 := unhide z1
  refine bodyPost_ret (v := .tuple #[.agg #[.int .i64 0, .int .i64 0], .bool false]) (by simp [results, Try.results49, go_sem, z0, z1]) rfl ?_
  exact ⟨rfl, RNow.puts (unhide HB) (unhide HLT) (unhide HN2) (fun q e => by rw [unhide HZ]; omega) (unhide BF)⟩
set_option maxRecDepth 100000 in
set_option maxHeartbeats 3200000 in
theorem rbnd_ok {w : World} {r : Nat} {bud sp : Int} {rv : Value} {ds : List RD} (H : Rh w r bud sp rv ds) (hb : 0 ≤ bud ∧ bud < 9223372036854775808) (hs : 0 ≤ sp ∧ sp < 9223372036854775808) {a : Option Addr} {L c : Nat} {l : List (Int × Int)} {fn : Int} (hRt : RtV w (.slice a L c) l) (h4 : L ≤ 4096) (h0 : 0 ≤ fn) (hr : room bud sp (2 + (L : Int)) = true) (hL : ds.length ≤ 1700000000000) :
    Calls Try.prog 51 #[.pointer (some ⟨r, 0, none⟩), .int .i64 fn, .slice a L c] w fun e w' => e = .returned (.tuple #[.agg #[.int .i64 8, .int .i64 (ds.length : Int)], .bool true]) ∧ RNow w r bud sp rv ds w' (sp + (2 + (L : Int))) (ds.map (·.a) ++ [⟨8, l, [], fn, 0, false⟩]) := by
  have hB : Below w.heap.size w (w.alloc (.cells #[.int .i64 0, .int .i64 0] 33)) := (Below.refl _ _).alloc (Nat.le_refl _) _
  have hz : (w.alloc (.cells #[.int .i64 0, .int .i64 0] 33)).heap.size = w.heap.size + 1 := by simp
  obtain ⟨t0, t1⟩ := two_new w (.int .i64 0) (.int .i64 0) 33
  have tf : ∀ j, (w.alloc (.cells #[.int .i64 0, .int .i64 0] 33)).frozen? ⟨w.heap.size, j, none⟩ = false := fun j => frozen_new _ _ _ _
  have hlt := H.lt
  have nb : ¬ Rfs r rv ds w.heap.size := fun e => by have := hlt _ e; omega
  have H0 := H.below hB
  have hN : L ≤ 8796093021952 := by omega
  have d8 : decide (L ≤ 4096) = true := decide_eq_true (by omega)
  have d9 : decide ((L : Int) ≤ 4096) = true := decide_eq_true (by omega)
  have d7 : decide (fn ≥ 0) = true := decide_eq_true (by omega)
  have d6 : decide (0 ≤ fn) = true := decide_eq_true (by omega)
  have eL : l.length = L := by obtain ⟨_, _, e, _⟩ := hRt; cases e; rfl
  have HC := hide (copyV_any (hRt.below hB) (by rw [eL]; exact hN))
  have HH0 := hide H0
  have HB := hide hB
  have HZ := hide hz
  have NB := hide nb
  have HLT := hide hlt
  have ww0 := hide (And.intro t0 (And.intro t1 tf))
  clear H H0 hB hz hlt nb hRt t0 t1 tf
  go_enter Try.func51, Try.ntmps51
  go_wp2_with fail
  refine (unhide HC).mono ?_
  rintro e1 w1 ⟨v1, rfl, g1, g2, g3⟩
  obtain ⟨va, vc, ve, _⟩ := g1.shape
  rw [eL] at ve
  have hB1 : Below w1.heap.size w1 (w1.alloc (.cells #[.int .i64 8, .slice va L vc, .slice none 0 0, .int .i64 fn, .int .i64 0, .bool false] 56)) := (Below.refl _ _).alloc (Nat.le_refl _) _
  have g4 : Below (w.alloc (.cells #[.int .i64 0, .int .i64 0] 33)).heap.size (w.alloc (.cells #[.int .i64 0, .int .i64 0] 33)) (w1.alloc (.cells #[.int .i64 8, .slice va L vc, .slice none 0 0, .int .i64 fn, .int .i64 0, .bool false] 56)) := g2.trans (hB1.mono g2.size)
  have gk : Ro (w1.alloc (.cells #[.int .i64 8, .slice va L vc, .slice none 0 0, .int .i64 fn, .int .i64 0, .bool false] 56)) 2 v1 l.length (flat l) := g1.fr (Fr.of_below (S := fun _ => False) hB1) (fun _ _ e => e)
  have LT1 : Hid (w.heap.size < (w1.alloc (.cells #[.int .i64 8, .slice va L vc, .slice none 0 0, .int .i64 fn, .int .i64 0, .bool false] 56)).heap.size) := by have := g4.size; have := unhide HZ; unfold Hid; omega
  have HM := hide (rmk_ok (unhide HH0) g4 hb hs (2 + (L : Int)) hr ⟨⟨8, l, [], fn, 0, false⟩, v1, .slice none 0 0⟩ ⟨gk, Ro.nil _ _⟩ (by rintro k (e | e); exact g3 k e; simp [Value.ownBlock] at e) hL)
  have lt0 : w.heap.size < (w.alloc (.cells #[.int .i64 0, .int .i64 0] 33)).heap.size := by have := unhide HZ; omega
  have t0 := (g4.cell (p := ⟨w.heap.size, 0, none⟩) lt0).trans (unhide ww0).1
  have t1 := (g4.cell (p := ⟨w.heap.size, 1, none⟩) lt0).trans (unhide ww0).2.1
  have tf : ∀ j, (w1.alloc (.cells #[.int .i64 8, .slice va L vc, .slice none 0 0, .int .i64 fn, .int .i64 0, .bool false] 56)).frozen? ⟨w.heap.size, j, none⟩ = false := fun j => ((Fr.of_below (S := fun _ => False) g4).frozen (a := ⟨w.heap.size, j, none⟩) lt0 (fun e => e)).trans ((unhide ww0).2.2 j)
  rw [ve] at HM ⊢
  clear g1 g2 g3 g4 gk hB1 lt0 ve HC
  go_wp2_with fail
  refine (unhide HM).mono ?_
  rintro e2 w2 ⟨rfl, hN2, hf2⟩
  have lt1 : w.heap.size < (w1.alloc (.cells #[.int .i64 8, .slice va L vc, .slice none 0 0, .int .i64 fn, .int .i64 0, .bool false] 56)).heap.size := unhide LT1
  have u0 : w2.cell? ⟨w.heap.size, 0, none⟩ = some (.int .i64 0) := (hf2.cell (a := ⟨w.heap.size, 0, none⟩) lt1 (unhide NB)).trans t0
  have u1 : w2.cell? ⟨w.heap.size, 1, none⟩ = some (.int .i64 0) := (hf2.cell (a := ⟨w.heap.size, 1, none⟩) lt1 (unhide NB)).trans t1
  have uf : ∀ j, w2.frozen? ⟨w.heap.size, j, none⟩ = false := fun j => (hf2.frozen (a := ⟨w.heap.size, j, none⟩) lt1 (unhide NB)).trans (tf j)
  have hl2 : w.heap.size < w2.heap.size := World.block_lt_of_cell? _ _ u0
  have HN2 := hide hN2
  clear hN2 hf2 t0 t1 tf lt1
  have BF : Hid (Fr (fun q => q = w.heap.size) w2 ((w2.setCell ⟨w.heap.size, 0, none⟩ (.int .i64 8)).setCell ⟨w.heap.size, 1, none⟩ (.int .i64 (ds.length : Int)))) := ((Fr.refl (fun q => q = w.heap.size) w2).setCell ⟨w.heap.size, 0, none⟩ (.inr rfl) _).setCell ⟨w.heap.size, 1, none⟩ (.inr rfl) _
  have z0 : Hid (((w2.setCell ⟨w.heap.size, 0, none⟩ (.int .i64 8)).setCell ⟨w.heap.size, 1, none⟩ (.int .i64 (ds.length : Int))).cell? ⟨w.heap.size, 0, none⟩ = some (.int .i64 8)) := (World.cell?_setCell_other _ _ _ _ (by simp)).trans (World.cell?_setCell_same _ _ _ u0)
  have z1 : Hid (((w2.setCell ⟨w.heap.size, 0, none⟩ (.int .i64 8)).setCell ⟨w.heap.size, 1, none⟩ (.int .i64 (ds.length : Int))).cell? ⟨w.heap.size, 1, none⟩ = some (.int .i64 (ds.length : Int))) := World.cell?_setCell_same _ _ _ ((World.cell?_setCell_other _ _ _ _ (by simp)).trans u1)
  go_wp2_with fail
  have z0 := unhide z0
  have z1 := unhide z1
  refine bodyPost_ret (v := .tuple #[.agg #[.int .i64 8, .int .i64 (ds.length : Int)], .bool true]) (by simp [results, Try.results51, go_sem, z0, z1]) rfl ?_
  exact ⟨rfl, RNow.puts (unhide HB) (unhide HLT) (unhide HN2) (fun q e => by rw [unhide HZ]; omega) (unhide BF)⟩
set_option maxRecDepth 100000 in
set_option maxHeartbeats 3200000 in
theorem rbnd_no {w : World} {r : Nat} {bud sp : Int} {rv : Value} {ds : List RD} (H : Rh w r bud sp rv ds) (hb : 0 ≤ bud ∧ bud < 9223372036854775808) (hs : 0 ≤ sp ∧ sp < 9223372036854775808) {a : Option Addr} {L c : Nat} {l : List (Int × Int)} {fn : Int} (hRt : RtV w (.slice a L c) l) (h4 : L ≤ 4096) (h0 : 0 ≤ fn) (hr : room bud sp (2 + (L : Int)) = false) :
    Calls Try.prog 51 #[.pointer (some ⟨r, 0, none⟩), .int .i64 fn, .slice a L c] w fun e w' => e = .returned (.tuple #[.agg #[.int .i64 0, .int .i64 0], .bool false]) ∧ RNow w r bud sp rv ds w' sp (ds.map (·.a)) := by
  have hB : Below w.heap.size w (w.alloc (.cells #[.int .i64 0, .int .i64 0] 33)) := (Below.refl _ _).alloc (Nat.le_refl _) _
  have hz : (w.alloc (.cells #[.int .i64 0, .int .i64 0] 33)).heap.size = w.heap.size + 1 := by simp
  obtain ⟨t0, t1⟩ := two_new w (.int .i64 0) (.int .i64 0) 33
  have tf : ∀ j, (w.alloc (.cells #[.int .i64 0, .int .i64 0] 33)).frozen? ⟨w.heap.size, j, none⟩ = false := fun j => frozen_new _ _ _ _
  have hlt := H.lt
  have nb : ¬ Rfs r rv ds w.heap.size := fun e => by have := hlt _ e; omega
  have H0 := H.below hB
  have hN : L ≤ 8796093021952 := by omega
  have d8 : decide (L ≤ 4096) = true := decide_eq_true (by omega)
  have d9 : decide ((L : Int) ≤ 4096) = true := decide_eq_true (by omega)
  have d7 : decide (fn ≥ 0) = true := decide_eq_true (by omega)
  have d6 : decide (0 ≤ fn) = true := decide_eq_true (by omega)
  have eL : l.length = L := by obtain ⟨_, _, e, _⟩ := hRt; cases e; rfl
  have HC := hide (copyV_any (hRt.below hB) (by rw [eL]; exact hN))
  have HH0 := hide H0
  have HB := hide hB
  have HZ := hide hz
  have NB := hide nb
  have HLT := hide hlt
  have ww0 := hide (And.intro t0 (And.intro t1 tf))
  clear H H0 hB hz hlt nb hRt t0 t1 tf
  go_enter Try.func51, Try.ntmps51
  go_wp2_with fail
  refine (unhide HC).mono ?_
  rintro e1 w1 ⟨v1, rfl, g1, g2, g3⟩
  obtain ⟨va, vc, ve, _⟩ := g1.shape
  rw [eL] at ve
  have hB1 : Below w1.heap.size w1 (w1.alloc (.cells #[.int .i64 8, .slice va L vc, .slice none 0 0, .int .i64 fn, .int .i64 0, .bool false] 56)) := (Below.refl _ _).alloc (Nat.le_refl _) _
  have g4 : Below (w.alloc (.cells #[.int .i64 0, .int .i64 0] 33)).heap.size (w.alloc (.cells #[.int .i64 0, .int .i64 0] 33)) (w1.alloc (.cells #[.int .i64 8, .slice va L vc, .slice none 0 0, .int .i64 fn, .int .i64 0, .bool false] 56)) := g2.trans (hB1.mono g2.size)
  have gk : Ro (w1.alloc (.cells #[.int .i64 8, .slice va L vc, .slice none 0 0, .int .i64 fn, .int .i64 0, .bool false] 56)) 2 v1 l.length (flat l) := g1.fr (Fr.of_below (S := fun _ => False) hB1) (fun _ _ e => e)
  have LT1 : Hid (w.heap.size < (w1.alloc (.cells #[.int .i64 8, .slice va L vc, .slice none 0 0, .int .i64 fn, .int .i64 0, .bool false] 56)).heap.size) := by have := g4.size; have := unhide HZ; unfold Hid; omega
  have HM := hide (rmk_no (unhide HH0) g4 hb hs true (2 + (L : Int)) (.inr hr) ⟨⟨8, l, [], fn, 0, false⟩, v1, .slice none 0 0⟩ ⟨gk, Ro.nil _ _⟩)
  have lt0 : w.heap.size < (w.alloc (.cells #[.int .i64 0, .int .i64 0] 33)).heap.size := by have := unhide HZ; omega
  have t0 := (g4.cell (p := ⟨w.heap.size, 0, none⟩) lt0).trans (unhide ww0).1
  have t1 := (g4.cell (p := ⟨w.heap.size, 1, none⟩) lt0).trans (unhide ww0).2.1
  have tf : ∀ j, (w1.alloc (.cells #[.int .i64 8, .slice va L vc, .slice none 0 0, .int .i64 fn, .int .i64 0, .bool false] 56)).frozen? ⟨w.heap.size, j, none⟩ = false := fun j => ((Fr.of_below (S := fun _ => False) g4).frozen (a := ⟨w.heap.size, j, none⟩) lt0 (fun e => e)).trans ((unhide ww0).2.2 j)
  rw [ve] at HM ⊢
  clear g1 g2 g3 g4 gk hB1 lt0 ve HC
  go_wp2_with fail
  refine (unhide HM).mono ?_
  rintro e2 w2 ⟨rfl, hN2, hf2⟩
  have lt1 : w.heap.size < (w1.alloc (.cells #[.int .i64 8, .slice va L vc, .slice none 0 0, .int .i64 fn, .int .i64 0, .bool false] 56)).heap.size := unhide LT1
  have u0 : w2.cell? ⟨w.heap.size, 0, none⟩ = some (.int .i64 0) := (hf2.cell (a := ⟨w.heap.size, 0, none⟩) lt1 (unhide NB)).trans t0
  have u1 : w2.cell? ⟨w.heap.size, 1, none⟩ = some (.int .i64 0) := (hf2.cell (a := ⟨w.heap.size, 1, none⟩) lt1 (unhide NB)).trans t1
  have uf : ∀ j, w2.frozen? ⟨w.heap.size, j, none⟩ = false := fun j => (hf2.frozen (a := ⟨w.heap.size, j, none⟩) lt1 (unhide NB)).trans (tf j)
  have hl2 : w.heap.size < w2.heap.size := World.block_lt_of_cell? _ _ u0
  have HN2 := hide hN2
  clear hN2 hf2 t0 t1 tf lt1
  have BF : Hid (Fr (fun q => q = w.heap.size) w2 ((w2.setCell ⟨w.heap.size, 0, none⟩ (.int .i64 0)).setCell ⟨w.heap.size, 1, none⟩ (.int .i64 0))) := ((Fr.refl (fun q => q = w.heap.size) w2).setCell ⟨w.heap.size, 0, none⟩ (.inr rfl) _).setCell ⟨w.heap.size, 1, none⟩ (.inr rfl) _
  have z0 : Hid (((w2.setCell ⟨w.heap.size, 0, none⟩ (.int .i64 0)).setCell ⟨w.heap.size, 1, none⟩ (.int .i64 0)).cell? ⟨w.heap.size, 0, none⟩ = some (.int .i64 0)) := (World.cell?_setCell_other _ _ _ _ (by simp)).trans (World.cell?_setCell_same _ _ _ u0)
  have z1 : Hid (((w2.setCell ⟨w.heap.size, 0, none⟩ (.int .i64 0)).setCell ⟨w.heap.size, 1, none⟩ (.int .i64 0)).cell? ⟨w.heap.size, 1, none⟩ = some (.int .i64 0)) := World.cell?_setCell_same _ _ _ ((World.cell?_setCell_other _ _ _ _ (by simp)).trans u1)
  go_wp2_with fail
  have z0 := unhide z0
  have z1 := unhide z1
  refine bodyPost_ret (v := .tuple #[.agg #[.int .i64 0, .int .i64 0], .bool false]) (by simp [results, Try.results51, go_sem, z0, z1]) rfl ?_
  exact ⟨rfl, RNow.puts (unhide HB) (unhide HLT) (unhide HN2) (fun q e => by rw [unhide HZ]; omega) (unhide BF)⟩
set_option maxRecDepth 100000 in
set_option maxHeartbeats 3200000 in
theorem rbnd_bad1 {w : World} {r : Nat} {bud sp : Int} {rv : Value} {ds : List RD} (H : Rh w r bud sp rv ds) (hb : 0 ≤ bud ∧ bud < 9223372036854775808) (hs : 0 ≤ sp ∧ sp < 9223372036854775808) {a : Option Addr} {L c : Nat} {l : List (Int × Int)} {fn : Int} (hRt : RtV w (.slice a L c) l) (hN : L ≤ 8796093021952) (h4 : 4096 < L) :
    Calls Try.prog 51 #[.pointer (some ⟨r, 0, none⟩), .int .i64 fn, .slice a L c] w fun e w' => e = .returned (.tuple #[.agg #[.int .i64 0, .int .i64 0], .bool false]) ∧ RNow w r bud sp rv ds w' sp (ds.map (·.a)) := by
  have hB : Below w.heap.size w (w.alloc (.cells #[.int .i64 0, .int .i64 0] 33)) := (Below.refl _ _).alloc (Nat.le_refl _) _
  have hz : (w.alloc (.cells #[.int .i64 0, .int .i64 0] 33)).heap.size = w.heap.size + 1 := by simp
  obtain ⟨t0, t1⟩ := two_new w (.int .i64 0) (.int .i64 0) 33
  have tf : ∀ j, (w.alloc (.cells #[.int .i64 0, .int .i64 0] 33)).frozen? ⟨w.heap.size, j, none⟩ = false := fun j => frozen_new _ _ _ _
  have hlt := H.lt
  have nb : ¬ Rfs r rv ds w.heap.size := fun e => by have := hlt _ e; omega
  have H0 := H.below hB
  have d8 : decide (L ≤ 4096) = false := decide_eq_false (by omega)
  have d9 : decide ((L : Int) ≤ 4096) = false := decide_eq_false (by omega)
  have eL : l.length = L := by obtain ⟨_, _, e, _⟩ := hRt; cases e; rfl
  have HC := hide (copyV_any (hRt.below hB) (by rw [eL]; exact hN))
  have HH0 := hide H0
  have HB := hide hB
  have HZ := hide hz
  have NB := hide nb
  have HLT := hide hlt
  have ww0 := hide (And.intro t0 (And.intro t1 tf))
  clear H H0 hB hz hlt nb hRt t0 t1 tf
  go_enter Try.func51, Try.ntmps51
  go_wp2_with fail
  refine (unhide HC).mono ?_
  rintro e1 w1 ⟨v1, rfl, g1, g2, g3⟩
  obtain ⟨va, vc, ve, _⟩ := g1.shape
  rw [eL] at ve
  have hB1 : Below w1.heap.size w1 (w1.alloc (.cells #[.int .i64 8, .slice va L vc, .slice none 0 0, .int .i64 fn, .int .i64 0, .bool false] 56)) := (Below.refl _ _).alloc (Nat.le_refl _) _
  have g4 : Below (w.alloc (.cells #[.int .i64 0, .int .i64 0] 33)).heap.size (w.alloc (.cells #[.int .i64 0, .int .i64 0] 33)) (w1.alloc (.cells #[.int .i64 8, .slice va L vc, .slice none 0 0, .int .i64 fn, .int .i64 0, .bool false] 56)) := g2.trans (hB1.mono g2.size)
  have gk : Ro (w1.alloc (.cells #[.int .i64 8, .slice va L vc, .slice none 0 0, .int .i64 fn, .int .i64 0, .bool false] 56)) 2 v1 l.length (flat l) := g1.fr (Fr.of_below (S := fun _ => False) hB1) (fun _ _ e => e)
  have LT1 : Hid (w.heap.size < (w1.alloc (.cells #[.int .i64 8, .slice va L vc, .slice none 0 0, .int .i64 fn, .int .i64 0, .bool false] 56)).heap.size) := by have := g4.size; have := unhide HZ; unfold Hid; omega
  have HM := hide (rmk_no (unhide HH0) g4 hb hs false (2 + (L : Int)) (.inl rfl) ⟨⟨8, l, [], fn, 0, false⟩, v1, .slice none 0 0⟩ ⟨gk, Ro.nil _ _⟩)
  have lt0 : w.heap.size < (w.alloc (.cells #[.int .i64 0, .int .i64 0] 33)).heap.size := by have := unhide HZ; omega
  have t0 := (g4.cell (p := ⟨w.heap.size, 0, none⟩) lt0).trans (unhide ww0).1
  have t1 := (g4.cell (p := ⟨w.heap.size, 1, none⟩) lt0).trans (unhide ww0).2.1
  have tf : ∀ j, (w1.alloc (.cells #[.int .i64 8, .slice va L vc, .slice none 0 0, .int .i64 fn, .int .i64 0, .bool false] 56)).frozen? ⟨w.heap.size, j, none⟩ = false := fun j => ((Fr.of_below (S := fun _ => False) g4).frozen (a := ⟨w.heap.size, j, none⟩) lt0 (fun e => e)).trans ((unhide ww0).2.2 j)
  rw [ve] at HM ⊢
  clear g1 g2 g3 g4 gk hB1 lt0 ve HC
  go_wp2_with fail
  refine (unhide HM).mono ?_
  rintro e2 w2 ⟨rfl, hN2, hf2⟩
  have lt1 : w.heap.size < (w1.alloc (.cells #[.int .i64 8, .slice va L vc, .slice none 0 0, .int .i64 fn, .int .i64 0, .bool false] 56)).heap.size := unhide LT1
  have u0 : w2.cell? ⟨w.heap.size, 0, none⟩ = some (.int .i64 0) := (hf2.cell (a := ⟨w.heap.size, 0, none⟩) lt1 (unhide NB)).trans t0
  have u1 : w2.cell? ⟨w.heap.size, 1, none⟩ = some (.int .i64 0) := (hf2.cell (a := ⟨w.heap.size, 1, none⟩) lt1 (unhide NB)).trans t1
  have uf : ∀ j, w2.frozen? ⟨w.heap.size, j, none⟩ = false := fun j => (hf2.frozen (a := ⟨w.heap.size, j, none⟩) lt1 (unhide NB)).trans (tf j)
  have hl2 : w.heap.size < w2.heap.size := World.block_lt_of_cell? _ _ u0
  have HN2 := hide hN2
  clear hN2 hf2 t0 t1 tf lt1
  have BF : Hid (Fr (fun q => q = w.heap.size) w2 ((w2.setCell ⟨w.heap.size, 0, none⟩ (.int .i64 0)).setCell ⟨w.heap.size, 1, none⟩ (.int .i64 0))) := ((Fr.refl (fun q => q = w.heap.size) w2).setCell ⟨w.heap.size, 0, none⟩ (.inr rfl) _).setCell ⟨w.heap.size, 1, none⟩ (.inr rfl) _
  have z0 : Hid (((w2.setCell ⟨w.heap.size, 0, none⟩ (.int .i64 0)).setCell ⟨w.heap.size, 1, none⟩ (.int .i64 0)).cell? ⟨w.heap.size, 0, none⟩ = some (.int .i64 0)) := (World.cell?_setCell_other _ _ _ _ (by simp)).trans (World.cell?_setCell_same _ _ _ u0)
  have z1 : Hid (((w2.setCell ⟨w.heap.size, 0, none⟩ (.int .i64 0)).setCell ⟨w.heap.size, 1, none⟩ (.int .i64 0)).cell? ⟨w.heap.size, 1, none⟩ = some (.int .i64 0)) := World.cell?_setCell_same _ _ _ ((World.cell?_setCell_other _ _ _ _ (by simp)).trans u1)
  go_wp2_with fail
  have z0 := unhide z0
  have z1 := unhide z1
  refine bodyPost_ret (v := .tuple #[.agg #[.int .i64 0, .int .i64 0], .bool false]) (by simp [results, Try.results51, go_sem, z0, z1]) rfl ?_
  exact ⟨rfl, RNow.puts (unhide HB) (unhide HLT) (unhide HN2) (fun q e => by rw [unhide HZ]; omega) (unhide BF)⟩
set_option maxRecDepth 100000 in
set_option maxHeartbeats 3200000 in
theorem rbnd_bad2 {w : World} {r : Nat} {bud sp : Int} {rv : Value} {ds : List RD} (H : Rh w r bud sp rv ds) (hb : 0 ≤ bud ∧ bud < 9223372036854775808) (hs : 0 ≤ sp ∧ sp < 9223372036854775808) {a : Option Addr} {L c : Nat} {l : List (Int × Int)} {fn : Int} (hRt : RtV w (.slice a L c) l) (hN : L ≤ 8796093021952) (h0 : fn < 0) (h4 : L ≤ 4096) :
    Calls Try.prog 51 #[.pointer (some ⟨r, 0, none⟩), .int .i64 fn, .slice a L c] w fun e w' => e = .returned (.tuple #[.agg #[.int .i64 0, .int .i64 0], .bool false]) ∧ RNow w r bud sp rv ds w' sp (ds.map (·.a)) := by
  have hB : Below w.heap.size w (w.alloc (.cells #[.int .i64 0, .int .i64 0] 33)) := (Below.refl _ _).alloc (Nat.le_refl _) _
  have hz : (w.alloc (.cells #[.int .i64 0, .int .i64 0] 33)).heap.size = w.heap.size + 1 := by simp
  obtain ⟨t0, t1⟩ := two_new w (.int .i64 0) (.int .i64 0) 33
  have tf : ∀ j, (w.alloc (.cells #[.int .i64 0, .int .i64 0] 33)).frozen? ⟨w.heap.size, j, none⟩ = false := fun j => frozen_new _ _ _ _
  have hlt := H.lt
  have nb : ¬ Rfs r rv ds w.heap.size := fun e => by have := hlt _ e; omega
  have H0 := H.below hB
  have d8 : decide (L ≤ 4096) = true := decide_eq_true (by omega)
  have d9 : decide ((L : Int) ≤ 4096) = true := decide_eq_true (by omega)
  have d7 : decide (fn ≥ 0) = false := decide_eq_false (by omega)
  have d6 : decide (0 ≤ fn) = false := decide_eq_false (by omega)
  have eL : l.length = L := by obtain ⟨_, _, e, _⟩ := hRt; cases e; rfl
  have HC := hide (copyV_any (hRt.below hB) (by rw [eL]; exact hN))
  have HH0 := hide H0
  have HB := hide hB
  have HZ := hide hz
  have NB := hide nb
  have HLT := hide hlt
  have ww0 := hide (And.intro t0 (And.intro t1 tf))
  clear H H0 hB hz hlt nb hRt t0 t1 tf
  go_enter Try.func51, Try.ntmps51
  go_wp2_with fail
  refine (unhide HC).mono ?_
  rintro e1 w1 ⟨v1, rfl, g1, g2, g3⟩
  obtain ⟨va, vc, ve, _⟩ := g1.shape
  rw [eL] at ve
  have hB1 : Below w1.heap.size w1 (w1.alloc (.cells #[.int .i64 8, .slice va L vc, .slice none 0 0, .int .i64 fn, .int .i64 0, .bool false] 56)) := (Below.refl _ _).alloc (Nat.le_refl _) _
  have g4 : Below (w.alloc (.cells #[.int .i64 0, .int .i64 0] 33)).heap.size (w.alloc (.cells #[.int .i64 0, .int .i64 0] 33)) (w1.alloc (.cells #[.int .i64 8, .slice va L vc, .slice none 0 0, .int .i64 fn, .int .i64 0, .bool false] 56)) := g2.trans (hB1.mono g2.size)
  have gk : Ro (w1.alloc (.cells #[.int .i64 8, .slice va L vc, .slice none 0 0, .int .i64 fn, .int .i64 0, .bool false] 56)) 2 v1 l.length (flat l) := g1.fr (Fr.of_below (S := fun _ => False) hB1) (fun _ _ e => e)
  have LT1 : Hid (w.heap.size < (w1.alloc (.cells #[.int .i64 8, .slice va L vc, .slice none 0 0, .int .i64 fn, .int .i64 0, .bool false] 56)).heap.size) := by have := g4.size; have := unhide HZ; unfold Hid; omega
  have HM := hide (rmk_no (unhide HH0) g4 hb hs false (2 + (L : Int)) (.inl rfl) ⟨⟨8, l, [], fn, 0, false⟩, v1, .slice none 0 0⟩ ⟨gk, Ro.nil _ _⟩)
  have lt0 : w.heap.size < (w.alloc (.cells #[.int .i64 0, .int .i64 0] 33)).heap.size := by have := unhide HZ; omega
  have t0 := (g4.cell (p := ⟨w.heap.size, 0, none⟩) lt0).trans (unhide ww0).1
  have t1 := (g4.cell (p := ⟨w.heap.size, 1, none⟩) lt0).trans (unhide ww0).2.1
  have tf : ∀ j, (w1.alloc (.cells #[.int .i64 8, .slice va L vc, .slice none 0 0, .int .i64 fn, .int .i64 0, .bool false] 56)).frozen? ⟨w.heap.size, j, none⟩ = false := fun j => ((Fr.of_below (S := fun _ => False) g4).frozen (a := ⟨w.heap.size, j, none⟩) lt0 (fun e => e)).trans ((unhide ww0).2.2 j)
  rw [ve] at HM ⊢
  clear g1 g2 g3 g4 gk hB1 lt0 ve HC
  go_wp2_with fail
  refine (unhide HM).mono ?_
  rintro e2 w2 ⟨rfl, hN2, hf2⟩
  have lt1 : w.heap.size < (w1.alloc (.cells #[.int .i64 8, .slice va L vc, .slice none 0 0, .int .i64 fn, .int .i64 0, .bool false] 56)).heap.size := unhide LT1
  have u0 : w2.cell? ⟨w.heap.size, 0, none⟩ = some (.int .i64 0) := (hf2.cell (a := ⟨w.heap.size, 0, none⟩) lt1 (unhide NB)).trans t0
  have u1 : w2.cell? ⟨w.heap.size, 1, none⟩ = some (.int .i64 0) := (hf2.cell (a := ⟨w.heap.size, 1, none⟩) lt1 (unhide NB)).trans t1
  have uf : ∀ j, w2.frozen? ⟨w.heap.size, j, none⟩ = false := fun j => (hf2.frozen (a := ⟨w.heap.size, j, none⟩) lt1 (unhide NB)).trans (tf j)
  have hl2 : w.heap.size < w2.heap.size := World.block_lt_of_cell? _ _ u0
  have HN2 := hide hN2
  clear hN2 hf2 t0 t1 tf lt1
  have BF : Hid (Fr (fun q => q = w.heap.size) w2 ((w2.setCell ⟨w.heap.size, 0, none⟩ (.int .i64 0)).setCell ⟨w.heap.size, 1, none⟩ (.int .i64 0))) := ((Fr.refl (fun q => q = w.heap.size) w2).setCell ⟨w.heap.size, 0, none⟩ (.inr rfl) _).setCell ⟨w.heap.size, 1, none⟩ (.inr rfl) _
  have z0 : Hid (((w2.setCell ⟨w.heap.size, 0, none⟩ (.int .i64 0)).setCell ⟨w.heap.size, 1, none⟩ (.int .i64 0)).cell? ⟨w.heap.size, 0, none⟩ = some (.int .i64 0)) := (World.cell?_setCell_other _ _ _ _ (by simp)).trans (World.cell?_setCell_same _ _ _ u0)
  have z1 : Hid (((w2.setCell ⟨w.heap.size, 0, none⟩ (.int .i64 0)).setCell ⟨w.heap.size, 1, none⟩ (.int .i64 0)).cell? ⟨w.heap.size, 1, none⟩ = some (.int .i64 0)) := World.cell?_setCell_same _ _ _ ((World.cell?_setCell_other _ _ _ _ (by simp)).trans u1)
  go_wp2_with fail
  have z0 := unhide z0
  have z1 := unhide z1
  refine bodyPost_ret (v := .tuple #[.agg #[.int .i64 0, .int .i64 0], .bool false]) (by simp [results, Try.results51, go_sem, z0, z1]) rfl ?_
  exact ⟨rfl, RNow.puts (unhide HB) (unhide HLT) (unhide HN2) (fun q e => by rw [unhide HZ]; omega) (unhide BF)⟩
end Go.Proofs.Ytkpngfahnpidkaa
