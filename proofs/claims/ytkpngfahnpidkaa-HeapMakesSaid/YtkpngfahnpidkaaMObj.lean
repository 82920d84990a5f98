/-
  The answers that are objects.
-/
import Derived.Test.YtkpngfahnpidkaaMBox
namespace Go.Proofs.Ytkpngfahnpidkaa
open Go.RowKit
set_option linter.unusedVariables false
set_option linter.unusedSimpArgs false

/-- An object's answer. -/
structure OV where
  k : Int
  ia : Option Addr
  il : Nat
  ic : Nat
  ka : Option Addr
  kl : Nat
  kc : Nat
  fn : Int
  cap : Int
  shut : Bool
  ok : Bool
def OV.sv (y : OV) : SV := ⟨0, 0, 0, 0, y.ok, y.k, y.ia, y.il, y.ic, y.ka, y.kl, y.kc, y.fn, y.cap, y.shut⟩
/-- A box of a list of cells. -/
def Bl (w : World) (b : Nat) (cs : List Value) : Prop := (∀ j u, cs[j]? = some u → w.cell? ⟨b, j, none⟩ = some u) ∧ ∀ j, w.frozen? ⟨b, j, none⟩ = false
theorem Bl.set {w : World} {b : Nat} {cs : List Value} (h : Bl w b cs) (i : Nat) (hi : i < cs.length) (v : Value) : Bl (w.setCell ⟨b, i, none⟩ v) b (cs.set i v) := by
  refine ⟨fun j u hu => ?_, fun j => by rw [World.frozen?_setCell]; exact h.2 j⟩
  rw [List.getElem?_set] at hu
  by_cases e : i = j
  · subst e
    rw [if_pos rfl, if_pos hi] at hu
    cases hu
    exact World.cell?_setCell_same _ _ _ (h.1 i _ (List.getElem?_eq_getElem hi))
  · rw [if_neg e] at hu
    rw [World.cell?_setCell_other _ _ _ _ (by simp; try omega)]
    exact h.1 j u hu
theorem Said.bl {w : World} {b : Nat} {k n : Int} {ok : Bool} (h : Said w b k n ok) : Bl w b (saidL k n ok) := ⟨fun j u hu => by
  obtain ⟨hj, e⟩ := List.getElem?_eq_some_iff.1 hu
  rw [h.1 j hj, e], h.2⟩
theorem Said.obj6 {w : World} {b : Nat} (h : Said w b 0 0 false) (xk : Int) (xia : Option Addr) (xil xic : Nat) (xka : Option Addr) (xkl xkc : Nat) (xf xc : Int) (xs : Bool) : SaidV ((((((w.setCell ⟨b, 5, none⟩ (.int .i64 xk)).setCell ⟨b, 6, none⟩ (.slice xia xil xic)).setCell ⟨b, 7, none⟩ (.slice xka xkl xkc)).setCell ⟨b, 8, none⟩ (.int .i64 xf)).setCell ⟨b, 9, none⟩ (.int .i64 xc)).setCell ⟨b, 10, none⟩ (.bool xs)) b (OV.mk xk xia xil xic xka xkl xkc xf xc xs false).sv ∧ Fr (fun q => q = b) w ((((((w.setCell ⟨b, 5, none⟩ (.int .i64 xk)).setCell ⟨b, 6, none⟩ (.slice xia xil xic)).setCell ⟨b, 7, none⟩ (.slice xka xkl xkc)).setCell ⟨b, 8, none⟩ (.int .i64 xf)).setCell ⟨b, 9, none⟩ (.int .i64 xc)).setCell ⟨b, 10, none⟩ (.bool xs)) := by
  have q := h.bl
  have q := (((((q.set 5 (by simp [saidL]) (.int .i64 xk)).set 6 (by simp [saidL]) (.slice xia xil xic)).set 7 (by simp [saidL]) (.slice xka xkl xkc)).set 8 (by simp [saidL]) (.int .i64 xf)).set 9 (by simp [saidL]) (.int .i64 xc)).set 10 (by simp [saidL]) (.bool xs)
  refine ⟨⟨fun j hj => q.1 j _ (List.getElem?_eq_getElem (l := saidLV (OV.mk xk xia xil xic xka xkl xkc xf xc xs false).sv) hj), q.2⟩, (((((((Fr.refl (fun q => q = b) w).setCell ⟨b, 5, none⟩ (.inr rfl) _).setCell ⟨b, 6, none⟩ (.inr rfl) _).setCell ⟨b, 7, none⟩ (.inr rfl) _).setCell ⟨b, 8, none⟩ (.inr rfl) _).setCell ⟨b, 9, none⟩ (.inr rfl) _).setCell ⟨b, 10, none⟩ (.inr rfl) _)⟩
set_option maxRecDepth 100000 in
set_option maxHeartbeats 6400000 in
theorem plain_object {w : World} {h : Nat} (p : OpD) {a : Option Addr} {L c : Nat} (hlv : p.lv = .slice a L c) {P Q : OV → World → Prop} {F : Nat → Prop} (hF : ∀ q, F q → q < w.heap.size) (hl : h < w.heap.size)
    (HC : Calls Try.prog 26 #[.pointer (some ⟨h, 0, none⟩), .int .i64 p.n] (((w.alloc (.cells #[.int .i64 p.on, .int .i64 p.call, .int .i64 p.vk, .int .i64 p.vn, .int .i64 p.xk, .int .i64 p.xn, .int .i64 p.i, .int .i64 p.n, .slice a L c] 38)).alloc (.cells (saidC 0 0 false) 58)).alloc (.cells (saidC 0 0 false) 58)) fun e w' => ∃ y : OV, e = .returned (.tuple #[.agg #[.int .i64 y.k, .slice y.ia y.il y.ic, .slice y.ka y.kl y.kc, .int .i64 y.fn, .int .i64 y.cap, .bool y.shut], .bool y.ok]) ∧ P y w')
    (hP : ∀ y w', P y w' → Fr F (((w.alloc (.cells #[.int .i64 p.on, .int .i64 p.call, .int .i64 p.vk, .int .i64 p.vn, .int .i64 p.xk, .int .i64 p.xn, .int .i64 p.i, .int .i64 p.n, .slice a L c] 38)).alloc (.cells (saidC 0 0 false) 58)).alloc (.cells (saidC 0 0 false) 58)) w') (hQ : ∀ y w3 w', P y w3 → Fr (fun q => q = w.heap.size + 1 ∨ q = w.heap.size + 2) w3 w' → Q y w') :
    Calls Try.prog 44 #[.pointer (some ⟨h, 0, none⟩), .int .i64 2, .agg (opC p)] w fun e w' => ∃ y : OV, e = .returned (.agg (saidV y.sv)) ∧ Q y w' := by
  unfold opC
  rw [hlv]
  have hz2 : ((w.alloc (.cells #[.int .i64 p.on, .int .i64 p.call, .int .i64 p.vk, .int .i64 p.vn, .int .i64 p.xk, .int .i64 p.xn, .int .i64 p.i, .int .i64 p.n, .slice a L c] 38)).alloc (.cells (saidC 0 0 false) 58)).heap.size = w.heap.size + 2 := by simp
  have hz1 : (w.alloc (.cells #[.int .i64 p.on, .int .i64 p.call, .int .i64 p.vk, .int .i64 p.vn, .int .i64 p.xk, .int .i64 p.xn, .int .i64 p.i, .int .i64 p.n, .slice a L c] 38)).heap.size = w.heap.size + 1 := by simp
  have S2 := Said.new ((w.alloc (.cells #[.int .i64 p.on, .int .i64 p.call, .int .i64 p.vk, .int .i64 p.vn, .int .i64 p.xk, .int .i64 p.xn, .int .i64 p.i, .int .i64 p.n, .slice a L c] 38)).alloc (.cells (saidC 0 0 false) 58)) 0 0 false 58
  have S1 := (Said.new (w.alloc (.cells #[.int .i64 p.on, .int .i64 p.call, .int .i64 p.vk, .int .i64 p.vn, .int .i64 p.xk, .int .i64 p.xn, .int .i64 p.i, .int .i64 p.n, .slice a L c] 38)) 0 0 false 58).fr ((Fr.refl (fun _ => False) _).alloc (.cells (saidC 0 0 false) 58)) (fun e => e)
  rw [hz2] at S2
  rw [hz1] at S1
  have HS1 := hide S1
  have HS2 := hide S2
  have HCC := hide HC
  have HPP := hide hP
  have HQQ := hide hQ
  have HFF := hide hF
  clear S1 S2 HC hP hQ hF hlv hz1 hz2
  unfold saidC at HCC
  go_enter Try.func44, Try.ntmps44
  go_wp2_with fail
  refine (unhide HCC).mono ?_
  rintro e1 w3 ⟨⟨xk, xia, xil, xic, xka, xkl, xkc, xf, xc, xs, xo⟩, rfl, hp3⟩
  simp only at hp3 ⊢
  have f3 := unhide HPP _ w3 hp3
  have hSD := (unhide HS2).fr f3 (fun e => by have := unhide HFF _ e; omega)
  have hSR := (unhide HS1).fr f3 (fun e => by have := unhide HFF _ e; omega)
  have hq2 : w.heap.size + 2 < w3.heap.size := World.block_lt_of_cell? _ _ (hSD.1 0 (by omega))
  have hq1 : w.heap.size + 1 < w3.heap.size := by omega
  have sf := hSD.2
  have s5 := hSD.1 5 (by omega)
  have s6 := hSD.1 6 (by omega)
  have s7 := hSD.1 7 (by omega)
  have s8 := hSD.1 8 (by omega)
  have s9 := hSD.1 9 (by omega)
  have s10 := hSD.1 10 (by omega)
  simp only [saidL, saidLV, OV.sv, List.getElem_cons_zero, List.getElem_cons_succ] at s5 s6 s7 s8 s9 s10
  obtain ⟨hT6, fq6⟩ := hSD.obj6 xk xia xil xic xka xkl xkc xf xc xs
  obtain ⟨W5, e5⟩ : ∃ W, W = w3.setCell ⟨w.heap.size + 2, 5, none⟩ (Value.int .i64 xk) := ⟨_, rfl⟩
  obtain ⟨W6, e6⟩ : ∃ W, W = W5.setCell ⟨w.heap.size + 2, 6, none⟩ (Value.slice xia xil xic) := ⟨_, rfl⟩
  obtain ⟨W7, e7⟩ : ∃ W, W = W6.setCell ⟨w.heap.size + 2, 7, none⟩ (Value.slice xka xkl xkc) := ⟨_, rfl⟩
  obtain ⟨W8, e8⟩ : ∃ W, W = W7.setCell ⟨w.heap.size + 2, 8, none⟩ (Value.int .i64 xf) := ⟨_, rfl⟩
  obtain ⟨W9, e9⟩ : ∃ W, W = W8.setCell ⟨w.heap.size + 2, 9, none⟩ (Value.int .i64 xc) := ⟨_, rfl⟩
  obtain ⟨W10, e10⟩ : ∃ W, W = W9.setCell ⟨w.heap.size + 2, 10, none⟩ (Value.bool xs) := ⟨_, rfl⟩
  have hW : ((((((w3.setCell ⟨w.heap.size + 2, 5, none⟩ (.int .i64 xk)).setCell ⟨w.heap.size + 2, 6, none⟩ (.slice xia xil xic)).setCell ⟨w.heap.size + 2, 7, none⟩ (.slice xka xkl xkc)).setCell ⟨w.heap.size + 2, 8, none⟩ (.int .i64 xf)).setCell ⟨w.heap.size + 2, 9, none⟩ (.int .i64 xc)).setCell ⟨w.heap.size + 2, 10, none⟩ (.bool xs)) = W10 := by rw [e10, e9, e8, e7, e6, e5]
  rw [hW] at hT6 fq6
  obtain ⟨o0, ho0⟩ : ∃ v, v = Value.int .i64 xk := ⟨_, rfl⟩
  obtain ⟨o1, ho1⟩ : ∃ v, v = Value.slice xia xil xic := ⟨_, rfl⟩
  obtain ⟨o2, ho2⟩ : ∃ v, v = Value.slice xka xkl xkc := ⟨_, rfl⟩
  obtain ⟨o3, ho3⟩ : ∃ v, v = Value.int .i64 xf := ⟨_, rfl⟩
  obtain ⟨o4, ho4⟩ : ∃ v, v = Value.int .i64 xc := ⟨_, rfl⟩
  obtain ⟨o5, ho5⟩ : ∃ v, v = Value.bool xs := ⟨_, rfl⟩
  have q5 : (store ⟨w.heap.size + 1 + 1, 5, none⟩ o0).run Try.prog w3 = .ok () W5 := by
    rw [ho0, e5]
    have cc : w3.cell? ⟨w.heap.size + 1 + 1, 5, none⟩ = some (.int .i64 0) := by
      skip
      skip
      exact s5
    have cf : w3.frozen? ⟨w.heap.size + 1 + 1, 5, none⟩ = false := by
      skip
      skip
      exact sf 5
    simp [go_sem, cc, cf]
  have q6 : (store ⟨w.heap.size + 1 + 1, 6, none⟩ o1).run Try.prog W5 = .ok () W6 := by
    rw [ho1, e6]
    have cc : W5.cell? ⟨w.heap.size + 1 + 1, 6, none⟩ = some (.slice none 0 0) := by
      rw [e5]
      repeat rw [World.cell?_setCell_other _ _ _ _ (by simp)]
      exact s6
    have cf : W5.frozen? ⟨w.heap.size + 1 + 1, 6, none⟩ = false := by
      rw [e5]
      repeat rw [World.frozen?_setCell]
      exact sf 6
    simp [go_sem, cc, cf]
  have q7 : (store ⟨w.heap.size + 1 + 1, 7, none⟩ o2).run Try.prog W6 = .ok () W7 := by
    rw [ho2, e7]
    have cc : W6.cell? ⟨w.heap.size + 1 + 1, 7, none⟩ = some (.slice none 0 0) := by
      rw [e6, e5]
      repeat rw [World.cell?_setCell_other _ _ _ _ (by simp)]
      exact s7
    have cf : W6.frozen? ⟨w.heap.size + 1 + 1, 7, none⟩ = false := by
      rw [e6, e5]
      repeat rw [World.frozen?_setCell]
      exact sf 7
    simp [go_sem, cc, cf]
  have q8 : (store ⟨w.heap.size + 1 + 1, 8, none⟩ o3).run Try.prog W7 = .ok () W8 := by
    rw [ho3, e8]
    have cc : W7.cell? ⟨w.heap.size + 1 + 1, 8, none⟩ = some (.int .i64 0) := by
      rw [e7, e6, e5]
      repeat rw [World.cell?_setCell_other _ _ _ _ (by simp)]
      exact s8
    have cf : W7.frozen? ⟨w.heap.size + 1 + 1, 8, none⟩ = false := by
      rw [e7, e6, e5]
      repeat rw [World.frozen?_setCell]
      exact sf 8
    simp [go_sem, cc, cf]
  have q9 : (store ⟨w.heap.size + 1 + 1, 9, none⟩ o4).run Try.prog W8 = .ok () W9 := by
    rw [ho4, e9]
    have cc : W8.cell? ⟨w.heap.size + 1 + 1, 9, none⟩ = some (.int .i64 0) := by
      rw [e8, e7, e6, e5]
      repeat rw [World.cell?_setCell_other _ _ _ _ (by simp)]
      exact s9
    have cf : W8.frozen? ⟨w.heap.size + 1 + 1, 9, none⟩ = false := by
      rw [e8, e7, e6, e5]
      repeat rw [World.frozen?_setCell]
      exact sf 9
    simp [go_sem, cc, cf]
  have q10 : (store ⟨w.heap.size + 1 + 1, 10, none⟩ o5).run Try.prog W9 = .ok () W10 := by
    rw [ho5, e10]
    have cc : W9.cell? ⟨w.heap.size + 1 + 1, 10, none⟩ = some (.bool false) := by
      rw [e9, e8, e7, e6, e5]
      repeat rw [World.cell?_setCell_other _ _ _ _ (by simp)]
      exact s10
    have cf : W9.frozen? ⟨w.heap.size + 1 + 1, 10, none⟩ = false := by
      rw [e9, e8, e7, e6, e5]
      repeat rw [World.frozen?_setCell]
      exact sf 10
    simp [go_sem, cc, cf]
  rw [← ho0, ← ho1, ← ho2, ← ho3, ← ho4, ← ho5]
  have hSR6 := hSR.fr fq6 (by omega)
  have hl10 : w.heap.size + 1 + 1 < W10.heap.size := hT6.lt
  have hl11 : w.heap.size + 1 < W10.heap.size := by omega
  have tf := hT6.2
  have rf := hSR6.2
  have t0 := hT6.1 0 (by omega)
  have t1 := hT6.1 1 (by omega)
  have t2 := hT6.1 2 (by omega)
  have t3 := hT6.1 3 (by omega)
  have t4 := hT6.1 4 (by omega)
  have t5 := hT6.1 5 (by omega)
  have t6 := hT6.1 6 (by omega)
  have t7 := hT6.1 7 (by omega)
  have t8 := hT6.1 8 (by omega)
  have t9 := hT6.1 9 (by omega)
  have t10 := hT6.1 10 (by omega)
  have t11 := hT6.1 11 (by omega)
  simp only [saidL, saidLV, OV.sv, List.getElem_cons_zero, List.getElem_cons_succ] at t0 t1 t2 t3 t4 t5 t6 t7 t8 t9 t10 t11
  have r0 := hSR6.1 0 (by omega)
  have r1 := hSR6.1 1 (by omega)
  have r2 := hSR6.1 2 (by omega)
  have r3 := hSR6.1 3 (by omega)
  have r4 := hSR6.1 4 (by omega)
  have r5 := hSR6.1 5 (by omega)
  have r6 := hSR6.1 6 (by omega)
  have r7 := hSR6.1 7 (by omega)
  have r8 := hSR6.1 8 (by omega)
  have r9 := hSR6.1 9 (by omega)
  have r10 := hSR6.1 10 (by omega)
  have r11 := hSR6.1 11 (by omega)
  simp only [saidL, saidLV, OV.sv, List.getElem_cons_zero, List.getElem_cons_succ] at r0 r1 r2 r3 r4 r5 r6 r7 r8 r9 r10 r11
  have fq : Fr (fun q => q = w.heap.size + 2) w3 (W10.setCell ⟨w.heap.size + 2, 4, none⟩ (.bool xo)) := fq6.setCell ⟨w.heap.size + 2, 4, none⟩ (.inr rfl) _
  have hSR2 := hSR.fr fq (by omega)
  obtain ⟨hZ, fz⟩ := hSR2.setV (OV.mk xk xia xil xic xka xkl xkc xf xc xs xo).sv
  have hf : Fr (fun q => q = w.heap.size + 1 ∨ q = w.heap.size + 2) w3 ((W10.setCell ⟨w.heap.size + 2, 4, none⟩ (.bool xo)).setCells (w.heap.size + 1) 0 (saidLV (OV.mk xk xia xil xic xka xkl xkc xf xc xs xo).sv)) := (fq.mono (fun _ _ e => .inr e)).trans (fz.mono (fun _ _ e => .inl e))
  have hQ8 := hide (unhide HQQ _ _ _ hp3 hf)
  have HZ8 := hide hZ
  have HO := hide (And.intro ho0 (And.intro ho1 (And.intro ho2 (And.intro ho3 (And.intro ho4 ho5)))))
  clear hSD hSR hp3 f3 hT6 fq6 hSR6 hW e5 e6 e7 e8 e9 e10 s5 s6 s7 s8 s9 s10 sf hZ fz hf fq hSR2
  clear ho0 ho1 ho2 ho3 ho4 ho5
  go_wp2_with fail
  show bodyPost Try.prog Try.f44 _ Exit.ret _ ((W10.setCell ⟨w.heap.size + 2, 4, none⟩ (.bool xo)).setCells (w.heap.size + 1) 0 (saidLV (OV.mk xk xia xil xic xka xkl xkc xf xc xs xo).sv))
  have hZ := unhide HZ8
  clear HZ8 t0 t1 t2 t3 t4 t5 t6 t7 t8 t9 t10 t11 r0 r1 r2 r3 r4 r5 r6 r7 r8 r9 r10 r11 tf rf q5 q6 q7 q8 q9 q10 hl10 hl11
  generalize (W10.setCell ⟨w.heap.size + 2, 4, none⟩ (.bool xo)).setCells (w.heap.size + 1) 0 (saidLV (OV.mk xk xia xil xic xka xkl xkc xf xc xs xo).sv) = W8 at *
  have z0 := hZ.1 0 (by omega)
  have z1 := hZ.1 1 (by omega)
  have z2 := hZ.1 2 (by omega)
  have z3 := hZ.1 3 (by omega)
  have z4 := hZ.1 4 (by omega)
  have z5 := hZ.1 5 (by omega)
  have z6 := hZ.1 6 (by omega)
  have z7 := hZ.1 7 (by omega)
  have z8 := hZ.1 8 (by omega)
  have z9 := hZ.1 9 (by omega)
  have z10 := hZ.1 10 (by omega)
  have z11 := hZ.1 11 (by omega)
  simp only [saidL, saidLV, OV.sv, List.getElem_cons_zero, List.getElem_cons_succ] at z0 z1 z2 z3 z4 z5 z6 z7 z8 z9 z10 z11
  refine bodyPost_ret (v := .agg (saidV (OV.mk xk xia xil xic xka xkl xkc xf xc xs xo).sv)) (by simp [results, Try.results44, go_sem, saidV, OV.sv, z0, z1, z2, z3, z4, z5, z6, z7, z8, z9, z10, z11]) rfl ?_
  exact ⟨_, rfl, unhide hQ8⟩
set_option maxRecDepth 100000 in
set_option maxHeartbeats 6400000 in
theorem tell_object {w : World} {h : Nat} (p : OpD) {a : Option Addr} {L c : Nat} (hlv : p.lv = .slice a L c) {P Q : OV → World → Prop} {F : Nat → Prop} (hF : ∀ q, F q → q < w.heap.size) (hl : h < w.heap.size)
    (HC : Calls Try.prog 48 #[.pointer (some ⟨h, 0, none⟩), .int .i64 p.n] (((w.alloc (.cells #[.int .i64 p.on, .int .i64 p.call, .int .i64 p.vk, .int .i64 p.vn, .int .i64 p.xk, .int .i64 p.xn, .int .i64 p.i, .int .i64 p.n, .slice a L c] 38)).alloc (.cells (saidC 0 0 false) 58)).alloc (.cells (saidC 0 0 false) 58)) fun e w' => ∃ y : OV, e = .returned (.tuple #[.agg #[.int .i64 y.k, .slice y.ia y.il y.ic, .slice y.ka y.kl y.kc, .int .i64 y.fn, .int .i64 y.cap, .bool y.shut], .bool y.ok]) ∧ P y w')
    (hP : ∀ y w', P y w' → Fr F (((w.alloc (.cells #[.int .i64 p.on, .int .i64 p.call, .int .i64 p.vk, .int .i64 p.vn, .int .i64 p.xk, .int .i64 p.xn, .int .i64 p.i, .int .i64 p.n, .slice a L c] 38)).alloc (.cells (saidC 0 0 false) 58)).alloc (.cells (saidC 0 0 false) 58)) w') (hQ : ∀ y w3 w', P y w3 → Fr (fun q => q = w.heap.size + 1 ∨ q = w.heap.size + 2) w3 w' → Q y w') :
    Calls Try.prog 29 #[.pointer (some ⟨h, 0, none⟩), .int .i64 2, .agg (opC p)] w fun e w' => ∃ y : OV, e = .returned (.agg (saidV y.sv)) ∧ Q y w' := by
  unfold opC
  rw [hlv]
  have hz2 : ((w.alloc (.cells #[.int .i64 p.on, .int .i64 p.call, .int .i64 p.vk, .int .i64 p.vn, .int .i64 p.xk, .int .i64 p.xn, .int .i64 p.i, .int .i64 p.n, .slice a L c] 38)).alloc (.cells (saidC 0 0 false) 58)).heap.size = w.heap.size + 2 := by simp
  have hz1 : (w.alloc (.cells #[.int .i64 p.on, .int .i64 p.call, .int .i64 p.vk, .int .i64 p.vn, .int .i64 p.xk, .int .i64 p.xn, .int .i64 p.i, .int .i64 p.n, .slice a L c] 38)).heap.size = w.heap.size + 1 := by simp
  have S2 := Said.new ((w.alloc (.cells #[.int .i64 p.on, .int .i64 p.call, .int .i64 p.vk, .int .i64 p.vn, .int .i64 p.xk, .int .i64 p.xn, .int .i64 p.i, .int .i64 p.n, .slice a L c] 38)).alloc (.cells (saidC 0 0 false) 58)) 0 0 false 58
  have S1 := (Said.new (w.alloc (.cells #[.int .i64 p.on, .int .i64 p.call, .int .i64 p.vk, .int .i64 p.vn, .int .i64 p.xk, .int .i64 p.xn, .int .i64 p.i, .int .i64 p.n, .slice a L c] 38)) 0 0 false 58).fr ((Fr.refl (fun _ => False) _).alloc (.cells (saidC 0 0 false) 58)) (fun e => e)
  rw [hz2] at S2
  rw [hz1] at S1
  have HS1 := hide S1
  have HS2 := hide S2
  have HCC := hide HC
  have HPP := hide hP
  have HQQ := hide hQ
  have HFF := hide hF
  clear S1 S2 HC hP hQ hF hlv hz1 hz2
  unfold saidC at HCC
  go_enter Try.func29, Try.ntmps29
  go_wp2_with fail
  refine (unhide HCC).mono ?_
  rintro e1 w3 ⟨⟨xk, xia, xil, xic, xka, xkl, xkc, xf, xc, xs, xo⟩, rfl, hp3⟩
  simp only at hp3 ⊢
  have f3 := unhide HPP _ w3 hp3
  have hSD := (unhide HS2).fr f3 (fun e => by have := unhide HFF _ e; omega)
  have hSR := (unhide HS1).fr f3 (fun e => by have := unhide HFF _ e; omega)
  have hq2 : w.heap.size + 2 < w3.heap.size := World.block_lt_of_cell? _ _ (hSD.1 0 (by omega))
  have hq1 : w.heap.size + 1 < w3.heap.size := by omega
  have sf := hSD.2
  have s5 := hSD.1 5 (by omega)
  have s6 := hSD.1 6 (by omega)
  have s7 := hSD.1 7 (by omega)
  have s8 := hSD.1 8 (by omega)
  have s9 := hSD.1 9 (by omega)
  have s10 := hSD.1 10 (by omega)
  simp only [saidL, saidLV, OV.sv, List.getElem_cons_zero, List.getElem_cons_succ] at s5 s6 s7 s8 s9 s10
  obtain ⟨hT6, fq6⟩ := hSD.obj6 xk xia xil xic xka xkl xkc xf xc xs
  obtain ⟨W5, e5⟩ : ∃ W, W = w3.setCell ⟨w.heap.size + 2, 5, none⟩ (Value.int .i64 xk) := ⟨_, rfl⟩
  obtain ⟨W6, e6⟩ : ∃ W, W = W5.setCell ⟨w.heap.size + 2, 6, none⟩ (Value.slice xia xil xic) := ⟨_, rfl⟩
  obtain ⟨W7, e7⟩ : ∃ W, W = W6.setCell ⟨w.heap.size + 2, 7, none⟩ (Value.slice xka xkl xkc) := ⟨_, rfl⟩
  obtain ⟨W8, e8⟩ : ∃ W, W = W7.setCell ⟨w.heap.size + 2, 8, none⟩ (Value.int .i64 xf) := ⟨_, rfl⟩
  obtain ⟨W9, e9⟩ : ∃ W, W = W8.setCell ⟨w.heap.size + 2, 9, none⟩ (Value.int .i64 xc) := ⟨_, rfl⟩
  obtain ⟨W10, e10⟩ : ∃ W, W = W9.setCell ⟨w.heap.size + 2, 10, none⟩ (Value.bool xs) := ⟨_, rfl⟩
  have hW : ((((((w3.setCell ⟨w.heap.size + 2, 5, none⟩ (.int .i64 xk)).setCell ⟨w.heap.size + 2, 6, none⟩ (.slice xia xil xic)).setCell ⟨w.heap.size + 2, 7, none⟩ (.slice xka xkl xkc)).setCell ⟨w.heap.size + 2, 8, none⟩ (.int .i64 xf)).setCell ⟨w.heap.size + 2, 9, none⟩ (.int .i64 xc)).setCell ⟨w.heap.size + 2, 10, none⟩ (.bool xs)) = W10 := by rw [e10, e9, e8, e7, e6, e5]
  rw [hW] at hT6 fq6
  obtain ⟨o0, ho0⟩ : ∃ v, v = Value.int .i64 xk := ⟨_, rfl⟩
  obtain ⟨o1, ho1⟩ : ∃ v, v = Value.slice xia xil xic := ⟨_, rfl⟩
  obtain ⟨o2, ho2⟩ : ∃ v, v = Value.slice xka xkl xkc := ⟨_, rfl⟩
  obtain ⟨o3, ho3⟩ : ∃ v, v = Value.int .i64 xf := ⟨_, rfl⟩
  obtain ⟨o4, ho4⟩ : ∃ v, v = Value.int .i64 xc := ⟨_, rfl⟩
  obtain ⟨o5, ho5⟩ : ∃ v, v = Value.bool xs := ⟨_, rfl⟩
  have q5 : (store ⟨w.heap.size + 1 + 1, 5, none⟩ o0).run Try.prog w3 = .ok () W5 := by
    rw [ho0, e5]
    have cc : w3.cell? ⟨w.heap.size + 1 + 1, 5, none⟩ = some (.int .i64 0) := by
      skip
      skip
      exact s5
    have cf : w3.frozen? ⟨w.heap.size + 1 + 1, 5, none⟩ = false := by
      skip
      skip
      exact sf 5
    simp [go_sem, cc, cf]
  have q6 : (store ⟨w.heap.size + 1 + 1, 6, none⟩ o1).run Try.prog W5 = .ok () W6 := by
    rw [ho1, e6]
    have cc : W5.cell? ⟨w.heap.size + 1 + 1, 6, none⟩ = some (.slice none 0 0) := by
      rw [e5]
      repeat rw [World.cell?_setCell_other _ _ _ _ (by simp)]
      exact s6
    have cf : W5.frozen? ⟨w.heap.size + 1 + 1, 6, none⟩ = false := by
      rw [e5]
      repeat rw [World.frozen?_setCell]
      exact sf 6
    simp [go_sem, cc, cf]
  have q7 : (store ⟨w.heap.size + 1 + 1, 7, none⟩ o2).run Try.prog W6 = .ok () W7 := by
    rw [ho2, e7]
    have cc : W6.cell? ⟨w.heap.size + 1 + 1, 7, none⟩ = some (.slice none 0 0) := by
      rw [e6, e5]
      repeat rw [World.cell?_setCell_other _ _ _ _ (by simp)]
      exact s7
    have cf : W6.frozen? ⟨w.heap.size + 1 + 1, 7, none⟩ = false := by
      rw [e6, e5]
      repeat rw [World.frozen?_setCell]
      exact sf 7
    simp [go_sem, cc, cf]
  have q8 : (store ⟨w.heap.size + 1 + 1, 8, none⟩ o3).run Try.prog W7 = .ok () W8 := by
    rw [ho3, e8]
    have cc : W7.cell? ⟨w.heap.size + 1 + 1, 8, none⟩ = some (.int .i64 0) := by
      rw [e7, e6, e5]
      repeat rw [World.cell?_setCell_other _ _ _ _ (by simp)]
      exact s8
    have cf : W7.frozen? ⟨w.heap.size + 1 + 1, 8, none⟩ = false := by
      rw [e7, e6, e5]
      repeat rw [World.frozen?_setCell]
      exact sf 8
    simp [go_sem, cc, cf]
  have q9 : (store ⟨w.heap.size + 1 + 1, 9, none⟩ o4).run Try.prog W8 = .ok () W9 := by
    rw [ho4, e9]
    have cc : W8.cell? ⟨w.heap.size + 1 + 1, 9, none⟩ = some (.int .i64 0) := by
      rw [e8, e7, e6, e5]
      repeat rw [World.cell?_setCell_other _ _ _ _ (by simp)]
      exact s9
    have cf : W8.frozen? ⟨w.heap.size + 1 + 1, 9, none⟩ = false := by
      rw [e8, e7, e6, e5]
      repeat rw [World.frozen?_setCell]
      exact sf 9
    simp [go_sem, cc, cf]
  have q10 : (store ⟨w.heap.size + 1 + 1, 10, none⟩ o5).run Try.prog W9 = .ok () W10 := by
    rw [ho5, e10]
    have cc : W9.cell? ⟨w.heap.size + 1 + 1, 10, none⟩ = some (.bool false) := by
      rw [e9, e8, e7, e6, e5]
      repeat rw [World.cell?_setCell_other _ _ _ _ (by simp)]
      exact s10
    have cf : W9.frozen? ⟨w.heap.size + 1 + 1, 10, none⟩ = false := by
      rw [e9, e8, e7, e6, e5]
      repeat rw [World.frozen?_setCell]
      exact sf 10
    simp [go_sem, cc, cf]
  rw [← ho0, ← ho1, ← ho2, ← ho3, ← ho4, ← ho5]
  have hSR6 := hSR.fr fq6 (by omega)
  have hl10 : w.heap.size + 1 + 1 < W10.heap.size := hT6.lt
  have hl11 : w.heap.size + 1 < W10.heap.size := by omega
  have tf := hT6.2
  have rf := hSR6.2
  have t0 := hT6.1 0 (by omega)
  have t1 := hT6.1 1 (by omega)
  have t2 := hT6.1 2 (by omega)
  have t3 := hT6.1 3 (by omega)
  have t4 := hT6.1 4 (by omega)
  have t5 := hT6.1 5 (by omega)
  have t6 := hT6.1 6 (by omega)
  have t7 := hT6.1 7 (by omega)
  have t8 := hT6.1 8 (by omega)
  have t9 := hT6.1 9 (by omega)
  have t10 := hT6.1 10 (by omega)
  have t11 := hT6.1 11 (by omega)
  simp only [saidL, saidLV, OV.sv, List.getElem_cons_zero, List.getElem_cons_succ] at t0 t1 t2 t3 t4 t5 t6 t7 t8 t9 t10 t11
  have r0 := hSR6.1 0 (by omega)
  have r1 := hSR6.1 1 (by omega)
  have r2 := hSR6.1 2 (by omega)
  have r3 := hSR6.1 3 (by omega)
  have r4 := hSR6.1 4 (by omega)
  have r5 := hSR6.1 5 (by omega)
  have r6 := hSR6.1 6 (by omega)
  have r7 := hSR6.1 7 (by omega)
  have r8 := hSR6.1 8 (by omega)
  have r9 := hSR6.1 9 (by omega)
  have r10 := hSR6.1 10 (by omega)
  have r11 := hSR6.1 11 (by omega)
  simp only [saidL, saidLV, OV.sv, List.getElem_cons_zero, List.getElem_cons_succ] at r0 r1 r2 r3 r4 r5 r6 r7 r8 r9 r10 r11
  have fq : Fr (fun q => q = w.heap.size + 2) w3 (W10.setCell ⟨w.heap.size + 2, 4, none⟩ (.bool xo)) := fq6.setCell ⟨w.heap.size + 2, 4, none⟩ (.inr rfl) _
  have hSR2 := hSR.fr fq (by omega)
  obtain ⟨hZ, fz⟩ := hSR2.setV (OV.mk xk xia xil xic xka xkl xkc xf xc xs xo).sv
  have hf : Fr (fun q => q = w.heap.size + 1 ∨ q = w.heap.size + 2) w3 ((W10.setCell ⟨w.heap.size + 2, 4, none⟩ (.bool xo)).setCells (w.heap.size + 1) 0 (saidLV (OV.mk xk xia xil xic xka xkl xkc xf xc xs xo).sv)) := (fq.mono (fun _ _ e => .inr e)).trans (fz.mono (fun _ _ e => .inl e))
  have hQ8 := hide (unhide HQQ _ _ _ hp3 hf)
  have HZ8 := hide hZ
  have HO := hide (And.intro ho0 (And.intro ho1 (And.intro ho2 (And.intro ho3 (And.intro ho4 ho5)))))
  clear hSD hSR hp3 f3 hT6 fq6 hSR6 hW e5 e6 e7 e8 e9 e10 s5 s6 s7 s8 s9 s10 sf hZ fz hf fq hSR2
  clear ho0 ho1 ho2 ho3 ho4 ho5
  go_wp2_with fail
  show bodyPost Try.prog Try.f29 _ Exit.ret _ ((W10.setCell ⟨w.heap.size + 2, 4, none⟩ (.bool xo)).setCells (w.heap.size + 1) 0 (saidLV (OV.mk xk xia xil xic xka xkl xkc xf xc xs xo).sv))
  have hZ := unhide HZ8
  clear HZ8 t0 t1 t2 t3 t4 t5 t6 t7 t8 t9 t10 t11 r0 r1 r2 r3 r4 r5 r6 r7 r8 r9 r10 r11 tf rf q5 q6 q7 q8 q9 q10 hl10 hl11
  generalize (W10.setCell ⟨w.heap.size + 2, 4, none⟩ (.bool xo)).setCells (w.heap.size + 1) 0 (saidLV (OV.mk xk xia xil xic xka xkl xkc xf xc xs xo).sv) = W8 at *
  have z0 := hZ.1 0 (by omega)
  have z1 := hZ.1 1 (by omega)
  have z2 := hZ.1 2 (by omega)
  have z3 := hZ.1 3 (by omega)
  have z4 := hZ.1 4 (by omega)
  have z5 := hZ.1 5 (by omega)
  have z6 := hZ.1 6 (by omega)
  have z7 := hZ.1 7 (by omega)
  have z8 := hZ.1 8 (by omega)
  have z9 := hZ.1 9 (by omega)
  have z10 := hZ.1 10 (by omega)
  have z11 := hZ.1 11 (by omega)
  simp only [saidL, saidLV, OV.sv, List.getElem_cons_zero, List.getElem_cons_succ] at z0 z1 z2 z3 z4 z5 z6 z7 z8 z9 z10 z11
  refine bodyPost_ret (v := .agg (saidV (OV.mk xk xia xil xic xka xkl xkc xf xc xs xo).sv)) (by simp [results, Try.results29, go_sem, saidV, OV.sv, z0, z1, z2, z3, z4, z5, z6, z7, z8, z9, z10, z11]) rfl ?_
  exact ⟨_, rfl, unhide hQ8⟩
end Go.Proofs.Ytkpngfahnpidkaa
