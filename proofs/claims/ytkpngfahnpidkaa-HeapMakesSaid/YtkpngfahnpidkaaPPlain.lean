/-
  askPlain: Spend, Record, Chan.
-/
import Derived.Test.YtkpngfahnpidkaaPMake
namespace Go.Proofs.Ytkpngfahnpidkaa
open Go.RowKit
set_option linter.unusedVariables false
set_option linter.unusedSimpArgs false

/-- A call's cells. -/
def opC (p : OpD) : Array Value := #[.int .i64 p.on, .int .i64 p.call, .int .i64 p.vk, .int .i64 p.vn, .int .i64 p.xk, .int .i64 p.xn, .int .i64 p.i, .int .i64 p.n, p.lv]
/-- An answer's cells. -/
def saidL (k n : Int) (ok : Bool) : List Value := [.int .i64 k, .int .i64 n, .int .i64 0, .int .i64 0, .bool ok, .int .i64 0, .slice none 0 0, .slice none 0 0, .int .i64 0, .int .i64 0, .bool false, .slice none 0 0]
def saidC (k n : Int) (ok : Bool) : Array Value := #[.int .i64 k, .int .i64 n, .int .i64 0, .int .i64 0, .bool ok, .int .i64 0, .slice none 0 0, .slice none 0 0, .int .i64 0, .int .i64 0, .bool false, .slice none 0 0]
/-- A box holds an answer. -/
def Said (w : World) (b : Nat) (k n : Int) (ok : Bool) : Prop := (∀ j (hj : j < 12), w.cell? ⟨b, j, none⟩ = some ((saidL k n ok)[j]'hj)) ∧ ∀ j, w.frozen? ⟨b, j, none⟩ = false
theorem Said.new (w : World) (k n : Int) (ok : Bool) (t : TypeId) : Said (w.alloc (.cells (saidC k n ok) t)) w.heap.size k n ok := by
  have hg := heap_alloc_new w (.cells (saidC k n ok) t)
  refine ⟨fun j hj => ?_, fun j => frozen_new _ _ _ _⟩
  simp only [World.cell?, hg]
  show (saidC k n ok)[j]? = _
  have : (saidC k n ok).toList = saidL k n ok := rfl
  rw [← Array.getElem?_toList, this]
  exact List.getElem?_eq_getElem hj
theorem Said.fr {S : Nat → Prop} {w w' : World} {b : Nat} {k n : Int} {ok : Bool} (h : Said w b k n ok) (f : Fr S w w') (hn : ¬ S b) : Said w' b k n ok := by
  have hb : b < w.heap.size := World.block_lt_of_cell? _ _ (h.1 0 (by omega))
  exact ⟨fun j hj => (f.cell (a := ⟨b, j, none⟩) hb hn).trans (h.1 j hj), fun j => (f.frozen (a := ⟨b, j, none⟩) hb hn).trans (h.2 j)⟩
theorem Said.set {w : World} {b : Nat} {k n k' n' : Int} {ok ok' : Bool} (h : Said w b k n ok) : Said (w.setCells b 0 (saidL k' n' ok')) b k' n' ok' ∧ Fr (fun q => q = b) w (w.setCells b 0 (saidL k' n' ok')) := by
  refine ⟨⟨fun j hj => ?_, fun j => by rw [World.frozen?_setCells]; exact h.2 j⟩, ?_⟩
  · have := World.cell?_setCells_in b (saidL k' n' ok') 0 w (fun i hi => by rw [Nat.zero_add, h.1 i hi]; rfl) j hj
    rw [Nat.zero_add] at this
    exact this
  · obtain ⟨r1, r2, r3⟩ := setCells_rest b (saidL k' n' ok') 0 w
    exact ⟨r1, r2, r3, by rw [setCells_size]; exact Nat.le_refl _, fun i _ hi => setCells_other b i hi _ _ w⟩
set_option maxRecDepth 100000 in
set_option maxHeartbeats 6400000 in
theorem plain_record {w : World} {h : Nat} (p : OpD) {a : Option Addr} {L c : Nat} (hlv : p.lv = .slice a L c) {k n : Int} {ok : Bool} {S P Q : World → Prop} {F : Nat → Prop} (hF : ∀ q, F q → q < w.heap.size) (hl : h < w.heap.size)
    (HC : Calls Try.prog 19 #[.pointer (some ⟨h, 0, none⟩)] (((w.alloc (.cells #[.int .i64 p.on, .int .i64 p.call, .int .i64 p.vk, .int .i64 p.vn, .int .i64 p.xk, .int .i64 p.xn, .int .i64 p.i, .int .i64 p.n, .slice a L c] 38)).alloc (.cells (saidC 0 0 false) 58)).alloc (.cells (saidC 0 0 false) 58)) fun e w' => e = .returned (.tuple #[.agg #[.int .i64 k, .int .i64 n], .bool ok]) ∧ P w')
    (hP : ∀ w', P w' → Fr F (((w.alloc (.cells #[.int .i64 p.on, .int .i64 p.call, .int .i64 p.vk, .int .i64 p.vn, .int .i64 p.xk, .int .i64 p.xn, .int .i64 p.i, .int .i64 p.n, .slice a L c] 38)).alloc (.cells (saidC 0 0 false) 58)).alloc (.cells (saidC 0 0 false) 58)) w') (hQ : ∀ w3 w', P w3 → Fr (fun q => q = w.heap.size + 1 ∨ q = w.heap.size + 2) w3 w' → Q w') :
    Calls Try.prog 44 #[.pointer (some ⟨h, 0, none⟩), .int .i64 4, .agg (opC p)] w fun e w' => e = .returned (.agg (saidC k n ok)) ∧ Q w' := by
  unfold opC
  rw [hlv]
  have hz2 : ((w.alloc (.cells #[.int .i64 p.on, .int .i64 p.call, .int .i64 p.vk, .int .i64 p.vn, .int .i64 p.xk, .int .i64 p.xn, .int .i64 p.i, .int .i64 p.n, .slice a L c] 38)).alloc (.cells (saidC 0 0 false) 58)).heap.size = w.heap.size + 2 := by simp
  have hz1 : (w.alloc (.cells #[.int .i64 p.on, .int .i64 p.call, .int .i64 p.vk, .int .i64 p.vn, .int .i64 p.xk, .int .i64 p.xn, .int .i64 p.i, .int .i64 p.n, .slice a L c] 38)).heap.size = w.heap.size + 1 := by simp
  have S2 := Said.new ((w.alloc (.cells #[.int .i64 p.on, .int .i64 p.call, .int .i64 p.vk, .int .i64 p.vn, .int .i64 p.xk, .int .i64 p.xn, .int .i64 p.i, .int .i64 p.n, .slice a L c] 38)).alloc (.cells (saidC 0 0 false) 58)) 0 0 false 58
  have S1 := (Said.new (w.alloc (.cells #[.int .i64 p.on, .int .i64 p.call, .int .i64 p.vk, .int .i64 p.vn, .int .i64 p.xk, .int .i64 p.xn, .int .i64 p.i, .int .i64 p.n, .slice a L c] 38)) 0 0 false 58).fr ((Fr.refl (fun _ => False) _).alloc (.cells (saidC 0 0 false) 58)) (fun e => e)
  rw [hz2] at S2
  rw [hz1] at S1
  have HS1 := hide S1
  have HS2 := hide S2
  have HCC := hide HC
  have HPP := hide hP
  have HQQ := hide hQ
  have HFF := hide hF
  clear S1 S2 HC hP hQ hF hlv hz1 hz2
  unfold saidC at HCC
  go_enter Try.func44, Try.ntmps44
  go_wp2_with fail
  refine (unhide HCC).mono ?_
  rintro e1 w3 ⟨rfl, hp3⟩
  have f3 := unhide HPP w3 hp3
  have hSD := (unhide HS2).fr f3 (fun e => by have := unhide HFF _ e; omega)
  have hSR := (unhide HS1).fr f3 (fun e => by have := unhide HFF _ e; omega)
  have hq2 : w.heap.size + 2 < w3.heap.size := World.block_lt_of_cell? _ _ (hSD.1 0 (by omega))
  have hq1 : w.heap.size + 1 < w3.heap.size := by omega
  have sf := hSD.2
  have s0 := hSD.1 0 (by omega)
  have s1 := hSD.1 1 (by omega)
  have s2 := hSD.1 2 (by omega)
  have s3 := hSD.1 3 (by omega)
  have s4 := hSD.1 4 (by omega)
  have s5 := hSD.1 5 (by omega)
  have s6 := hSD.1 6 (by omega)
  have s7 := hSD.1 7 (by omega)
  have s8 := hSD.1 8 (by omega)
  have s9 := hSD.1 9 (by omega)
  have s10 := hSD.1 10 (by omega)
  have s11 := hSD.1 11 (by omega)
  simp only [saidL, List.getElem_cons_zero, List.getElem_cons_succ] at s0 s1 s2 s3 s4 s5 s6 s7 s8 s9 s10 s11
  have rf := hSR.2
  have r0 := hSR.1 0 (by omega)
  have r1 := hSR.1 1 (by omega)
  have r2 := hSR.1 2 (by omega)
  have r3 := hSR.1 3 (by omega)
  have r4 := hSR.1 4 (by omega)
  have r5 := hSR.1 5 (by omega)
  have r6 := hSR.1 6 (by omega)
  have r7 := hSR.1 7 (by omega)
  have r8 := hSR.1 8 (by omega)
  have r9 := hSR.1 9 (by omega)
  have r10 := hSR.1 10 (by omega)
  have r11 := hSR.1 11 (by omega)
  simp only [saidL, List.getElem_cons_zero, List.getElem_cons_succ] at r0 r1 r2 r3 r4 r5 r6 r7 r8 r9 r10 r11
  have hSDh := hide hSD
  have hSRh := hide hSR
  have HP3 := hide hp3
  clear hSD hSR hp3 f3
  go_wp2_with fail
  have fq : Fr (fun q => q = w.heap.size + 2) w3 ((((w3.setCell ⟨w.heap.size + 2, 0, none⟩ (.int .i64 k)).setCell ⟨w.heap.size + 2, 1, none⟩ (.int .i64 n)).setCell ⟨w.heap.size + 2, 4, none⟩ (.bool ok))) := ((((Fr.refl (fun q => q = w.heap.size + 2) w3).setCell ⟨w.heap.size + 2, 0, none⟩ (.inr rfl) _).setCell ⟨w.heap.size + 2, 1, none⟩ (.inr rfl) _).setCell ⟨w.heap.size + 2, 4, none⟩ (.inr rfl) _)
  have hSR2 := (unhide hSRh).fr fq (by omega)
  obtain ⟨hZ, fz⟩ := hSR2.set (k' := k) (n' := n) (ok' := ok)
  have hf : Fr (fun q => q = w.heap.size + 1 ∨ q = w.heap.size + 2) w3 (((((w3.setCell ⟨w.heap.size + 2, 0, none⟩ (.int .i64 k)).setCell ⟨w.heap.size + 2, 1, none⟩ (.int .i64 n)).setCell ⟨w.heap.size + 2, 4, none⟩ (.bool ok))).setCells (w.heap.size + 1) 0 (saidL k n ok)) := (fq.mono (fun _ _ e => .inr e)).trans (fz.mono (fun _ _ e => .inl e))
  have hQ8 := hide (unhide HQQ _ _ (unhide HP3) hf)
  show bodyPost Try.prog Try.f44 _ Exit.ret _ (((((w3.setCell ⟨w.heap.size + 2, 0, none⟩ (.int .i64 k)).setCell ⟨w.heap.size + 2, 1, none⟩ (.int .i64 n)).setCell ⟨w.heap.size + 2, 4, none⟩ (.bool ok))).setCells (w.heap.size + 1) 0 (saidL k n ok))
  clear fz hf fq hSR2 s0 r0 s1 r1 s2 r2 s3 r3 s4 r4 s5 r5 s6 r6 s7 r7 s8 r8 s9 r9 s10 r10 s11 r11 sf rf
  generalize ((((w3.setCell ⟨w.heap.size + 2, 0, none⟩ (.int .i64 k)).setCell ⟨w.heap.size + 2, 1, none⟩ (.int .i64 n)).setCell ⟨w.heap.size + 2, 4, none⟩ (.bool ok))).setCells (w.heap.size + 1) 0 (saidL k n ok) = W8 at *
  have z0 := hZ.1 0 (by omega)
  have z1 := hZ.1 1 (by omega)
  have z2 := hZ.1 2 (by omega)
  have z3 := hZ.1 3 (by omega)
  have z4 := hZ.1 4 (by omega)
  have z5 := hZ.1 5 (by omega)
  have z6 := hZ.1 6 (by omega)
  have z7 := hZ.1 7 (by omega)
  have z8 := hZ.1 8 (by omega)
  have z9 := hZ.1 9 (by omega)
  have z10 := hZ.1 10 (by omega)
  have z11 := hZ.1 11 (by omega)
  simp only [saidL, List.getElem_cons_zero, List.getElem_cons_succ] at z0 z1 z2 z3 z4 z5 z6 z7 z8 z9 z10 z11
  refine bodyPost_ret (v := .agg (saidC k n ok)) (by simp [results, Try.results44, go_sem, saidC, z0, z1, z2, z3, z4, z5, z6, z7, z8, z9, z10, z11]) rfl ?_
  exact ⟨rfl, unhide hQ8⟩
set_option maxRecDepth 100000 in
set_option maxHeartbeats 6400000 in
theorem plain_chan {w : World} {h : Nat} (p : OpD) {a : Option Addr} {L c : Nat} (hlv : p.lv = .slice a L c) {k n : Int} {ok : Bool} {S P Q : World → Prop} {F : Nat → Prop} (hF : ∀ q, F q → q < w.heap.size) (hl : h < w.heap.size)
    (HC : Calls Try.prog 12 #[.pointer (some ⟨h, 0, none⟩), .int .i64 p.n] (((w.alloc (.cells #[.int .i64 p.on, .int .i64 p.call, .int .i64 p.vk, .int .i64 p.vn, .int .i64 p.xk, .int .i64 p.xn, .int .i64 p.i, .int .i64 p.n, .slice a L c] 38)).alloc (.cells (saidC 0 0 false) 58)).alloc (.cells (saidC 0 0 false) 58)) fun e w' => e = .returned (.tuple #[.agg #[.int .i64 k, .int .i64 n], .bool ok]) ∧ P w')
    (hP : ∀ w', P w' → Fr F (((w.alloc (.cells #[.int .i64 p.on, .int .i64 p.call, .int .i64 p.vk, .int .i64 p.vn, .int .i64 p.xk, .int .i64 p.xn, .int .i64 p.i, .int .i64 p.n, .slice a L c] 38)).alloc (.cells (saidC 0 0 false) 58)).alloc (.cells (saidC 0 0 false) 58)) w') (hQ : ∀ w3 w', P w3 → Fr (fun q => q = w.heap.size + 1 ∨ q = w.heap.size + 2) w3 w' → Q w') :
    Calls Try.prog 44 #[.pointer (some ⟨h, 0, none⟩), .int .i64 6, .agg (opC p)] w fun e w' => e = .returned (.agg (saidC k n ok)) ∧ Q w' := by
  unfold opC
  rw [hlv]
  have hz2 : ((w.alloc (.cells #[.int .i64 p.on, .int .i64 p.call, .int .i64 p.vk, .int .i64 p.vn, .int .i64 p.xk, .int .i64 p.xn, .int .i64 p.i, .int .i64 p.n, .slice a L c] 38)).alloc (.cells (saidC 0 0 false) 58)).heap.size = w.heap.size + 2 := by simp
  have hz1 : (w.alloc (.cells #[.int .i64 p.on, .int .i64 p.call, .int .i64 p.vk, .int .i64 p.vn, .int .i64 p.xk, .int .i64 p.xn, .int .i64 p.i, .int .i64 p.n, .slice a L c] 38)).heap.size = w.heap.size + 1 := by simp
  have S2 := Said.new ((w.alloc (.cells #[.int .i64 p.on, .int .i64 p.call, .int .i64 p.vk, .int .i64 p.vn, .int .i64 p.xk, .int .i64 p.xn, .int .i64 p.i, .int .i64 p.n, .slice a L c] 38)).alloc (.cells (saidC 0 0 false) 58)) 0 0 false 58
  have S1 := (Said.new (w.alloc (.cells #[.int .i64 p.on, .int .i64 p.call, .int .i64 p.vk, .int .i64 p.vn, .int .i64 p.xk, .int .i64 p.xn, .int .i64 p.i, .int .i64 p.n, .slice a L c] 38)) 0 0 false 58).fr ((Fr.refl (fun _ => False) _).alloc (.cells (saidC 0 0 false) 58)) (fun e => e)
  rw [hz2] at S2
  rw [hz1] at S1
  have HS1 := hide S1
  have HS2 := hide S2
  have HCC := hide HC
  have HPP := hide hP
  have HQQ := hide hQ
  have HFF := hide hF
  clear S1 S2 HC hP hQ hF hlv hz1 hz2
  unfold saidC at HCC
  go_enter Try.func44, Try.ntmps44
  go_wp2_with fail
  refine (unhide HCC).mono ?_
  rintro e1 w3 ⟨rfl, hp3⟩
  have f3 := unhide HPP w3 hp3
  have hSD := (unhide HS2).fr f3 (fun e => by have := unhide HFF _ e; omega)
  have hSR := (unhide HS1).fr f3 (fun e => by have := unhide HFF _ e; omega)
  have hq2 : w.heap.size + 2 < w3.heap.size := World.block_lt_of_cell? _ _ (hSD.1 0 (by omega))
  have hq1 : w.heap.size + 1 < w3.heap.size := by omega
  have sf := hSD.2
  have s0 := hSD.1 0 (by omega)
  have s1 := hSD.1 1 (by omega)
  have s2 := hSD.1 2 (by omega)
  have s3 := hSD.1 3 (by omega)
  have s4 := hSD.1 4 (by omega)
  have s5 := hSD.1 5 (by omega)
  have s6 := hSD.1 6 (by omega)
  have s7 := hSD.1 7 (by omega)
  have s8 := hSD.1 8 (by omega)
  have s9 := hSD.1 9 (by omega)
  have s10 := hSD.1 10 (by omega)
  have s11 := hSD.1 11 (by omega)
  simp only [saidL, List.getElem_cons_zero, List.getElem_cons_succ] at s0 s1 s2 s3 s4 s5 s6 s7 s8 s9 s10 s11
  have rf := hSR.2
  have r0 := hSR.1 0 (by omega)
  have r1 := hSR.1 1 (by omega)
  have r2 := hSR.1 2 (by omega)
  have r3 := hSR.1 3 (by omega)
  have r4 := hSR.1 4 (by omega)
  have r5 := hSR.1 5 (by omega)
  have r6 := hSR.1 6 (by omega)
  have r7 := hSR.1 7 (by omega)
  have r8 := hSR.1 8 (by omega)
  have r9 := hSR.1 9 (by omega)
  have r10 := hSR.1 10 (by omega)
  have r11 := hSR.1 11 (by omega)
  simp only [saidL, List.getElem_cons_zero, List.getElem_cons_succ] at r0 r1 r2 r3 r4 r5 r6 r7 r8 r9 r10 r11
  have hSDh := hide hSD
  have hSRh := hide hSR
  have HP3 := hide hp3
  clear hSD hSR hp3 f3
  go_wp2_with fail
  have fq : Fr (fun q => q = w.heap.size + 2) w3 ((((w3.setCell ⟨w.heap.size + 2, 0, none⟩ (.int .i64 k)).setCell ⟨w.heap.size + 2, 1, none⟩ (.int .i64 n)).setCell ⟨w.heap.size + 2, 4, none⟩ (.bool ok))) := ((((Fr.refl (fun q => q = w.heap.size + 2) w3).setCell ⟨w.heap.size + 2, 0, none⟩ (.inr rfl) _).setCell ⟨w.heap.size + 2, 1, none⟩ (.inr rfl) _).setCell ⟨w.heap.size + 2, 4, none⟩ (.inr rfl) _)
  have hSR2 := (unhide hSRh).fr fq (by omega)
  obtain ⟨hZ, fz⟩ := hSR2.set (k' := k) (n' := n) (ok' := ok)
  have hf : Fr (fun q => q = w.heap.size + 1 ∨ q = w.heap.size + 2) w3 (((((w3.setCell ⟨w.heap.size + 2, 0, none⟩ (.int .i64 k)).setCell ⟨w.heap.size + 2, 1, none⟩ (.int .i64 n)).setCell ⟨w.heap.size + 2, 4, none⟩ (.bool ok))).setCells (w.heap.size + 1) 0 (saidL k n ok)) := (fq.mono (fun _ _ e => .inr e)).trans (fz.mono (fun _ _ e => .inl e))
  have hQ8 := hide (unhide HQQ _ _ (unhide HP3) hf)
  show bodyPost Try.prog Try.f44 _ Exit.ret _ (((((w3.setCell ⟨w.heap.size + 2, 0, none⟩ (.int .i64 k)).setCell ⟨w.heap.size + 2, 1, none⟩ (.int .i64 n)).setCell ⟨w.heap.size + 2, 4, none⟩ (.bool ok))).setCells (w.heap.size + 1) 0 (saidL k n ok))
  clear fz hf fq hSR2 s0 r0 s1 r1 s2 r2 s3 r3 s4 r4 s5 r5 s6 r6 s7 r7 s8 r8 s9 r9 s10 r10 s11 r11 sf rf
  generalize ((((w3.setCell ⟨w.heap.size + 2, 0, none⟩ (.int .i64 k)).setCell ⟨w.heap.size + 2, 1, none⟩ (.int .i64 n)).setCell ⟨w.heap.size + 2, 4, none⟩ (.bool ok))).setCells (w.heap.size + 1) 0 (saidL k n ok) = W8 at *
  have z0 := hZ.1 0 (by omega)
  have z1 := hZ.1 1 (by omega)
  have z2 := hZ.1 2 (by omega)
  have z3 := hZ.1 3 (by omega)
  have z4 := hZ.1 4 (by omega)
  have z5 := hZ.1 5 (by omega)
  have z6 := hZ.1 6 (by omega)
  have z7 := hZ.1 7 (by omega)
  have z8 := hZ.1 8 (by omega)
  have z9 := hZ.1 9 (by omega)
  have z10 := hZ.1 10 (by omega)
  have z11 := hZ.1 11 (by omega)
  simp only [saidL, List.getElem_cons_zero, List.getElem_cons_succ] at z0 z1 z2 z3 z4 z5 z6 z7 z8 z9 z10 z11
  refine bodyPost_ret (v := .agg (saidC k n ok)) (by simp [results, Try.results44, go_sem, saidC, z0, z1, z2, z3, z4, z5, z6, z7, z8, z9, z10, z11]) rfl ?_
  exact ⟨rfl, unhide hQ8⟩
set_option maxRecDepth 100000 in
set_option maxHeartbeats 6400000 in
theorem plain_spend {w : World} {h : Nat} (p : OpD) {a : Option Addr} {L c : Nat} (hlv : p.lv = .slice a L c) {ok : Bool} {S P Q : World → Prop} {F : Nat → Prop} (hF : ∀ q, F q → q < w.heap.size) (hl : h < w.heap.size)
    (HC : Calls Try.prog 25 #[.pointer (some ⟨h, 0, none⟩), .int .i64 p.n] (((w.alloc (.cells #[.int .i64 p.on, .int .i64 p.call, .int .i64 p.vk, .int .i64 p.vn, .int .i64 p.xk, .int .i64 p.xn, .int .i64 p.i, .int .i64 p.n, .slice a L c] 38)).alloc (.cells (saidC 0 0 false) 58)).alloc (.cells (saidC 0 0 false) 58)) fun e w' => e = .returned (.bool ok) ∧ P w')
    (hP : ∀ w', P w' → Fr F (((w.alloc (.cells #[.int .i64 p.on, .int .i64 p.call, .int .i64 p.vk, .int .i64 p.vn, .int .i64 p.xk, .int .i64 p.xn, .int .i64 p.i, .int .i64 p.n, .slice a L c] 38)).alloc (.cells (saidC 0 0 false) 58)).alloc (.cells (saidC 0 0 false) 58)) w') (hQ : ∀ w3 w', P w3 → Fr (fun q => q = w.heap.size + 1 ∨ q = w.heap.size + 2) w3 w' → Q w') :
    Calls Try.prog 44 #[.pointer (some ⟨h, 0, none⟩), .int .i64 0, .agg (opC p)] w fun e w' => e = .returned (.agg (saidC 0 0 ok)) ∧ Q w' := by
  unfold opC
  rw [hlv]
  have hz2 : ((w.alloc (.cells #[.int .i64 p.on, .int .i64 p.call, .int .i64 p.vk, .int .i64 p.vn, .int .i64 p.xk, .int .i64 p.xn, .int .i64 p.i, .int .i64 p.n, .slice a L c] 38)).alloc (.cells (saidC 0 0 false) 58)).heap.size = w.heap.size + 2 := by simp
  have hz1 : (w.alloc (.cells #[.int .i64 p.on, .int .i64 p.call, .int .i64 p.vk, .int .i64 p.vn, .int .i64 p.xk, .int .i64 p.xn, .int .i64 p.i, .int .i64 p.n, .slice a L c] 38)).heap.size = w.heap.size + 1 := by simp
  have S2 := Said.new ((w.alloc (.cells #[.int .i64 p.on, .int .i64 p.call, .int .i64 p.vk, .int .i64 p.vn, .int .i64 p.xk, .int .i64 p.xn, .int .i64 p.i, .int .i64 p.n, .slice a L c] 38)).alloc (.cells (saidC 0 0 false) 58)) 0 0 false 58
  have S1 := (Said.new (w.alloc (.cells #[.int .i64 p.on, .int .i64 p.call, .int .i64 p.vk, .int .i64 p.vn, .int .i64 p.xk, .int .i64 p.xn, .int .i64 p.i, .int .i64 p.n, .slice a L c] 38)) 0 0 false 58).fr ((Fr.refl (fun _ => False) _).alloc (.cells (saidC 0 0 false) 58)) (fun e => e)
  rw [hz2] at S2
  rw [hz1] at S1
  have HS1 := hide S1
  have HS2 := hide S2
  have HCC := hide HC
  have HPP := hide hP
  have HQQ := hide hQ
  have HFF := hide hF
  clear S1 S2 HC hP hQ hF hlv hz1 hz2
  unfold saidC at HCC
  go_enter Try.func44, Try.ntmps44
  go_wp2_with fail
  refine (unhide HCC).mono ?_
  rintro e1 w3 ⟨rfl, hp3⟩
  have f3 := unhide HPP w3 hp3
  have hSD := (unhide HS2).fr f3 (fun e => by have := unhide HFF _ e; omega)
  have hSR := (unhide HS1).fr f3 (fun e => by have := unhide HFF _ e; omega)
  have hq2 : w.heap.size + 2 < w3.heap.size := World.block_lt_of_cell? _ _ (hSD.1 0 (by omega))
  have hq1 : w.heap.size + 1 < w3.heap.size := by omega
  have sf := hSD.2
  have s0 := hSD.1 0 (by omega)
  have s1 := hSD.1 1 (by omega)
  have s2 := hSD.1 2 (by omega)
  have s3 := hSD.1 3 (by omega)
  have s4 := hSD.1 4 (by omega)
  have s5 := hSD.1 5 (by omega)
  have s6 := hSD.1 6 (by omega)
  have s7 := hSD.1 7 (by omega)
  have s8 := hSD.1 8 (by omega)
  have s9 := hSD.1 9 (by omega)
  have s10 := hSD.1 10 (by omega)
  have s11 := hSD.1 11 (by omega)
  simp only [saidL, List.getElem_cons_zero, List.getElem_cons_succ] at s0 s1 s2 s3 s4 s5 s6 s7 s8 s9 s10 s11
  have rf := hSR.2
  have r0 := hSR.1 0 (by omega)
  have r1 := hSR.1 1 (by omega)
  have r2 := hSR.1 2 (by omega)
  have r3 := hSR.1 3 (by omega)
  have r4 := hSR.1 4 (by omega)
  have r5 := hSR.1 5 (by omega)
  have r6 := hSR.1 6 (by omega)
  have r7 := hSR.1 7 (by omega)
  have r8 := hSR.1 8 (by omega)
  have r9 := hSR.1 9 (by omega)
  have r10 := hSR.1 10 (by omega)
  have r11 := hSR.1 11 (by omega)
  simp only [saidL, List.getElem_cons_zero, List.getElem_cons_succ] at r0 r1 r2 r3 r4 r5 r6 r7 r8 r9 r10 r11
  have hSDh := hide hSD
  have hSRh := hide hSR
  have HP3 := hide hp3
  clear hSD hSR hp3 f3
  go_wp2_with fail
  have fq : Fr (fun q => q = w.heap.size + 2) w3 ((w3.setCell ⟨w.heap.size + 2, 4, none⟩ (.bool ok))) := ((Fr.refl (fun q => q = w.heap.size + 2) w3).setCell ⟨w.heap.size + 2, 4, none⟩ (.inr rfl) _)
  have hSR2 := (unhide hSRh).fr fq (by omega)
  obtain ⟨hZ, fz⟩ := hSR2.set (k' := 0) (n' := 0) (ok' := ok)
  have hf : Fr (fun q => q = w.heap.size + 1 ∨ q = w.heap.size + 2) w3 (((w3.setCell ⟨w.heap.size + 2, 4, none⟩ (.bool ok))).setCells (w.heap.size + 1) 0 (saidL 0 0 ok)) := (fq.mono (fun _ _ e => .inr e)).trans (fz.mono (fun _ _ e => .inl e))
  have hQ8 := hide (unhide HQQ _ _ (unhide HP3) hf)
  show bodyPost Try.prog Try.f44 _ Exit.ret _ (((w3.setCell ⟨w.heap.size + 2, 4, none⟩ (.bool ok))).setCells (w.heap.size + 1) 0 (saidL 0 0 ok))
  clear fz hf fq hSR2 s0 r0 s1 r1 s2 r2 s3 r3 s4 r4 s5 r5 s6 r6 s7 r7 s8 r8 s9 r9 s10 r10 s11 r11 sf rf
  generalize ((w3.setCell ⟨w.heap.size + 2, 4, none⟩ (.bool ok))).setCells (w.heap.size + 1) 0 (saidL 0 0 ok) = W8 at *
  have z0 := hZ.1 0 (by omega)
  have z1 := hZ.1 1 (by omega)
  have z2 := hZ.1 2 (by omega)
  have z3 := hZ.1 3 (by omega)
  have z4 := hZ.1 4 (by omega)
  have z5 := hZ.1 5 (by omega)
  have z6 := hZ.1 6 (by omega)
  have z7 := hZ.1 7 (by omega)
  have z8 := hZ.1 8 (by omega)
  have z9 := hZ.1 9 (by omega)
  have z10 := hZ.1 10 (by omega)
  have z11 := hZ.1 11 (by omega)
  simp only [saidL, List.getElem_cons_zero, List.getElem_cons_succ] at z0 z1 z2 z3 z4 z5 z6 z7 z8 z9 z10 z11
  refine bodyPost_ret (v := .agg (saidC 0 0 ok)) (by simp [results, Try.results44, go_sem, saidC, z0, z1, z2, z3, z4, z5, z6, z7, z8, z9, z10, z11]) rfl ?_
  exact ⟨rfl, unhide hQ8⟩
end Go.Proofs.Ytkpngfahnpidkaa
