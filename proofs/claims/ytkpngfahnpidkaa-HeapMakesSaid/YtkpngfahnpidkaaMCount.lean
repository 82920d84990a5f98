/-
  The answers that are numbers.
-/
import Derived.Test.YtkpngfahnpidkaaMObj
import Derived.Test.YtkpngfahnpidkaaMSame
namespace Go.Proofs.Ytkpngfahnpidkaa
open Go.RowKit
set_option linter.unusedVariables false
set_option linter.unusedSimpArgs false

/-- An answer of numbers. -/
def SV.num (n t : Int) : SV := ⟨0, 0, n, t, false, 0, none, 0, 0, none, 0, 0, 0, 0, false⟩
set_option maxRecDepth 100000 in
set_option maxHeartbeats 6400000 in
theorem tell_counts {w : World} {h : Nat} {bud sp : Int} {rv : Value} {ds : List RD} (H : Rh w h bud sp rv ds) (p : OpD) {a : Option Addr} {L c : Nat} (hlv : p.lv = .slice a L c) :
    Calls Try.prog 29 #[.pointer (some ⟨h, 0, none⟩), .int .i64 1, .agg (opC p)] w fun e w' => e = .returned (.agg (saidV (SV.num (ds.length : Int) sp))) ∧ Below w.heap.size w w' := by
  unfold opC
  rw [hlv]
  have hz1 : (w.alloc (.cells #[.int .i64 p.on, .int .i64 p.call, .int .i64 p.vk, .int .i64 p.vn, .int .i64 p.xk, .int .i64 p.xn, .int .i64 p.i, .int .i64 p.n, .slice a L c] 38)).heap.size = w.heap.size + 1 := by simp
  have bA : Below w.heap.size w (((w.alloc (.cells #[.int .i64 p.on, .int .i64 p.call, .int .i64 p.vk, .int .i64 p.vn, .int .i64 p.xk, .int .i64 p.xn, .int .i64 p.i, .int .i64 p.n, .slice a L c] 38)).alloc (.cells #[.int .i64 0, .int .i64 0, .int .i64 0, .int .i64 0, .bool false, .int .i64 0, .slice none 0 0, .slice none 0 0, .int .i64 0, .int .i64 0, .bool false, .slice none 0 0] 58)).alloc (.cells #[.int .i64 0, .int .i64 0, .int .i64 0, .int .i64 0, .bool false, .int .i64 0, .slice none 0 0, .slice none 0 0, .int .i64 0, .int .i64 0, .bool false, .slice none 0 0] 58)) := (((Below.refl _ _).alloc (Nat.le_refl _) _).alloc (by simp) _).alloc (by simp; omega) _
  have bB : Below w.heap.size w (((w.alloc (.cells #[.int .i64 p.on, .int .i64 p.call, .int .i64 p.vk, .int .i64 p.vn, .int .i64 p.xk, .int .i64 p.xn, .int .i64 p.i, .int .i64 p.n, .slice a L c] 38)).alloc (.cells #[.int .i64 0, .int .i64 0, .int .i64 0, .int .i64 0, .bool false, .int .i64 0, .slice none 0 0, .slice none 0 0, .int .i64 0, .int .i64 0, .bool false, .slice none 0 0] 58)).alloc (.cells #[.int .i64 0, .int .i64 0, .int .i64 (ds.length : Int), .int .i64 0, .bool false, .int .i64 0, .slice none 0 0, .slice none 0 0, .int .i64 0, .int .i64 0, .bool false, .slice none 0 0] 58)) := (((Below.refl _ _).alloc (Nat.le_refl _) _).alloc (by simp) _).alloc (by simp; omega) _
  have bF : Below w.heap.size w (((w.alloc (.cells #[.int .i64 p.on, .int .i64 p.call, .int .i64 p.vk, .int .i64 p.vn, .int .i64 p.xk, .int .i64 p.xn, .int .i64 p.i, .int .i64 p.n, .slice a L c] 38)).alloc (.cells #[.int .i64 0, .int .i64 0, .int .i64 (ds.length : Int), .int .i64 sp, .bool false, .int .i64 0, .slice none 0 0, .slice none 0 0, .int .i64 0, .int .i64 0, .bool false, .slice none 0 0] 58)).alloc (.cells #[.int .i64 0, .int .i64 0, .int .i64 (ds.length : Int), .int .i64 sp, .bool false, .int .i64 0, .slice none 0 0, .slice none 0 0, .int .i64 0, .int .i64 0, .bool false, .slice none 0 0] 58)) := (((Below.refl _ _).alloc (Nat.le_refl _) _).alloc (by simp) _).alloc (by simp; omega) _
  have SF : SaidV (((w.alloc (.cells #[.int .i64 p.on, .int .i64 p.call, .int .i64 p.vk, .int .i64 p.vn, .int .i64 p.xk, .int .i64 p.xn, .int .i64 p.i, .int .i64 p.n, .slice a L c] 38)).alloc (.cells #[.int .i64 0, .int .i64 0, .int .i64 (ds.length : Int), .int .i64 sp, .bool false, .int .i64 0, .slice none 0 0, .slice none 0 0, .int .i64 0, .int .i64 0, .bool false, .slice none 0 0] 58)).alloc (.cells #[.int .i64 0, .int .i64 0, .int .i64 (ds.length : Int), .int .i64 sp, .bool false, .int .i64 0, .slice none 0 0, .slice none 0 0, .int .i64 0, .int .i64 0, .bool false, .slice none 0 0] 58)) (w.heap.size + 1) (SV.num (ds.length : Int) sp) := by
    have := (SaidV.new (w.alloc (.cells #[.int .i64 p.on, .int .i64 p.call, .int .i64 p.vk, .int .i64 p.vn, .int .i64 p.xk, .int .i64 p.xn, .int .i64 p.i, .int .i64 p.n, .slice a L c] 38)) (SV.num (ds.length : Int) sp) 58).fr ((Fr.refl (fun _ => False) _).alloc (.cells #[.int .i64 0, .int .i64 0, .int .i64 (ds.length : Int), .int .i64 sp, .bool false, .int .i64 0, .slice none 0 0, .slice none 0 0, .int .i64 0, .int .i64 0, .bool false, .slice none 0 0] 58)) (fun e => e)
    rw [hz1] at this
    exact this
  obtain ⟨ra, rc, re, _, rm⟩ := H.row.shape
  have q2 := (H.below bA).c2
  have q1 := (H.below bB).c1
  have hl := (H.below bA).rlt
  have hl2 := (H.below bB).rlt
  rw [re] at q2
  have HF := hide (And.intro bF SF)
  clear hz1 bA bB bF SF H hlv
  go_enter Try.func29, Try.ntmps29
  go_wp2_with fail
  clear q2 q1 hl hl2
  obtain ⟨bF, SF⟩ := unhide HF
  clear HF
  generalize (((w.alloc (.cells #[.int .i64 p.on, .int .i64 p.call, .int .i64 p.vk, .int .i64 p.vn, .int .i64 p.xk, .int .i64 p.xn, .int .i64 p.i, .int .i64 p.n, .slice a L c] 38)).alloc (.cells #[.int .i64 0, .int .i64 0, .int .i64 (ds.length : Int), .int .i64 sp, .bool false, .int .i64 0, .slice none 0 0, .slice none 0 0, .int .i64 0, .int .i64 0, .bool false, .slice none 0 0] 58)).alloc (.cells #[.int .i64 0, .int .i64 0, .int .i64 (ds.length : Int), .int .i64 sp, .bool false, .int .i64 0, .slice none 0 0, .slice none 0 0, .int .i64 0, .int .i64 0, .bool false, .slice none 0 0] 58)) = W8 at *
  have z0 := SF.1 0 (by omega)
  have z1 := SF.1 1 (by omega)
  have z2 := SF.1 2 (by omega)
  have z3 := SF.1 3 (by omega)
  have z4 := SF.1 4 (by omega)
  have z5 := SF.1 5 (by omega)
  have z6 := SF.1 6 (by omega)
  have z7 := SF.1 7 (by omega)
  have z8 := SF.1 8 (by omega)
  have z9 := SF.1 9 (by omega)
  have z10 := SF.1 10 (by omega)
  have z11 := SF.1 11 (by omega)
  simp only [saidL, saidLV, SV.num, List.getElem_cons_zero, List.getElem_cons_succ] at z0 z1 z2 z3 z4 z5 z6 z7 z8 z9 z10 z11
  refine bodyPost_ret (v := .agg (saidV (SV.num (ds.length : Int) sp))) (by simp [results, Try.results29, go_sem, saidV, SV.num, z0, z1, z2, z3, z4, z5, z6, z7, z8, z9, z10, z11]) rfl ?_
  exact ⟨rfl, bF⟩
set_option maxRecDepth 100000 in
set_option maxHeartbeats 6400000 in
theorem plain_counts {w : World} {h : Nat} {bud sp : Int} {ov : Value} {os : List OD} (H : Hp w h bud sp ov os) (p : OpD) {a : Option Addr} {L c : Nat} (hlv : p.lv = .slice a L c) :
    Calls Try.prog 44 #[.pointer (some ⟨h, 0, none⟩), .int .i64 1, .agg (opC p)] w fun e w' => e = .returned (.agg (saidV (SV.num (os.length : Int) sp))) ∧ Below w.heap.size w w' := by
  unfold opC
  rw [hlv]
  have hz1 : (w.alloc (.cells #[.int .i64 p.on, .int .i64 p.call, .int .i64 p.vk, .int .i64 p.vn, .int .i64 p.xk, .int .i64 p.xn, .int .i64 p.i, .int .i64 p.n, .slice a L c] 38)).heap.size = w.heap.size + 1 := by simp
  have bA : Below w.heap.size w (((w.alloc (.cells #[.int .i64 p.on, .int .i64 p.call, .int .i64 p.vk, .int .i64 p.vn, .int .i64 p.xk, .int .i64 p.xn, .int .i64 p.i, .int .i64 p.n, .slice a L c] 38)).alloc (.cells #[.int .i64 0, .int .i64 0, .int .i64 0, .int .i64 0, .bool false, .int .i64 0, .slice none 0 0, .slice none 0 0, .int .i64 0, .int .i64 0, .bool false, .slice none 0 0] 58)).alloc (.cells #[.int .i64 0, .int .i64 0, .int .i64 0, .int .i64 0, .bool false, .int .i64 0, .slice none 0 0, .slice none 0 0, .int .i64 0, .int .i64 0, .bool false, .slice none 0 0] 58)) := (((Below.refl _ _).alloc (Nat.le_refl _) _).alloc (by simp) _).alloc (by simp; omega) _
  have bB : Below w.heap.size w (((w.alloc (.cells #[.int .i64 p.on, .int .i64 p.call, .int .i64 p.vk, .int .i64 p.vn, .int .i64 p.xk, .int .i64 p.xn, .int .i64 p.i, .int .i64 p.n, .slice a L c] 38)).alloc (.cells #[.int .i64 0, .int .i64 0, .int .i64 0, .int .i64 0, .bool false, .int .i64 0, .slice none 0 0, .slice none 0 0, .int .i64 0, .int .i64 0, .bool false, .slice none 0 0] 58)).alloc (.cells #[.int .i64 0, .int .i64 0, .int .i64 (os.length : Int), .int .i64 0, .bool false, .int .i64 0, .slice none 0 0, .slice none 0 0, .int .i64 0, .int .i64 0, .bool false, .slice none 0 0] 58)) := (((Below.refl _ _).alloc (Nat.le_refl _) _).alloc (by simp) _).alloc (by simp; omega) _
  have bF : Below w.heap.size w (((w.alloc (.cells #[.int .i64 p.on, .int .i64 p.call, .int .i64 p.vk, .int .i64 p.vn, .int .i64 p.xk, .int .i64 p.xn, .int .i64 p.i, .int .i64 p.n, .slice a L c] 38)).alloc (.cells #[.int .i64 0, .int .i64 0, .int .i64 (os.length : Int), .int .i64 sp, .bool false, .int .i64 0, .slice none 0 0, .slice none 0 0, .int .i64 0, .int .i64 0, .bool false, .slice none 0 0] 58)).alloc (.cells #[.int .i64 0, .int .i64 0, .int .i64 (os.length : Int), .int .i64 sp, .bool false, .int .i64 0, .slice none 0 0, .slice none 0 0, .int .i64 0, .int .i64 0, .bool false, .slice none 0 0] 58)) := (((Below.refl _ _).alloc (Nat.le_refl _) _).alloc (by simp) _).alloc (by simp; omega) _
  have SF : SaidV (((w.alloc (.cells #[.int .i64 p.on, .int .i64 p.call, .int .i64 p.vk, .int .i64 p.vn, .int .i64 p.xk, .int .i64 p.xn, .int .i64 p.i, .int .i64 p.n, .slice a L c] 38)).alloc (.cells #[.int .i64 0, .int .i64 0, .int .i64 (os.length : Int), .int .i64 sp, .bool false, .int .i64 0, .slice none 0 0, .slice none 0 0, .int .i64 0, .int .i64 0, .bool false, .slice none 0 0] 58)).alloc (.cells #[.int .i64 0, .int .i64 0, .int .i64 (os.length : Int), .int .i64 sp, .bool false, .int .i64 0, .slice none 0 0, .slice none 0 0, .int .i64 0, .int .i64 0, .bool false, .slice none 0 0] 58)) (w.heap.size + 1) (SV.num (os.length : Int) sp) := by
    have := (SaidV.new (w.alloc (.cells #[.int .i64 p.on, .int .i64 p.call, .int .i64 p.vk, .int .i64 p.vn, .int .i64 p.xk, .int .i64 p.xn, .int .i64 p.i, .int .i64 p.n, .slice a L c] 38)) (SV.num (os.length : Int) sp) 58).fr ((Fr.refl (fun _ => False) _).alloc (.cells #[.int .i64 0, .int .i64 0, .int .i64 (os.length : Int), .int .i64 sp, .bool false, .int .i64 0, .slice none 0 0, .slice none 0 0, .int .i64 0, .int .i64 0, .bool false, .slice none 0 0] 58)) (fun e => e)
    rw [hz1] at this
    exact this
  have HL := hide (len_any (H.below bA))
  have HP := hide (spent_any (H.below bB))
  have hl := (H.below bA).hlt
  have hl2 := (H.below bB).hlt
  have HF := hide (And.intro bF SF)
  clear hz1 bA bB bF SF H hlv
  go_enter Try.func44, Try.ntmps44
  go_wp2_with fail
  refine (unhide HL).mono ?_
  rintro e1 w1 ⟨rfl, rfl⟩
  go_wp2_with fail
  refine (unhide HP).mono ?_
  rintro e2 w2 ⟨rfl, rfl⟩
  go_wp2_with fail
  clear hl hl2 HL HP
  obtain ⟨bF, SF⟩ := unhide HF
  clear HF
  generalize (((w.alloc (.cells #[.int .i64 p.on, .int .i64 p.call, .int .i64 p.vk, .int .i64 p.vn, .int .i64 p.xk, .int .i64 p.xn, .int .i64 p.i, .int .i64 p.n, .slice a L c] 38)).alloc (.cells #[.int .i64 0, .int .i64 0, .int .i64 (os.length : Int), .int .i64 sp, .bool false, .int .i64 0, .slice none 0 0, .slice none 0 0, .int .i64 0, .int .i64 0, .bool false, .slice none 0 0] 58)).alloc (.cells #[.int .i64 0, .int .i64 0, .int .i64 (os.length : Int), .int .i64 sp, .bool false, .int .i64 0, .slice none 0 0, .slice none 0 0, .int .i64 0, .int .i64 0, .bool false, .slice none 0 0] 58)) = W8 at *
  have z0 := SF.1 0 (by omega)
  have z1 := SF.1 1 (by omega)
  have z2 := SF.1 2 (by omega)
  have z3 := SF.1 3 (by omega)
  have z4 := SF.1 4 (by omega)
  have z5 := SF.1 5 (by omega)
  have z6 := SF.1 6 (by omega)
  have z7 := SF.1 7 (by omega)
  have z8 := SF.1 8 (by omega)
  have z9 := SF.1 9 (by omega)
  have z10 := SF.1 10 (by omega)
  have z11 := SF.1 11 (by omega)
  simp only [saidL, saidLV, SV.num, List.getElem_cons_zero, List.getElem_cons_succ] at z0 z1 z2 z3 z4 z5 z6 z7 z8 z9 z10 z11
  refine bodyPost_ret (v := .agg (saidV (SV.num (os.length : Int) sp))) (by simp [results, Try.results44, go_sem, saidV, SV.num, z0, z1, z2, z3, z4, z5, z6, z7, z8, z9, z10, z11]) rfl ?_
  exact ⟨rfl, bF⟩
end Go.Proofs.Ytkpngfahnpidkaa
