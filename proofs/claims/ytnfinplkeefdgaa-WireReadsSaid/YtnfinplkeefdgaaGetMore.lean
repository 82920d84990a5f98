/-
  The calls that only ask: Left, Err, End.
-/
import Derived.Test.YtnfinplkeefdgaaGetRef
namespace Go.Proofs.Ytnfinplkeefdgaa
open Go.RowKit

theorem wrapUL (n : Nat) (h : n ≤ 140737488355328) : IntKind.u64.wrap (n : Int) = (n : Int) := wrapU n (by omega)
set_option maxHeartbeats 400000 in
set_option maxRecDepth 100000 in
theorem num_any (e0 : Int) (w : World) : Calls Try.prog 58 #[.int .i64 e0] w fun e w' => e = .returned (.int .i64 e0) ∧ w' = w := by
  go_enter Try.func58, Try.ntmps58
  go_wp2
  go_ret
  exact ⟨rfl, rfl⟩

set_option maxHeartbeats 800000 in
set_option maxRecDepth 100000 in
theorem get7 (r : Nat) {rb : Nat} (v : Value) (bs : List Int) (e0 on n : Int) (w : World) (h : Rdr w r rb v bs e0) (hl : bs.length ≤ 140737488355328) :
    Calls Try.prog 32 #[.pointer (some ⟨r, 0, none⟩), GetV on 7 n] w fun e w' => GPost r rb w (bs.length : Int) ByteArray.empty 0 (.slice none 0 0) bs e0 e w' := by
  have hC := rLeft_any r v bs e0 ((w.alloc (.cells #[.int .i64 on, .int .i64 7, .int .i64 n] 57)).alloc (.cells #[.int .u64 0, .string ByteArray.empty, .int .i64 0] 59)) ((h.alloc _).alloc _)
  have hw := wrapUL bs.length hl
  have HC := hide hC
  clear hC
  have H := hide (fun o1 o2 => And.intro ((h.alloc o1).alloc o2) (RFr.alloc2 r w o1 o2))
  clear h
  unfold GetV
  go_enter Try.func32, Try.ntmps32
  go_wp2_with fail
  refine (unhide HC).mono ?_
  rintro e w1 ⟨rfl, hw1⟩
  rw [hw1]
  clear hw1 w1
  go_wp2
  (try simp only [Exit.inBlock, Exit.then])
  refine bodyPost_ret (v := .tuple #[GotV (bs.length : Int) ByteArray.empty 0, .slice none 0 0]) ?_ rfl ⟨rfl, v, (unhide H _ _).1, (unhide H _ _).2⟩
  rw [results_cell_tmp rfl]
  unfold GotV
  go_simp
  all_goals rfl

set_option maxHeartbeats 800000 in
set_option maxRecDepth 100000 in
theorem get8 (r : Nat) {rb : Nat} (v : Value) (bs : List Int) (e0 on n : Int) (w : World) (h : Rdr w r rb v bs e0) :
    Calls Try.prog 32 #[.pointer (some ⟨r, 0, none⟩), GetV on 8 n] w fun e w' => GPost r rb w 0 ByteArray.empty e0 (.slice none 0 0) bs e0 e w' := by
  have HC := hide (rErr_any r v bs e0 ((w.alloc (.cells #[.int .i64 on, .int .i64 8, .int .i64 n] 57)).alloc (.cells #[.int .u64 0, .string ByteArray.empty, .int .i64 0] 59)) ((h.alloc _).alloc _))
  have H := hide (fun o1 o2 => And.intro ((h.alloc o1).alloc o2) (RFr.alloc2 r w o1 o2))
  clear h
  unfold GetV
  go_enter Try.func32, Try.ntmps32
  go_wp2_with fail
  refine (unhide HC).mono ?_
  rintro e w1 ⟨rfl, hw1⟩
  rw [hw1]
  clear hw1 w1
  go_wp2_with fail
  refine (num_any _ _).mono ?_
  rintro e w1 ⟨rfl, hw1⟩
  rw [hw1]
  clear hw1 w1
  go_wp2
  (try simp only [Exit.inBlock, Exit.then])
  refine bodyPost_ret (v := .tuple #[GotV 0 ByteArray.empty e0, .slice none 0 0]) ?_ rfl ⟨rfl, v, (unhide H _ _).1, (unhide H _ _).2⟩
  rw [results_cell_tmp rfl]
  unfold GotV
  go_simp
  all_goals rfl

set_option maxHeartbeats 800000 in
set_option maxRecDepth 100000 in
theorem get9 (r : Nat) {rb : Nat} (v : Value) (bs : List Int) (e0 on n : Int) (kind : Int) (hk : kind < 0 ∨ 8 < kind) (w : World) (h : Rdr w r rb v bs e0) :
    Calls Try.prog 32 #[.pointer (some ⟨r, 0, none⟩), GetV on kind n] w fun e w' => GPost r rb w 0 ByteArray.empty (rEnd bs e0) (.slice none 0 0) bs e0 e w' := by
  have HC := hide (rEnd_any r v bs e0 ((w.alloc (.cells #[.int .i64 on, .int .i64 kind, .int .i64 n] 57)).alloc (.cells #[.int .u64 0, .string ByteArray.empty, .int .i64 0] 59)) ((h.alloc _).alloc _))
  have H := hide (fun o1 o2 => And.intro ((h.alloc o1).alloc o2) (RFr.alloc2 r w o1 o2))
  have q0 : (kind == 0) = false := by rw [beq_eq_false_iff_ne]; omega
  have q1 : (kind == 1) = false := by rw [beq_eq_false_iff_ne]; omega
  have q2 : (kind == 2) = false := by rw [beq_eq_false_iff_ne]; omega
  have q3 : (kind == 3) = false := by rw [beq_eq_false_iff_ne]; omega
  have q4 : (kind == 4) = false := by rw [beq_eq_false_iff_ne]; omega
  have q5 : (kind == 5) = false := by rw [beq_eq_false_iff_ne]; omega
  have q6 : (kind == 6) = false := by rw [beq_eq_false_iff_ne]; omega
  have q7 : (kind == 7) = false := by rw [beq_eq_false_iff_ne]; omega
  have q8 : (kind == 8) = false := by rw [beq_eq_false_iff_ne]; omega
  clear h
  unfold GetV
  go_enter Try.func32, Try.ntmps32
  go_wp2_with fail
  refine (unhide HC).mono ?_
  rintro e w1 ⟨rfl, hw1⟩
  rw [hw1]
  clear hw1 w1
  go_wp2_with fail
  refine (num_any _ _).mono ?_
  rintro e w1 ⟨rfl, hw1⟩
  rw [hw1]
  clear hw1 w1
  go_wp2
  (try simp only [Exit.inBlock, Exit.then])
  refine bodyPost_ret (v := .tuple #[GotV 0 ByteArray.empty (rEnd bs e0), .slice none 0 0]) ?_ rfl ⟨rfl, v, (unhide H _ _).1, (unhide H _ _).2⟩
  rw [results_cell_tmp rfl]
  unfold GotV
  go_simp
  all_goals rfl

set_option maxHeartbeats 800000 in
set_option maxRecDepth 100000 in
theorem getRef7 (q : Nat) {qb : Nat} (v : Value) (B : List Int) (pl : Nat) (e0 on n : Int) (w : World) (h : RefR w q qb v B pl e0) (hqb : qb < w.heap.size) (hN : B.length ≤ 140737488355328) :
    Calls Try.prog 36 #[.pointer (some ⟨q, 0, none⟩), GetV on 7 n] w fun e w' => RGPost q qb v B w ((B.drop pl).length : Int) ByteArray.empty 0 (B.drop pl) e0 e w' := by
  have hq := h.lt
  have hw := wrapUL (B.drop pl).length (by rw [List.length_drop]; omega)
  have HC := hide (refLeft_any q v B pl e0 ((w.alloc (.cells #[.int .i64 on, .int .i64 7, .int .i64 n] 57)).alloc (.cells #[.int .u64 0, .string ByteArray.empty, .int .i64 0] 59)) ((h.alloc _).alloc _) hN)
  have H := hide (fun o1 o2 n => And.intro (((h.alloc o1).alloc o2).drewN n) ((RFr.alloc2 q w o1 o2).trans (Fr.drewN n)))
  clear h
  unfold GetV
  go_enter Try.func36, Try.ntmps36
  go_wp2_with fail
  refine (unhide HC).mono ?_
  rintro e w1 ⟨rfl, nn, hw1⟩
  rw [hw1]
  clear hw1 w1
  go_wp2
  (try simp only [Exit.inBlock, Exit.then])
  refine bodyPost_ret (v := GotV ((B.drop pl).length : Int) ByteArray.empty 0) ?_ rfl ⟨rfl, pl, (ref_close (w.heap.size + 1) _ _ _ hqb hq (by omega) (unhide H _ _ nn).1 (unhide H _ _ nn).2).1, rfl, (ref_close (w.heap.size + 1) _ _ _ hqb hq (by omega) (unhide H _ _ nn).1 (unhide H _ _ nn).2).2⟩
  rw [results_cell_one rfl]
  unfold GotV
  go_simp
  all_goals rfl

set_option maxHeartbeats 800000 in
set_option maxRecDepth 100000 in
theorem getRef8 (q : Nat) {qb : Nat} (v : Value) (B : List Int) (pl : Nat) (e0 on n : Int) (w : World) (h : RefR w q qb v B pl e0) :
    Calls Try.prog 36 #[.pointer (some ⟨q, 0, none⟩), GetV on 8 n] w fun e w' => RGPost q qb v B w 0 ByteArray.empty e0 (B.drop pl) e0 e w' := by
  have c2 := fun o1 o2 => ((h.alloc o1).alloc o2).c2
  have H := hide (fun o1 o2 n => And.intro (((h.alloc o1).alloc o2).drewN n) ((RFr.alloc2 q w o1 o2).trans (Fr.drewN n)))
  clear h
  unfold GetV
  go_enter Try.func36, Try.ntmps36
  go_wp2
  (try simp only [Exit.inBlock, Exit.then])
  refine bodyPost_ret (v := GotV 0 ByteArray.empty e0) ?_ rfl ⟨rfl, pl, (unhide H _ _ 0).1, rfl, (unhide H _ _ 0).2⟩
  rw [results_cell_one rfl]
  unfold GotV
  go_simp
  all_goals rfl

set_option maxHeartbeats 800000 in
set_option maxRecDepth 100000 in
theorem getRef9 (q : Nat) {qb : Nat} (v : Value) (B : List Int) (pl : Nat) (e0 on n : Int) (kind : Int) (hk : kind < 0 ∨ 8 < kind) (w : World) (h : RefR w q qb v B pl e0) (hqb : qb < w.heap.size) :
    Calls Try.prog 36 #[.pointer (some ⟨q, 0, none⟩), GetV on kind n] w fun e w' => RGPost q qb v B w 0 ByteArray.empty (rEnd (B.drop pl) e0) (B.drop pl) e0 e w' := by
  have hq := h.lt
  have HC := hide (refEnd_any q v B pl e0 ((w.alloc (.cells #[.int .i64 on, .int .i64 kind, .int .i64 n] 57)).alloc (.cells #[.int .u64 0, .string ByteArray.empty, .int .i64 0] 59)) ((h.alloc _).alloc _))
  have H := hide (fun o1 o2 n => And.intro (((h.alloc o1).alloc o2).drewN n) ((RFr.alloc2 q w o1 o2).trans (Fr.drewN n)))
  have q0 : (kind == 0) = false := by rw [beq_eq_false_iff_ne]; omega
  have q1 : (kind == 1) = false := by rw [beq_eq_false_iff_ne]; omega
  have q2 : (kind == 2) = false := by rw [beq_eq_false_iff_ne]; omega
  have q3 : (kind == 3) = false := by rw [beq_eq_false_iff_ne]; omega
  have q4 : (kind == 4) = false := by rw [beq_eq_false_iff_ne]; omega
  have q5 : (kind == 5) = false := by rw [beq_eq_false_iff_ne]; omega
  have q6 : (kind == 6) = false := by rw [beq_eq_false_iff_ne]; omega
  have q7 : (kind == 7) = false := by rw [beq_eq_false_iff_ne]; omega
  have q8 : (kind == 8) = false := by rw [beq_eq_false_iff_ne]; omega
  clear h
  unfold GetV
  go_enter Try.func36, Try.ntmps36
  go_wp2_with fail
  refine (unhide HC).mono ?_
  rintro e w1 ⟨rfl, nn, hw1⟩
  rw [hw1]
  clear hw1 w1
  go_wp2
  (try simp only [Exit.inBlock, Exit.then])
  refine bodyPost_ret (v := GotV 0 ByteArray.empty (rEnd (B.drop pl) e0)) ?_ rfl ⟨rfl, pl, (ref_close (w.heap.size + 1) _ _ _ hqb hq (by omega) (unhide H _ _ nn).1 (unhide H _ _ nn).2).1, rfl, (ref_close (w.heap.size + 1) _ _ _ hqb hq (by omega) (unhide H _ _ nn).1 (unhide H _ _ nn).2).2⟩
  rw [results_cell_one rfl]
  unfold GotV
  go_simp
  all_goals rfl

end Go.Proofs.Ytnfinplkeefdgaa
