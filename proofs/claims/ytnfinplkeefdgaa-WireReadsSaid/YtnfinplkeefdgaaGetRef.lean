/-
  What the document answers to one call.
-/
import Derived.Test.YtnfinplkeefdgaaRefRaw
namespace Go.Proofs.Ytnfinplkeefdgaa
open Go.RowKit

theorem results_cell_one {fn : Func} {p : Tmp} {ty : TypeId} (h : fn.results = #[.cell p ty]) (tmps : Array Value) (P : Program) (w : World) :
    (results fn tmps).run P w = ((asAddr (tmps.getD p undef)).run P w).andThen fun a w₁ => (loadVar ty a).run P w₁ := by
  simp only [results, h]
  simp [Sem.run_bind, Result.andThen]

theorem RefR.alloc {w : World} {q qb : Nat} {v : Value} {B : List Int} {pl : Nat} {e : Int} (h : RefR w q qb v B pl e) (o : Obj) : RefR (w.alloc o) q qb v B pl e :=
  h.keep (S := fun _ => False) ((Fr.refl _ _).alloc o) (by simp) (by simp)
theorem ref_close {w w1 : World} {q qb : Nat} {v : Value} {B : List Int} {pl : Nat} {e1 : Int} (b : Nat) (x0 x1 x2 : Value) (hqb : qb < w.heap.size) (hq : q < w.heap.size) (hb : w.heap.size ≤ b) (h1 : RefR w1 q qb v B pl e1) (h2 : RFr q w w1) :
    RefR (((w1.setCell ⟨b, 0, none⟩ x0).setCell ⟨b, 1, none⟩ x1).setCell ⟨b, 2, none⟩ x2) q qb v B pl e1 ∧ RFr q w (((w1.setCell ⟨b, 0, none⟩ x0).setCell ⟨b, 1, none⟩ x1).setCell ⟨b, 2, none⟩ x2) := by
  have hF : Fr (fun k => k = b) w1 (((w1.setCell ⟨b, 0, none⟩ x0).setCell ⟨b, 1, none⟩ x1).setCell ⟨b, 2, none⟩ x2) :=
    Fr.setCell (S := fun k => k = b) (Fr.setCell (S := fun k => k = b) (Fr.setCell (S := fun k => k = b) (Fr.refl (fun k => k = b) w1) ⟨b, 0, none⟩ (.inr rfl) x0) ⟨b, 1, none⟩ (.inr rfl) x1) ⟨b, 2, none⟩ (.inr rfl) x2
  refine ⟨h1.keep hF (by omega) (fun k off len cap hv => ?_), Fr.setCell (Fr.setCell (Fr.setCell h2 ⟨b, 0, none⟩ (.inl hb) x0) ⟨b, 1, none⟩ (.inl hb) x1) ⟨b, 2, none⟩ (.inl hb) x2⟩
  have := h1.ap k off len cap hv
  omega
/-- What comes of one call of the document's reader. -/
def RGPost (q qb : Nat) (v : Value) (B : List Int) (w : World) (x : Int) (s : ByteArray) (n : Int) (left : List Int) (e0 : Int) (e : Ending) (w' : World) : Prop :=
  e = .returned (GotV x s n) ∧ ∃ pl, RefR w' q qb v B pl e0 ∧ B.drop pl = left ∧ RFr q w w'

set_option maxHeartbeats 800000 in
set_option maxRecDepth 100000 in
theorem getRef0 (q : Nat) {qb : Nat} (v : Value) (B : List Int) (pl : Nat) (left : List Int) (e0 e1 on n : Int) (b : Int) (hb : 0 ≤ b ∧ b < 256) (hres : rres (.int .u8 0) (gByte (B.drop pl)) (B.drop pl) e0 = (.int .u8 b, left, e1)) (w : World) (h : RefR w q qb v B pl e0) (hqb : qb < w.heap.size) (hN : B.length ≤ 140737488355328) :
    Calls Try.prog 36 #[.pointer (some ⟨q, 0, none⟩), GetV on 0 n] w fun e w' => RGPost q qb v B w b ByteArray.empty 0 left e1 e w' := by
  have hq := h.lt
  have hC := refByte_any q v B pl e0 ((w.alloc (.cells #[.int .i64 on, .int .i64 0, .int .i64 n] 57)).alloc (.cells #[.int .u64 0, .string ByteArray.empty, .int .i64 0] 59)) ((h.alloc _).alloc _) hN
  rw [hres] at hC
  have HC := hide hC
  have hdr : Hid (RFr q w ((w.alloc (.cells #[.int .i64 on, .int .i64 0, .int .i64 n] 57)).alloc (.cells #[.int .u64 0, .string ByteArray.empty, .int .i64 0] 59))) := RFr.alloc2 q w _ _
  clear h hC
  have hw := wrapU8 b hb.1 hb.2
  unfold GetV
  go_enter Try.func36, Try.ntmps36
  go_wp2_with fail
  refine (unhide HC).mono ?_
  rintro e w1 ⟨rfl, pl2, h1, hd, h2⟩
  have c0 : w1.cell? ⟨w.heap.size + 1, 0, none⟩ = some (.int .u64 0) := (Fr.cell h2 (a := ⟨w.heap.size + 1, 0, none⟩) (by simp) (by simp; omega)).trans (by simp)
  have c1 : w1.cell? ⟨w.heap.size + 1, 1, none⟩ = some (.string ByteArray.empty) := (Fr.cell h2 (a := ⟨w.heap.size + 1, 1, none⟩) (by simp) (by simp; omega)).trans (by simp)
  have c2 : w1.cell? ⟨w.heap.size + 1, 2, none⟩ = some (.int .i64 0) := (Fr.cell h2 (a := ⟨w.heap.size + 1, 2, none⟩) (by simp) (by simp; omega)).trans (by simp)
  have f0 : w1.frozen? ⟨w.heap.size + 1, 0, none⟩ = false := (Fr.frozen h2 (a := ⟨w.heap.size + 1, 0, none⟩) (by simp) (by simp; omega)).trans (by simp)
  have f1 : w1.frozen? ⟨w.heap.size + 1, 1, none⟩ = false := (Fr.frozen h2 (a := ⟨w.heap.size + 1, 1, none⟩) (by simp) (by simp; omega)).trans (by simp)
  have f2 : w1.frozen? ⟨w.heap.size + 1, 2, none⟩ = false := (Fr.frozen h2 (a := ⟨w.heap.size + 1, 2, none⟩) (by simp) (by simp; omega)).trans (by simp)
  have HH := hide (And.intro h1 ((unhide hdr).trans h2))
  have HD := hide hd
  clear h1 h2 hd
  go_wp2
  (try simp only [Exit.inBlock, Exit.then])
  obtain ⟨z1, z2⟩ := ref_close (w.heap.size + 1) (.int .u64 b) (.string ByteArray.empty) (.int .i64 0) hqb hq (by omega) (unhide HH).1 (unhide HH).2
  refine bodyPost_ret (v := GotV b ByteArray.empty 0) ?_ rfl ⟨rfl, pl2, z1, unhide HD, z2⟩
  rw [results_cell_one rfl]
  unfold GotV
  go_simp
  all_goals rfl

set_option maxHeartbeats 800000 in
set_option maxRecDepth 100000 in
theorem getRef1 (q : Nat) {qb : Nat} (v : Value) (B : List Int) (pl : Nat) (left : List Int) (e0 e1 on n : Int) (x : Int) (hres : rres (.int .u64 0) (gNum (fun x => .int .u64 x) (unum 0 0 (B.drop pl))) (B.drop pl) e0 = (.int .u64 x, left, e1)) (hB : BOk B) (w : World) (h : RefR w q qb v B pl e0) (hqb : qb < w.heap.size) (hN : B.length ≤ 140737488355328) :
    Calls Try.prog 36 #[.pointer (some ⟨q, 0, none⟩), GetV on 1 n] w fun e w' => RGPost q qb v B w x ByteArray.empty 0 left e1 e w' := by
  have hq := h.lt
  have hC := refUint_any q v B pl e0 ((w.alloc (.cells #[.int .i64 on, .int .i64 1, .int .i64 n] 57)).alloc (.cells #[.int .u64 0, .string ByteArray.empty, .int .i64 0] 59)) ((h.alloc _).alloc _) hB hN
  rw [hres] at hC
  have HC := hide hC
  have hdr : Hid (RFr q w ((w.alloc (.cells #[.int .i64 on, .int .i64 1, .int .i64 n] 57)).alloc (.cells #[.int .u64 0, .string ByteArray.empty, .int .i64 0] 59))) := RFr.alloc2 q w _ _
  clear h hC
  unfold GetV
  go_enter Try.func36, Try.ntmps36
  go_wp2_with fail
  refine (unhide HC).mono ?_
  rintro e w1 ⟨rfl, pl2, h1, hd, h2⟩
  have c0 : w1.cell? ⟨w.heap.size + 1, 0, none⟩ = some (.int .u64 0) := (Fr.cell h2 (a := ⟨w.heap.size + 1, 0, none⟩) (by simp) (by simp; omega)).trans (by simp)
  have c1 : w1.cell? ⟨w.heap.size + 1, 1, none⟩ = some (.string ByteArray.empty) := (Fr.cell h2 (a := ⟨w.heap.size + 1, 1, none⟩) (by simp) (by simp; omega)).trans (by simp)
  have c2 : w1.cell? ⟨w.heap.size + 1, 2, none⟩ = some (.int .i64 0) := (Fr.cell h2 (a := ⟨w.heap.size + 1, 2, none⟩) (by simp) (by simp; omega)).trans (by simp)
  have f0 : w1.frozen? ⟨w.heap.size + 1, 0, none⟩ = false := (Fr.frozen h2 (a := ⟨w.heap.size + 1, 0, none⟩) (by simp) (by simp; omega)).trans (by simp)
  have f1 : w1.frozen? ⟨w.heap.size + 1, 1, none⟩ = false := (Fr.frozen h2 (a := ⟨w.heap.size + 1, 1, none⟩) (by simp) (by simp; omega)).trans (by simp)
  have f2 : w1.frozen? ⟨w.heap.size + 1, 2, none⟩ = false := (Fr.frozen h2 (a := ⟨w.heap.size + 1, 2, none⟩) (by simp) (by simp; omega)).trans (by simp)
  have HH := hide (And.intro h1 ((unhide hdr).trans h2))
  have HD := hide hd
  clear h1 h2 hd
  go_wp2
  (try simp only [Exit.inBlock, Exit.then])
  obtain ⟨z1, z2⟩ := ref_close (w.heap.size + 1) (.int .u64 x) (.string ByteArray.empty) (.int .i64 0) hqb hq (by omega) (unhide HH).1 (unhide HH).2
  refine bodyPost_ret (v := GotV x ByteArray.empty 0) ?_ rfl ⟨rfl, pl2, z1, unhide HD, z2⟩
  rw [results_cell_one rfl]
  unfold GotV
  go_simp
  all_goals rfl

set_option maxHeartbeats 800000 in
set_option maxRecDepth 100000 in
theorem getRef2 (q : Nat) {qb : Nat} (v : Value) (B : List Int) (pl : Nat) (left : List Int) (e0 e1 on n : Int) (x : Int) (hres : rres (.int .i64 0) (gNum (fun x => .int .i64 (unfoldI x)) (unum 0 0 (B.drop pl))) (B.drop pl) e0 = (.int .i64 x, left, e1)) (hB : BOk B) (w : World) (h : RefR w q qb v B pl e0) (hqb : qb < w.heap.size) (hN : B.length ≤ 140737488355328) :
    Calls Try.prog 36 #[.pointer (some ⟨q, 0, none⟩), GetV on 2 n] w fun e w' => RGPost q qb v B w (IntKind.u64.wrap x) ByteArray.empty 0 left e1 e w' := by
  have hq := h.lt
  have hC := refInt_any q v B pl e0 ((w.alloc (.cells #[.int .i64 on, .int .i64 2, .int .i64 n] 57)).alloc (.cells #[.int .u64 0, .string ByteArray.empty, .int .i64 0] 59)) ((h.alloc _).alloc _) hB hN
  rw [hres] at hC
  have HC := hide hC
  have hdr : Hid (RFr q w ((w.alloc (.cells #[.int .i64 on, .int .i64 2, .int .i64 n] 57)).alloc (.cells #[.int .u64 0, .string ByteArray.empty, .int .i64 0] 59))) := RFr.alloc2 q w _ _
  clear h hC
  unfold GetV
  go_enter Try.func36, Try.ntmps36
  go_wp2_with fail
  refine (unhide HC).mono ?_
  rintro e w1 ⟨rfl, pl2, h1, hd, h2⟩
  have c0 : w1.cell? ⟨w.heap.size + 1, 0, none⟩ = some (.int .u64 0) := (Fr.cell h2 (a := ⟨w.heap.size + 1, 0, none⟩) (by simp) (by simp; omega)).trans (by simp)
  have c1 : w1.cell? ⟨w.heap.size + 1, 1, none⟩ = some (.string ByteArray.empty) := (Fr.cell h2 (a := ⟨w.heap.size + 1, 1, none⟩) (by simp) (by simp; omega)).trans (by simp)
  have c2 : w1.cell? ⟨w.heap.size + 1, 2, none⟩ = some (.int .i64 0) := (Fr.cell h2 (a := ⟨w.heap.size + 1, 2, none⟩) (by simp) (by simp; omega)).trans (by simp)
  have f0 : w1.frozen? ⟨w.heap.size + 1, 0, none⟩ = false := (Fr.frozen h2 (a := ⟨w.heap.size + 1, 0, none⟩) (by simp) (by simp; omega)).trans (by simp)
  have f1 : w1.frozen? ⟨w.heap.size + 1, 1, none⟩ = false := (Fr.frozen h2 (a := ⟨w.heap.size + 1, 1, none⟩) (by simp) (by simp; omega)).trans (by simp)
  have f2 : w1.frozen? ⟨w.heap.size + 1, 2, none⟩ = false := (Fr.frozen h2 (a := ⟨w.heap.size + 1, 2, none⟩) (by simp) (by simp; omega)).trans (by simp)
  have HH := hide (And.intro h1 ((unhide hdr).trans h2))
  have HD := hide hd
  clear h1 h2 hd
  go_wp2
  (try simp only [Exit.inBlock, Exit.then])
  obtain ⟨z1, z2⟩ := ref_close (w.heap.size + 1) (.int .u64 (IntKind.u64.wrap x)) (.string ByteArray.empty) (.int .i64 0) hqb hq (by omega) (unhide HH).1 (unhide HH).2
  refine bodyPost_ret (v := GotV (IntKind.u64.wrap x) ByteArray.empty 0) ?_ rfl ⟨rfl, pl2, z1, unhide HD, z2⟩
  rw [results_cell_one rfl]
  unfold GotV
  go_simp
  all_goals rfl

set_option maxHeartbeats 800000 in
set_option maxRecDepth 100000 in
theorem getRef3 (q : Nat) {qb : Nat} (v : Value) (B : List Int) (pl : Nat) (left : List Int) (e0 e1 on n : Int) (x : Int) (hres : rres (.int .u64 0) (gWord (B.drop pl)) (B.drop pl) e0 = (.int .u64 x, left, e1)) (hB : BOk B) (w : World) (h : RefR w q qb v B pl e0) (hqb : qb < w.heap.size) (hN : B.length ≤ 140737488355328) :
    Calls Try.prog 36 #[.pointer (some ⟨q, 0, none⟩), GetV on 3 n] w fun e w' => RGPost q qb v B w x ByteArray.empty 0 left e1 e w' := by
  have hq := h.lt
  have hC := refWord_any q v B pl e0 ((w.alloc (.cells #[.int .i64 on, .int .i64 3, .int .i64 n] 57)).alloc (.cells #[.int .u64 0, .string ByteArray.empty, .int .i64 0] 59)) ((h.alloc _).alloc _) hB hN
  rw [hres] at hC
  have HC := hide hC
  have hdr : Hid (RFr q w ((w.alloc (.cells #[.int .i64 on, .int .i64 3, .int .i64 n] 57)).alloc (.cells #[.int .u64 0, .string ByteArray.empty, .int .i64 0] 59))) := RFr.alloc2 q w _ _
  clear h hC
  unfold GetV
  go_enter Try.func36, Try.ntmps36
  go_wp2_with fail
  refine (unhide HC).mono ?_
  rintro e w1 ⟨rfl, pl2, h1, hd, h2⟩
  have c0 : w1.cell? ⟨w.heap.size + 1, 0, none⟩ = some (.int .u64 0) := (Fr.cell h2 (a := ⟨w.heap.size + 1, 0, none⟩) (by simp) (by simp; omega)).trans (by simp)
  have c1 : w1.cell? ⟨w.heap.size + 1, 1, none⟩ = some (.string ByteArray.empty) := (Fr.cell h2 (a := ⟨w.heap.size + 1, 1, none⟩) (by simp) (by simp; omega)).trans (by simp)
  have c2 : w1.cell? ⟨w.heap.size + 1, 2, none⟩ = some (.int .i64 0) := (Fr.cell h2 (a := ⟨w.heap.size + 1, 2, none⟩) (by simp) (by simp; omega)).trans (by simp)
  have f0 : w1.frozen? ⟨w.heap.size + 1, 0, none⟩ = false := (Fr.frozen h2 (a := ⟨w.heap.size + 1, 0, none⟩) (by simp) (by simp; omega)).trans (by simp)
  have f1 : w1.frozen? ⟨w.heap.size + 1, 1, none⟩ = false := (Fr.frozen h2 (a := ⟨w.heap.size + 1, 1, none⟩) (by simp) (by simp; omega)).trans (by simp)
  have f2 : w1.frozen? ⟨w.heap.size + 1, 2, none⟩ = false := (Fr.frozen h2 (a := ⟨w.heap.size + 1, 2, none⟩) (by simp) (by simp; omega)).trans (by simp)
  have HH := hide (And.intro h1 ((unhide hdr).trans h2))
  have HD := hide hd
  clear h1 h2 hd
  go_wp2
  (try simp only [Exit.inBlock, Exit.then])
  obtain ⟨z1, z2⟩ := ref_close (w.heap.size + 1) (.int .u64 x) (.string ByteArray.empty) (.int .i64 0) hqb hq (by omega) (unhide HH).1 (unhide HH).2
  refine bodyPost_ret (v := GotV x ByteArray.empty 0) ?_ rfl ⟨rfl, pl2, z1, unhide HD, z2⟩
  rw [results_cell_one rfl]
  unfold GotV
  go_simp
  all_goals rfl

set_option maxHeartbeats 800000 in
set_option maxRecDepth 100000 in
theorem getRef4 (q : Nat) {qb : Nat} (v : Value) (B : List Int) (pl : Nat) (left : List Int) (e0 e1 on n : Int) (s : ByteArray) (hres : rres (.string ByteArray.empty) (gText n (B.drop pl)) (B.drop pl) e0 = (.string s, left, e1)) (hB : BOk B) (hn : n ≤ 9223372036854775807) (w : World) (h : RefR w q qb v B pl e0) (hqb : qb < w.heap.size) (hN : B.length ≤ 140737488355328) :
    Calls Try.prog 36 #[.pointer (some ⟨q, 0, none⟩), GetV on 4 n] w fun e w' => RGPost q qb v B w 0 s 0 left e1 e w' := by
  have hq := h.lt
  have hC := refText_any q v B pl e0 n ((w.alloc (.cells #[.int .i64 on, .int .i64 4, .int .i64 n] 57)).alloc (.cells #[.int .u64 0, .string ByteArray.empty, .int .i64 0] 59)) ((h.alloc _).alloc _) hB hN hn
  rw [hres] at hC
  have HC := hide hC
  have hdr : Hid (RFr q w ((w.alloc (.cells #[.int .i64 on, .int .i64 4, .int .i64 n] 57)).alloc (.cells #[.int .u64 0, .string ByteArray.empty, .int .i64 0] 59))) := RFr.alloc2 q w _ _
  clear h hC
  unfold GetV
  go_enter Try.func36, Try.ntmps36
  go_wp2_with fail
  refine (unhide HC).mono ?_
  rintro e w1 ⟨rfl, pl2, h1, hd, h2⟩
  have c0 : w1.cell? ⟨w.heap.size + 1, 0, none⟩ = some (.int .u64 0) := (Fr.cell h2 (a := ⟨w.heap.size + 1, 0, none⟩) (by simp) (by simp; omega)).trans (by simp)
  have c1 : w1.cell? ⟨w.heap.size + 1, 1, none⟩ = some (.string ByteArray.empty) := (Fr.cell h2 (a := ⟨w.heap.size + 1, 1, none⟩) (by simp) (by simp; omega)).trans (by simp)
  have c2 : w1.cell? ⟨w.heap.size + 1, 2, none⟩ = some (.int .i64 0) := (Fr.cell h2 (a := ⟨w.heap.size + 1, 2, none⟩) (by simp) (by simp; omega)).trans (by simp)
  have f0 : w1.frozen? ⟨w.heap.size + 1, 0, none⟩ = false := (Fr.frozen h2 (a := ⟨w.heap.size + 1, 0, none⟩) (by simp) (by simp; omega)).trans (by simp)
  have f1 : w1.frozen? ⟨w.heap.size + 1, 1, none⟩ = false := (Fr.frozen h2 (a := ⟨w.heap.size + 1, 1, none⟩) (by simp) (by simp; omega)).trans (by simp)
  have f2 : w1.frozen? ⟨w.heap.size + 1, 2, none⟩ = false := (Fr.frozen h2 (a := ⟨w.heap.size + 1, 2, none⟩) (by simp) (by simp; omega)).trans (by simp)
  have HH := hide (And.intro h1 ((unhide hdr).trans h2))
  have HD := hide hd
  clear h1 h2 hd
  go_wp2
  (try simp only [Exit.inBlock, Exit.then])
  obtain ⟨z1, z2⟩ := ref_close (w.heap.size + 1) (.int .u64 0) (.string s) (.int .i64 0) hqb hq (by omega) (unhide HH).1 (unhide HH).2
  refine bodyPost_ret (v := GotV 0 s 0) ?_ rfl ⟨rfl, pl2, z1, unhide HD, z2⟩
  rw [results_cell_one rfl]
  unfold GotV
  go_simp
  all_goals rfl

set_option maxHeartbeats 800000 in
set_option maxRecDepth 100000 in
theorem getRef6 (q : Nat) {qb : Nat} (v : Value) (B : List Int) (pl : Nat) (left : List Int) (e0 e1 on n : Int) (x : Int) (hres : rres (.int .i64 0) (gNum (fun x => .int .i64 x) (unumMost n (B.drop pl))) (B.drop pl) e0 = (.int .i64 x, left, e1)) (hB : BOk B) (hn : n ≤ 9223372036854775807) (w : World) (h : RefR w q qb v B pl e0) (hqb : qb < w.heap.size) (hN : B.length ≤ 140737488355328) :
    Calls Try.prog 36 #[.pointer (some ⟨q, 0, none⟩), GetV on 6 n] w fun e w' => RGPost q qb v B w (IntKind.u64.wrap x) ByteArray.empty 0 left e1 e w' := by
  have hq := h.lt
  have hC := refCount_any q v B pl e0 n ((w.alloc (.cells #[.int .i64 on, .int .i64 6, .int .i64 n] 57)).alloc (.cells #[.int .u64 0, .string ByteArray.empty, .int .i64 0] 59)) ((h.alloc _).alloc _) hB hN hn
  rw [hres] at hC
  have HC := hide hC
  have hdr : Hid (RFr q w ((w.alloc (.cells #[.int .i64 on, .int .i64 6, .int .i64 n] 57)).alloc (.cells #[.int .u64 0, .string ByteArray.empty, .int .i64 0] 59))) := RFr.alloc2 q w _ _
  clear h hC
  unfold GetV
  go_enter Try.func36, Try.ntmps36
  go_wp2_with fail
  refine (unhide HC).mono ?_
  rintro e w1 ⟨rfl, pl2, h1, hd, h2⟩
  have c0 : w1.cell? ⟨w.heap.size + 1, 0, none⟩ = some (.int .u64 0) := (Fr.cell h2 (a := ⟨w.heap.size + 1, 0, none⟩) (by simp) (by simp; omega)).trans (by simp)
  have c1 : w1.cell? ⟨w.heap.size + 1, 1, none⟩ = some (.string ByteArray.empty) := (Fr.cell h2 (a := ⟨w.heap.size + 1, 1, none⟩) (by simp) (by simp; omega)).trans (by simp)
  have c2 : w1.cell? ⟨w.heap.size + 1, 2, none⟩ = some (.int .i64 0) := (Fr.cell h2 (a := ⟨w.heap.size + 1, 2, none⟩) (by simp) (by simp; omega)).trans (by simp)
  have f0 : w1.frozen? ⟨w.heap.size + 1, 0, none⟩ = false := (Fr.frozen h2 (a := ⟨w.heap.size + 1, 0, none⟩) (by simp) (by simp; omega)).trans (by simp)
  have f1 : w1.frozen? ⟨w.heap.size + 1, 1, none⟩ = false := (Fr.frozen h2 (a := ⟨w.heap.size + 1, 1, none⟩) (by simp) (by simp; omega)).trans (by simp)
  have f2 : w1.frozen? ⟨w.heap.size + 1, 2, none⟩ = false := (Fr.frozen h2 (a := ⟨w.heap.size + 1, 2, none⟩) (by simp) (by simp; omega)).trans (by simp)
  have HH := hide (And.intro h1 ((unhide hdr).trans h2))
  have HD := hide hd
  clear h1 h2 hd
  go_wp2
  (try simp only [Exit.inBlock, Exit.then])
  obtain ⟨z1, z2⟩ := ref_close (w.heap.size + 1) (.int .u64 (IntKind.u64.wrap x)) (.string ByteArray.empty) (.int .i64 0) hqb hq (by omega) (unhide HH).1 (unhide HH).2
  refine bodyPost_ret (v := GotV (IntKind.u64.wrap x) ByteArray.empty 0) ?_ rfl ⟨rfl, pl2, z1, unhide HD, z2⟩
  rw [results_cell_one rfl]
  unfold GotV
  go_simp
  all_goals rfl

set_option maxHeartbeats 800000 in
set_option maxRecDepth 100000 in
theorem getRef5bad (q : Nat) {qb : Nat} (v : Value) (B : List Int) (pl : Nat) (e0 on n : Int) (w : World) (h : RefR w q qb v B pl e0) (hqb : qb < w.heap.size) (hN : B.length ≤ 140737488355328) (hbad : e0 ≠ 0 ∨ n < 0 ∨ ((B.drop pl).length : Int) < n) :
    Calls Try.prog 36 #[.pointer (some ⟨q, 0, none⟩), GetV on 5 n] w fun e w' => RGPost q qb v B w 0 ByteArray.empty 0 (B.drop pl) (rawErr n e0) e w' := by
  have hq := h.lt
  have HC := hide (refRaw_bad q v B pl e0 n ((w.alloc (.cells #[.int .i64 on, .int .i64 5, .int .i64 n] 57)).alloc (.cells #[.int .u64 0, .string ByteArray.empty, .int .i64 0] 59)) ((h.alloc _).alloc _) hN hbad)
  have hdr : Hid (RFr q w ((w.alloc (.cells #[.int .i64 on, .int .i64 5, .int .i64 n] 57)).alloc (.cells #[.int .u64 0, .string ByteArray.empty, .int .i64 0] 59))) := RFr.alloc2 q w _ _
  obtain ⟨e1, he1⟩ : ∃ e1, Hid (rawErr n e0 = e1) := ⟨_, rfl⟩
  rw [unhide he1] at HC ⊢
  clear h hbad
  unfold GetV
  go_enter Try.func36, Try.ntmps36
  go_wp2_with fail
  refine (unhide HC).mono ?_
  rintro e w1 ⟨rfl, pl2, h1, hd, h2⟩
  have c0 : w1.cell? ⟨w.heap.size + 1, 0, none⟩ = some (.int .u64 0) := (Fr.cell h2 (a := ⟨w.heap.size + 1, 0, none⟩) (by simp) (by simp; omega)).trans (by simp)
  have c1 : w1.cell? ⟨w.heap.size + 1, 1, none⟩ = some (.string ByteArray.empty) := (Fr.cell h2 (a := ⟨w.heap.size + 1, 1, none⟩) (by simp) (by simp; omega)).trans (by simp)
  have c2 : w1.cell? ⟨w.heap.size + 1, 2, none⟩ = some (.int .i64 0) := (Fr.cell h2 (a := ⟨w.heap.size + 1, 2, none⟩) (by simp) (by simp; omega)).trans (by simp)
  have f0 : w1.frozen? ⟨w.heap.size + 1, 0, none⟩ = false := (Fr.frozen h2 (a := ⟨w.heap.size + 1, 0, none⟩) (by simp) (by simp; omega)).trans (by simp)
  have f1 : w1.frozen? ⟨w.heap.size + 1, 1, none⟩ = false := (Fr.frozen h2 (a := ⟨w.heap.size + 1, 1, none⟩) (by simp) (by simp; omega)).trans (by simp)
  have f2 : w1.frozen? ⟨w.heap.size + 1, 2, none⟩ = false := (Fr.frozen h2 (a := ⟨w.heap.size + 1, 2, none⟩) (by simp) (by simp; omega)).trans (by simp)
  have hcv := str_conv w1 (.slice none 0 0) [] (.inl ⟨rfl, rfl⟩) (by intro b hb; simp at hb)
  rw [show toStr [] = ByteArray.empty from rfl] at hcv
  have HH := hide (And.intro h1 ((unhide hdr).trans h2))
  have HD := hide hd
  clear h1 h2 hd
  dsimp only
  go_wp2
  (try simp only [Exit.inBlock, Exit.then])
  obtain ⟨z1, z2⟩ := ref_close (w.heap.size + 1) (.int .u64 0) (.string ByteArray.empty) (.int .i64 0) hqb hq (by omega) (unhide HH).1 (unhide HH).2
  refine bodyPost_ret (v := GotV 0 ByteArray.empty 0) ?_ rfl ⟨rfl, pl2, z1, unhide HD, z2⟩
  rw [results_cell_one rfl]
  unfold GotV
  go_simp
  all_goals rfl

set_option maxHeartbeats 800000 in
set_option maxRecDepth 100000 in
theorem getRef5good (q : Nat) {qb : Nat} (v : Value) (B : List Int) (pl m : Nat) (on : Int) (w : World) (h : RefR w q qb v B pl 0) (hqb : qb < w.heap.size) (hB : BOk B) (hN : B.length ≤ 140737488355328) (hm : pl + m ≤ B.length) :
    Calls Try.prog 36 #[.pointer (some ⟨q, 0, none⟩), GetV on 5 (m : Int)] w fun e w' => RGPost q qb v B w 0 (toStr ((B.drop pl).take m)) 0 (B.drop (pl + m)) 0 e w' := by
  have hq := h.lt
  have HC := hide (refRaw_good q v B pl m ((w.alloc (.cells #[.int .i64 on, .int .i64 5, .int .i64 (m : Int)] 57)).alloc (.cells #[.int .u64 0, .string ByteArray.empty, .int .i64 0] 59)) ((h.alloc _).alloc _) hN hm)
  have hdr : Hid (RFr q w ((w.alloc (.cells #[.int .i64 on, .int .i64 5, .int .i64 (m : Int)] 57)).alloc (.cells #[.int .u64 0, .string ByteArray.empty, .int .i64 0] 59))) := RFr.alloc2 q w _ _
  obtain ⟨s, hs⟩ : ∃ s, Hid (toStr ((B.drop pl).take m) = s) := ⟨_, rfl⟩
  have hlen : ((B.drop pl).take m).length = m := by rw [List.length_take, List.length_drop]; omega
  have HLen := hide hlen
  rw [unhide hs]
  clear h hlen
  unfold GetV
  go_enter Try.func36, Try.ntmps36
  go_wp2_with fail
  refine (unhide HC).mono ?_
  rintro e w1 ⟨val, rfl, ho, h1, h2⟩
  have c0 : w1.cell? ⟨w.heap.size + 1, 0, none⟩ = some (.int .u64 0) := (Fr.cell h2 (a := ⟨w.heap.size + 1, 0, none⟩) (by simp) (by simp; omega)).trans (by simp)
  have c1 : w1.cell? ⟨w.heap.size + 1, 1, none⟩ = some (.string ByteArray.empty) := (Fr.cell h2 (a := ⟨w.heap.size + 1, 1, none⟩) (by simp) (by simp; omega)).trans (by simp)
  have c2 : w1.cell? ⟨w.heap.size + 1, 2, none⟩ = some (.int .i64 0) := (Fr.cell h2 (a := ⟨w.heap.size + 1, 2, none⟩) (by simp) (by simp; omega)).trans (by simp)
  have f0 : w1.frozen? ⟨w.heap.size + 1, 0, none⟩ = false := (Fr.frozen h2 (a := ⟨w.heap.size + 1, 0, none⟩) (by simp) (by simp; omega)).trans (by simp)
  have f1 : w1.frozen? ⟨w.heap.size + 1, 1, none⟩ = false := (Fr.frozen h2 (a := ⟨w.heap.size + 1, 1, none⟩) (by simp) (by simp; omega)).trans (by simp)
  have f2 : w1.frozen? ⟨w.heap.size + 1, 2, none⟩ = false := (Fr.frozen h2 (a := ⟨w.heap.size + 1, 2, none⟩) (by simp) (by simp; omega)).trans (by simp)
  have hcv := str_conv w1 val ((B.drop pl).take m) (Rd.of_own (by rw [unhide HLen]; exact ho)) ((hB.drop pl).take m)
  rw [unhide hs] at hcv
  have HH := hide (And.intro h1 ((unhide hdr).trans h2))
  clear h1 h2 ho
  go_wp2
  (try simp only [Exit.inBlock, Exit.then])
  obtain ⟨z1, z2⟩ := ref_close (w.heap.size + 1) (.int .u64 0) (.string s) (.int .i64 0) hqb hq (by omega) (unhide HH).1 (unhide HH).2
  refine bodyPost_ret (v := GotV 0 s 0) ?_ rfl ⟨rfl, pl + m, z1, rfl, z2⟩
  rw [results_cell_one rfl]
  unfold GotV
  go_simp
  all_goals rfl

end Go.Proofs.Ytnfinplkeefdgaa
