/-
  One call of a reader, and what it answered.
-/
import Derived.Test.YtnfinplkeefdgaaBackMath2
namespace Go.Proofs.Ytnfinplkeefdgaa
open Go.RowKit

/-- What was stored into a new block changes no reader. -/
theorem got_close {w w1 : World} {r rb : Nat} {v2 : Value} {left : List Int} {e1 : Int} (b : Nat) (x0 x1 x2 : Value) (hrb : rb < w.heap.size) (hr : r < w.heap.size) (hb : w.heap.size ≤ b) (h1 : Rdr w1 r rb v2 left e1) (h2 : RFr r w w1) :
    Rdr (((w1.setCell ⟨b, 0, none⟩ x0).setCell ⟨b, 1, none⟩ x1).setCell ⟨b, 2, none⟩ x2) r rb v2 left e1 ∧ RFr r w (((w1.setCell ⟨b, 0, none⟩ x0).setCell ⟨b, 1, none⟩ x1).setCell ⟨b, 2, none⟩ x2) := by
  have hF : Fr (fun k => k = b) w1 (((w1.setCell ⟨b, 0, none⟩ x0).setCell ⟨b, 1, none⟩ x1).setCell ⟨b, 2, none⟩ x2) :=
    Fr.setCell (S := fun k => k = b) (Fr.setCell (S := fun k => k = b) (Fr.setCell (S := fun k => k = b) (Fr.refl (fun k => k = b) w1) ⟨b, 0, none⟩ (.inr rfl) x0) ⟨b, 1, none⟩ (.inr rfl) x1) ⟨b, 2, none⟩ (.inr rfl) x2
  refine ⟨h1.keep hF (by omega) (fun k off len cap hv => ?_), Fr.setCell (Fr.setCell (Fr.setCell h2 ⟨b, 0, none⟩ (.inl hb) x0) ⟨b, 1, none⟩ (.inl hb) x1) ⟨b, 2, none⟩ (.inl hb) x2⟩
  have := h1.ap k off len cap hv
  omega

def GetV (on kind n : Int) : Value := .agg #[.int .i64 on, .int .i64 kind, .int .i64 n]
def GotV (x : Int) (s : ByteArray) (e : Int) : Value := .agg #[.int .u64 x, .string s, .int .i64 e]
/-- What comes of one call: the answer, what is left to read, the error. -/
def GPost (r rb : Nat) (w : World) (x : Int) (s : ByteArray) (n : Int) (l : Value) (left : List Int) (e0 : Int) (e : Ending) (w' : World) : Prop :=
  e = .returned (.tuple #[GotV x s n, l]) ∧ ∃ v2, Rdr w' r rb v2 left e0 ∧ RFr r w w'
theorem wrapU8 (b : Int) (h : 0 ≤ b) (h2 : b < 256) : IntKind.u64.wrap b = b := by simp [IntKind.wrap, IntKind.signed, IntKind.bits]; omega

set_option maxHeartbeats 800000 in
set_option maxRecDepth 100000 in
theorem get0 (r : Nat) {rb : Nat} (v : Value) (bs left : List Int) (e0 e1 on n : Int) (b : Int) (hb : 0 ≤ b ∧ b < 256) (hres : rres (.int .u8 0) (gByte bs) bs e0 = (.int .u8 b, left, e1)) (w : World) (h : Rdr w r rb v bs e0) (hrb : rb < w.heap.size) :
    Calls Try.prog 32 #[.pointer (some ⟨r, 0, none⟩), GetV on 0 n] w fun e w' => GPost r rb w b ByteArray.empty 0 (.slice none 0 0) left e1 e w' := by
  have hr := h.lt
  have hC := rByte_any r v bs e0 ((w.alloc (.cells #[.int .i64 on, .int .i64 0, .int .i64 n] 57)).alloc (.cells #[.int .u64 0, .string ByteArray.empty, .int .i64 0] 59)) ((h.alloc _).alloc _)
  rw [hres] at hC
  have HC := hide hC
  have hdr : Hid (RFr r w ((w.alloc (.cells #[.int .i64 on, .int .i64 0, .int .i64 n] 57)).alloc (.cells #[.int .u64 0, .string ByteArray.empty, .int .i64 0] 59))) := RFr.alloc2 r w _ _
  clear h hC
  have hw := wrapU8 b hb.1 hb.2
  unfold GetV
  go_enter Try.func32, Try.ntmps32
  go_wp2_with fail
  refine (unhide HC).mono ?_
  rintro e w1 ⟨rfl, v2, h1, h2⟩
  have c0 : w1.cell? ⟨w.heap.size + 1, 0, none⟩ = some (.int .u64 0) := (Fr.cell h2 (a := ⟨w.heap.size + 1, 0, none⟩) (by simp) (by simp; omega)).trans (by simp)
  have c1 : w1.cell? ⟨w.heap.size + 1, 1, none⟩ = some (.string ByteArray.empty) := (Fr.cell h2 (a := ⟨w.heap.size + 1, 1, none⟩) (by simp) (by simp; omega)).trans (by simp)
  have c2 : w1.cell? ⟨w.heap.size + 1, 2, none⟩ = some (.int .i64 0) := (Fr.cell h2 (a := ⟨w.heap.size + 1, 2, none⟩) (by simp) (by simp; omega)).trans (by simp)
  have f0 : w1.frozen? ⟨w.heap.size + 1, 0, none⟩ = false := (Fr.frozen h2 (a := ⟨w.heap.size + 1, 0, none⟩) (by simp) (by simp; omega)).trans (by simp)
  have f1 : w1.frozen? ⟨w.heap.size + 1, 1, none⟩ = false := (Fr.frozen h2 (a := ⟨w.heap.size + 1, 1, none⟩) (by simp) (by simp; omega)).trans (by simp)
  have f2 : w1.frozen? ⟨w.heap.size + 1, 2, none⟩ = false := (Fr.frozen h2 (a := ⟨w.heap.size + 1, 2, none⟩) (by simp) (by simp; omega)).trans (by simp)
  have HH := hide (And.intro h1 ((unhide hdr).trans h2))
  clear h1 h2
  go_wp2
  (try simp only [Exit.inBlock, Exit.then])
  refine bodyPost_ret (v := .tuple #[GotV b ByteArray.empty 0, .slice none 0 0]) ?_ rfl ⟨rfl, v2, got_close (w.heap.size + 1) _ _ _ hrb hr (by omega) (unhide HH).1 (unhide HH).2⟩
  rw [results_cell_tmp rfl]
  unfold GotV
  go_simp
  all_goals rfl
set_option maxHeartbeats 800000 in
set_option maxRecDepth 100000 in
theorem get1 (r : Nat) {rb : Nat} (v : Value) (bs left : List Int) (e0 e1 on n : Int) (x : Int) (hres : rres (.int .u64 0) (gNum (fun x => .int .u64 x) (unum 0 0 bs)) bs e0 = (.int .u64 x, left, e1)) (hB : BOk bs) (w : World) (h : Rdr w r rb v bs e0) (hrb : rb < w.heap.size) :
    Calls Try.prog 32 #[.pointer (some ⟨r, 0, none⟩), GetV on 1 n] w fun e w' => GPost r rb w x ByteArray.empty 0 (.slice none 0 0) left e1 e w' := by
  have hr := h.lt
  have hC := rUint_any r v bs e0 ((w.alloc (.cells #[.int .i64 on, .int .i64 1, .int .i64 n] 57)).alloc (.cells #[.int .u64 0, .string ByteArray.empty, .int .i64 0] 59)) ((h.alloc _).alloc _) hB
  rw [hres] at hC
  have HC := hide hC
  have hdr : Hid (RFr r w ((w.alloc (.cells #[.int .i64 on, .int .i64 1, .int .i64 n] 57)).alloc (.cells #[.int .u64 0, .string ByteArray.empty, .int .i64 0] 59))) := RFr.alloc2 r w _ _
  clear h hC
  unfold GetV
  go_enter Try.func32, Try.ntmps32
  go_wp2_with fail
  refine (unhide HC).mono ?_
  rintro e w1 ⟨rfl, v2, h1, h2⟩
  have c0 : w1.cell? ⟨w.heap.size + 1, 0, none⟩ = some (.int .u64 0) := (Fr.cell h2 (a := ⟨w.heap.size + 1, 0, none⟩) (by simp) (by simp; omega)).trans (by simp)
  have c1 : w1.cell? ⟨w.heap.size + 1, 1, none⟩ = some (.string ByteArray.empty) := (Fr.cell h2 (a := ⟨w.heap.size + 1, 1, none⟩) (by simp) (by simp; omega)).trans (by simp)
  have c2 : w1.cell? ⟨w.heap.size + 1, 2, none⟩ = some (.int .i64 0) := (Fr.cell h2 (a := ⟨w.heap.size + 1, 2, none⟩) (by simp) (by simp; omega)).trans (by simp)
  have f0 : w1.frozen? ⟨w.heap.size + 1, 0, none⟩ = false := (Fr.frozen h2 (a := ⟨w.heap.size + 1, 0, none⟩) (by simp) (by simp; omega)).trans (by simp)
  have f1 : w1.frozen? ⟨w.heap.size + 1, 1, none⟩ = false := (Fr.frozen h2 (a := ⟨w.heap.size + 1, 1, none⟩) (by simp) (by simp; omega)).trans (by simp)
  have f2 : w1.frozen? ⟨w.heap.size + 1, 2, none⟩ = false := (Fr.frozen h2 (a := ⟨w.heap.size + 1, 2, none⟩) (by simp) (by simp; omega)).trans (by simp)
  have HH := hide (And.intro h1 ((unhide hdr).trans h2))
  clear h1 h2
  go_wp2
  (try simp only [Exit.inBlock, Exit.then])
  refine bodyPost_ret (v := .tuple #[GotV x ByteArray.empty 0, .slice none 0 0]) ?_ rfl ⟨rfl, v2, got_close (w.heap.size + 1) _ _ _ hrb hr (by omega) (unhide HH).1 (unhide HH).2⟩
  rw [results_cell_tmp rfl]
  unfold GotV
  go_simp
  all_goals rfl
set_option maxHeartbeats 800000 in
set_option maxRecDepth 100000 in
theorem get2 (r : Nat) {rb : Nat} (v : Value) (bs left : List Int) (e0 e1 on n : Int) (x : Int) (hres : rres (.int .i64 0) (gNum (fun x => .int .i64 (unfoldI x)) (unum 0 0 bs)) bs e0 = (.int .i64 x, left, e1)) (hB : BOk bs) (w : World) (h : Rdr w r rb v bs e0) (hrb : rb < w.heap.size) :
    Calls Try.prog 32 #[.pointer (some ⟨r, 0, none⟩), GetV on 2 n] w fun e w' => GPost r rb w (IntKind.u64.wrap x) ByteArray.empty 0 (.slice none 0 0) left e1 e w' := by
  have hr := h.lt
  have hC := rInt_any r v bs e0 ((w.alloc (.cells #[.int .i64 on, .int .i64 2, .int .i64 n] 57)).alloc (.cells #[.int .u64 0, .string ByteArray.empty, .int .i64 0] 59)) ((h.alloc _).alloc _) hB
  rw [hres] at hC
  have HC := hide hC
  have hdr : Hid (RFr r w ((w.alloc (.cells #[.int .i64 on, .int .i64 2, .int .i64 n] 57)).alloc (.cells #[.int .u64 0, .string ByteArray.empty, .int .i64 0] 59))) := RFr.alloc2 r w _ _
  clear h hC
  unfold GetV
  go_enter Try.func32, Try.ntmps32
  go_wp2_with fail
  refine (unhide HC).mono ?_
  rintro e w1 ⟨rfl, v2, h1, h2⟩
  have c0 : w1.cell? ⟨w.heap.size + 1, 0, none⟩ = some (.int .u64 0) := (Fr.cell h2 (a := ⟨w.heap.size + 1, 0, none⟩) (by simp) (by simp; omega)).trans (by simp)
  have c1 : w1.cell? ⟨w.heap.size + 1, 1, none⟩ = some (.string ByteArray.empty) := (Fr.cell h2 (a := ⟨w.heap.size + 1, 1, none⟩) (by simp) (by simp; omega)).trans (by simp)
  have c2 : w1.cell? ⟨w.heap.size + 1, 2, none⟩ = some (.int .i64 0) := (Fr.cell h2 (a := ⟨w.heap.size + 1, 2, none⟩) (by simp) (by simp; omega)).trans (by simp)
  have f0 : w1.frozen? ⟨w.heap.size + 1, 0, none⟩ = false := (Fr.frozen h2 (a := ⟨w.heap.size + 1, 0, none⟩) (by simp) (by simp; omega)).trans (by simp)
  have f1 : w1.frozen? ⟨w.heap.size + 1, 1, none⟩ = false := (Fr.frozen h2 (a := ⟨w.heap.size + 1, 1, none⟩) (by simp) (by simp; omega)).trans (by simp)
  have f2 : w1.frozen? ⟨w.heap.size + 1, 2, none⟩ = false := (Fr.frozen h2 (a := ⟨w.heap.size + 1, 2, none⟩) (by simp) (by simp; omega)).trans (by simp)
  have HH := hide (And.intro h1 ((unhide hdr).trans h2))
  clear h1 h2
  go_wp2
  (try simp only [Exit.inBlock, Exit.then])
  refine bodyPost_ret (v := .tuple #[GotV (IntKind.u64.wrap x) ByteArray.empty 0, .slice none 0 0]) ?_ rfl ⟨rfl, v2, got_close (w.heap.size + 1) _ _ _ hrb hr (by omega) (unhide HH).1 (unhide HH).2⟩
  rw [results_cell_tmp rfl]
  unfold GotV
  go_simp
  all_goals rfl
set_option maxHeartbeats 800000 in
set_option maxRecDepth 100000 in
theorem get3 (r : Nat) {rb : Nat} (v : Value) (bs left : List Int) (e0 e1 on n : Int) (x : Int) (hres : rres (.int .u64 0) (gWord bs) bs e0 = (.int .u64 x, left, e1)) (hB : BOk bs) (w : World) (h : Rdr w r rb v bs e0) (hrb : rb < w.heap.size) :
    Calls Try.prog 32 #[.pointer (some ⟨r, 0, none⟩), GetV on 3 n] w fun e w' => GPost r rb w x ByteArray.empty 0 (.slice none 0 0) left e1 e w' := by
  have hr := h.lt
  have hC := rWord_any r v bs e0 ((w.alloc (.cells #[.int .i64 on, .int .i64 3, .int .i64 n] 57)).alloc (.cells #[.int .u64 0, .string ByteArray.empty, .int .i64 0] 59)) ((h.alloc _).alloc _) hB
  rw [hres] at hC
  have HC := hide hC
  have hdr : Hid (RFr r w ((w.alloc (.cells #[.int .i64 on, .int .i64 3, .int .i64 n] 57)).alloc (.cells #[.int .u64 0, .string ByteArray.empty, .int .i64 0] 59))) := RFr.alloc2 r w _ _
  clear h hC
  unfold GetV
  go_enter Try.func32, Try.ntmps32
  go_wp2_with fail
  refine (unhide HC).mono ?_
  rintro e w1 ⟨rfl, v2, h1, h2⟩
  have c0 : w1.cell? ⟨w.heap.size + 1, 0, none⟩ = some (.int .u64 0) := (Fr.cell h2 (a := ⟨w.heap.size + 1, 0, none⟩) (by simp) (by simp; omega)).trans (by simp)
  have c1 : w1.cell? ⟨w.heap.size + 1, 1, none⟩ = some (.string ByteArray.empty) := (Fr.cell h2 (a := ⟨w.heap.size + 1, 1, none⟩) (by simp) (by simp; omega)).trans (by simp)
  have c2 : w1.cell? ⟨w.heap.size + 1, 2, none⟩ = some (.int .i64 0) := (Fr.cell h2 (a := ⟨w.heap.size + 1, 2, none⟩) (by simp) (by simp; omega)).trans (by simp)
  have f0 : w1.frozen? ⟨w.heap.size + 1, 0, none⟩ = false := (Fr.frozen h2 (a := ⟨w.heap.size + 1, 0, none⟩) (by simp) (by simp; omega)).trans (by simp)
  have f1 : w1.frozen? ⟨w.heap.size + 1, 1, none⟩ = false := (Fr.frozen h2 (a := ⟨w.heap.size + 1, 1, none⟩) (by simp) (by simp; omega)).trans (by simp)
  have f2 : w1.frozen? ⟨w.heap.size + 1, 2, none⟩ = false := (Fr.frozen h2 (a := ⟨w.heap.size + 1, 2, none⟩) (by simp) (by simp; omega)).trans (by simp)
  have HH := hide (And.intro h1 ((unhide hdr).trans h2))
  clear h1 h2
  go_wp2
  (try simp only [Exit.inBlock, Exit.then])
  refine bodyPost_ret (v := .tuple #[GotV x ByteArray.empty 0, .slice none 0 0]) ?_ rfl ⟨rfl, v2, got_close (w.heap.size + 1) _ _ _ hrb hr (by omega) (unhide HH).1 (unhide HH).2⟩
  rw [results_cell_tmp rfl]
  unfold GotV
  go_simp
  all_goals rfl
set_option maxHeartbeats 800000 in
set_option maxRecDepth 100000 in
theorem get4 (r : Nat) {rb : Nat} (v : Value) (bs left : List Int) (e0 e1 on n : Int) (s : ByteArray) (hres : rres (.string ByteArray.empty) (gText n bs) bs e0 = (.string s, left, e1)) (hB : BOk bs) (hn : n ≤ 9223372036854775807) (w : World) (h : Rdr w r rb v bs e0) (hrb : rb < w.heap.size) :
    Calls Try.prog 32 #[.pointer (some ⟨r, 0, none⟩), GetV on 4 n] w fun e w' => GPost r rb w 0 s 0 (.slice none 0 0) left e1 e w' := by
  have hr := h.lt
  have hC := rText_any r v bs e0 n ((w.alloc (.cells #[.int .i64 on, .int .i64 4, .int .i64 n] 57)).alloc (.cells #[.int .u64 0, .string ByteArray.empty, .int .i64 0] 59)) ((h.alloc _).alloc _) hB hn
  rw [hres] at hC
  have HC := hide hC
  have hdr : Hid (RFr r w ((w.alloc (.cells #[.int .i64 on, .int .i64 4, .int .i64 n] 57)).alloc (.cells #[.int .u64 0, .string ByteArray.empty, .int .i64 0] 59))) := RFr.alloc2 r w _ _
  clear h hC
  unfold GetV
  go_enter Try.func32, Try.ntmps32
  go_wp2_with fail
  refine (unhide HC).mono ?_
  rintro e w1 ⟨rfl, v2, h1, h2⟩
  have c0 : w1.cell? ⟨w.heap.size + 1, 0, none⟩ = some (.int .u64 0) := (Fr.cell h2 (a := ⟨w.heap.size + 1, 0, none⟩) (by simp) (by simp; omega)).trans (by simp)
  have c1 : w1.cell? ⟨w.heap.size + 1, 1, none⟩ = some (.string ByteArray.empty) := (Fr.cell h2 (a := ⟨w.heap.size + 1, 1, none⟩) (by simp) (by simp; omega)).trans (by simp)
  have c2 : w1.cell? ⟨w.heap.size + 1, 2, none⟩ = some (.int .i64 0) := (Fr.cell h2 (a := ⟨w.heap.size + 1, 2, none⟩) (by simp) (by simp; omega)).trans (by simp)
  have f0 : w1.frozen? ⟨w.heap.size + 1, 0, none⟩ = false := (Fr.frozen h2 (a := ⟨w.heap.size + 1, 0, none⟩) (by simp) (by simp; omega)).trans (by simp)
  have f1 : w1.frozen? ⟨w.heap.size + 1, 1, none⟩ = false := (Fr.frozen h2 (a := ⟨w.heap.size + 1, 1, none⟩) (by simp) (by simp; omega)).trans (by simp)
  have f2 : w1.frozen? ⟨w.heap.size + 1, 2, none⟩ = false := (Fr.frozen h2 (a := ⟨w.heap.size + 1, 2, none⟩) (by simp) (by simp; omega)).trans (by simp)
  have HH := hide (And.intro h1 ((unhide hdr).trans h2))
  clear h1 h2
  go_wp2
  (try simp only [Exit.inBlock, Exit.then])
  refine bodyPost_ret (v := .tuple #[GotV 0 s 0, .slice none 0 0]) ?_ rfl ⟨rfl, v2, got_close (w.heap.size + 1) _ _ _ hrb hr (by omega) (unhide HH).1 (unhide HH).2⟩
  rw [results_cell_tmp rfl]
  unfold GotV
  go_simp
  all_goals rfl
set_option maxHeartbeats 800000 in
set_option maxRecDepth 100000 in
theorem get6 (r : Nat) {rb : Nat} (v : Value) (bs left : List Int) (e0 e1 on n : Int) (x : Int) (hres : rres (.int .i64 0) (gNum (fun x => .int .i64 x) (unumMost n bs)) bs e0 = (.int .i64 x, left, e1)) (hB : BOk bs) (hn : n ≤ 9223372036854775807) (w : World) (h : Rdr w r rb v bs e0) (hrb : rb < w.heap.size) :
    Calls Try.prog 32 #[.pointer (some ⟨r, 0, none⟩), GetV on 6 n] w fun e w' => GPost r rb w (IntKind.u64.wrap x) ByteArray.empty 0 (.slice none 0 0) left e1 e w' := by
  have hr := h.lt
  have hC := rCount_any r v bs e0 n ((w.alloc (.cells #[.int .i64 on, .int .i64 6, .int .i64 n] 57)).alloc (.cells #[.int .u64 0, .string ByteArray.empty, .int .i64 0] 59)) ((h.alloc _).alloc _) hB hn
  rw [hres] at hC
  have HC := hide hC
  have hdr : Hid (RFr r w ((w.alloc (.cells #[.int .i64 on, .int .i64 6, .int .i64 n] 57)).alloc (.cells #[.int .u64 0, .string ByteArray.empty, .int .i64 0] 59))) := RFr.alloc2 r w _ _
  clear h hC
  unfold GetV
  go_enter Try.func32, Try.ntmps32
  go_wp2_with fail
  refine (unhide HC).mono ?_
  rintro e w1 ⟨rfl, v2, h1, h2⟩
  have c0 : w1.cell? ⟨w.heap.size + 1, 0, none⟩ = some (.int .u64 0) := (Fr.cell h2 (a := ⟨w.heap.size + 1, 0, none⟩) (by simp) (by simp; omega)).trans (by simp)
  have c1 : w1.cell? ⟨w.heap.size + 1, 1, none⟩ = some (.string ByteArray.empty) := (Fr.cell h2 (a := ⟨w.heap.size + 1, 1, none⟩) (by simp) (by simp; omega)).trans (by simp)
  have c2 : w1.cell? ⟨w.heap.size + 1, 2, none⟩ = some (.int .i64 0) := (Fr.cell h2 (a := ⟨w.heap.size + 1, 2, none⟩) (by simp) (by simp; omega)).trans (by simp)
  have f0 : w1.frozen? ⟨w.heap.size + 1, 0, none⟩ = false := (Fr.frozen h2 (a := ⟨w.heap.size + 1, 0, none⟩) (by simp) (by simp; omega)).trans (by simp)
  have f1 : w1.frozen? ⟨w.heap.size + 1, 1, none⟩ = false := (Fr.frozen h2 (a := ⟨w.heap.size + 1, 1, none⟩) (by simp) (by simp; omega)).trans (by simp)
  have f2 : w1.frozen? ⟨w.heap.size + 1, 2, none⟩ = false := (Fr.frozen h2 (a := ⟨w.heap.size + 1, 2, none⟩) (by simp) (by simp; omega)).trans (by simp)
  have HH := hide (And.intro h1 ((unhide hdr).trans h2))
  clear h1 h2
  go_wp2
  (try simp only [Exit.inBlock, Exit.then])
  refine bodyPost_ret (v := .tuple #[GotV (IntKind.u64.wrap x) ByteArray.empty 0, .slice none 0 0]) ?_ rfl ⟨rfl, v2, got_close (w.heap.size + 1) _ _ _ hrb hr (by omega) (unhide HH).1 (unhide HH).2⟩
  rw [results_cell_tmp rfl]
  unfold GotV
  go_simp
  all_goals rfl
end Go.Proofs.Ytnfinplkeefdgaa
