/-
  Atomics; a number put together with another; a spot with another.
-/
import Derived.Test.YtjjfpokmpcpicaaBk2
import Derived.Laws.LoneSync
import Derived.Laws.BitsAllLaws
import Derived.Shelf.Abstract
import Derived.Deep.RegionHeld3
namespace Go.Proofs.Ytjjfpokmpcpicaa
open Go.RowKit
set_option linter.unusedVariables false
set_option linter.unusedSimpArgs false
/-- sync/atomic.OrT: what both have is stored, what was there is handed back. -/
theorem run_call_or {P : Program} {f : Nat} {fn : Func} (hf : P.funcs[f]? = some fn) (hname : (fn.name == "runtime.NumGoroutine") = false) (hb : fn.body.isNone = true) (hn : Extern.findNext fn = none) (k : IntKind)
    (he : Extern.find fn = some (Extern.Atomic.update (Op.intBits .or) k false)) {a : Addr} {x y s : Int} {w : World} (hc : w.cell? a = some (.int k x)) (hz : w.frozen? a = false)
    (hs : (Op.intBits .or k x y).run P w = .ok (.int k s) w) :
    (callFunc f #[.pointer (some a), .int k y]).run P w = .ok (.value (.int k x)) (w.setCell a (.int k s)) := by
  rw [run_callFunc_extern hf hname hb hn he]
  change (Sem.run P (do
    let a' ← asAddr (.pointer (some a))
    let old ← Extern.Atomic.read (.int k) a'
    let new ← Op.intBits .or k (← asInt old) (← asInt (.int k y))
    store a' new .atomic
    pure (if false = true then new else old)) w).andThen _ = _
  simp [Extern.Atomic.read, asAddr, asInt, asIntOf, hc, hz, hs, run_store P w a (.int k s) .atomic rfl, Result.andThen]
set_option maxRecDepth 100000 in
theorem ld64_any {w : World} {b k : Nat} {x : Int} (hc : w.cell? ⟨b, k, none⟩ = some (.int .i64 x)) : Calls Try.prog 49 #[.pointer (some ⟨b, k, none⟩)] w fun e w' => e = .returned (.int .i64 x) ∧ w' = w := by
  have hl := run_call_load (P := Try.prog) Try.func63 (by kernel_rfl) (by kernel_rfl) (by kernel_rfl) .i64 (by kernel_rfl) hc
  go_enter Try.func49, Try.ntmps49
  go_wp2
  go_ret
  exact ⟨rfl, rfl⟩
set_option maxRecDepth 100000 in
theorem ld32_any {w : World} {b k : Nat} {x : Int} (hc : w.cell? ⟨b, k, none⟩ = some (.int .u32 x)) : Calls Try.prog 50 #[.pointer (some ⟨b, k, none⟩)] w fun e w' => e = .returned (.int .u32 x) ∧ w' = w := by
  have hl := run_call_load (P := Try.prog) Try.func64 (by kernel_rfl) (by kernel_rfl) (by kernel_rfl) .u32 (by kernel_rfl) hc
  go_enter Try.func50, Try.ntmps50
  go_wp2
  go_ret
  exact ⟨rfl, rfl⟩
set_option maxRecDepth 100000 in
theorem cas_any {w : World} {b k : Nat} {x : Int} (y : Int) (hc : w.cell? ⟨b, k, none⟩ = some (.int .i64 x)) (hz : w.frozen? ⟨b, k, none⟩ = false) : Calls Try.prog 58 #[.pointer (some ⟨b, k, none⟩), .int .i64 x, .int .i64 y] w fun e w' => e = .returned (.bool true) ∧ w' = w.setCell ⟨b, k, none⟩ (.int .i64 y) := by
  have hl := run_call_cas_hit (P := Try.prog) Try.func74 (by kernel_rfl) (by kernel_rfl) (by kernel_rfl) .i64 (by kernel_rfl) (y := y) hc hz
  go_enter Try.func58, Try.ntmps58
  go_wp2
  go_ret
  exact ⟨rfl, rfl⟩
theorem run_or32 (x y : Int) (w : World) : (Op.intBits .or .u32 x y).run Try.prog w = .ok (.int .u32 (bits .or .u32 x y)) w := by
  simp [go_sem]
set_option maxRecDepth 100000 in
theorem or_any {w : World} {b k : Nat} {x : Int} (y : Int) (hc : w.cell? ⟨b, k, none⟩ = some (.int .u32 x)) (hz : w.frozen? ⟨b, k, none⟩ = false) : Calls Try.prog 40 #[.pointer (some ⟨b, k, none⟩), .int .u32 y] w fun e w' => (∃ v, e = .returned v) ∧ w' = w.setCell ⟨b, k, none⟩ (.int .u32 (bits .or .u32 x y)) := by
  have hl := run_call_or (P := Try.prog) Try.func59 (by kernel_rfl) (by kernel_rfl) (by kernel_rfl) .u32 (by kernel_rfl) (y := y) hc hz (run_or32 x y w)
  obtain ⟨z, hz'⟩ : ∃ z, Hid (bits .or .u32 x y = z) := ⟨_, hide rfl⟩
  rw [unhide hz'] at hl ⊢
  go_enter Try.func40, Try.ntmps40
  go_wp2
  go_ret
  exact ⟨⟨_, rfl⟩, rfl⟩
set_option maxRecDepth 100000 in
set_option maxHeartbeats 1600000 in
theorem join_any {w : World} {b k : Nat} {x y z : Int} {g : Nat} (hc : w.cell? ⟨b, k, none⟩ = some (.int .i64 x)) (hz : w.frozen? ⟨b, k, none⟩ = false) (eg : ∀ args W, (callFunc g args).run Try.prog W = .ok (.enter g args) W)
    (hg : ∀ W, Calls Try.prog g #[.int .i64 x, .int .i64 y] W fun e w' => e = .returned (.int .i64 z) ∧ w' = W) :
    Calls Try.prog 38 #[.pointer (some ⟨b, k, none⟩), .int .i64 y, .func (.func g) #[] #[]] w fun e w' => e = .returned (.tuple #[]) ∧ w' = w.setCell ⟨b, k, none⟩ (.int .i64 z) := by
  have H1 := hide (ld64_any hc)
  have H2 := hide (cas_any z hc hz)
  have H3 := hide hg
  clear hg
  go_enter Try.func38, Try.ntmps38
  go_wp2_with fail
  refine wp_loop_rounds 1 ?_
  rw [rounds_succ]
  go_wp2_with fail
  refine (unhide H1).mono ?_
  rintro e w1 ⟨rfl, rfl⟩
  go_wp2_with fail
  refine (unhide H3 _).mono ?_
  rintro e w2 ⟨rfl, rfl⟩
  go_wp2_with fail
  refine (unhide H2).mono ?_
  rintro e w2 ⟨rfl, rfl⟩
  go_wp2_with fail
  (try simp only [Exit.inBlock, Exit.then]); refine bodyPost_ret (results_none rfl _ _ _) rfl ?_
  exact ⟨rfl, rfl⟩
theorem spot_cell {w : World} {b : Nat} {s : Sp} (h : w.heap[b]? = some (.cells (spC s) 74)) (k : Nat) : w.cell? ⟨b, k, none⟩ = (spC s)[k]? ∧ w.frozen? ⟨b, k, none⟩ = false := ⟨(blk_cells h).1 k, (blk_cells h).2.1 k⟩
/-- One cell of a spot turned. -/
theorem spot_set {w : World} {b k : Nat} {arr arr' : Array Value} {t : TypeId} (h : w.heap[b]? = some (.cells arr t)) (y : Value) (he : arr.setIfInBounds k y = arr') : (w.setCell ⟨b, k, none⟩ y).heap[b]? = some (.cells arr' t) := by
  rw [← he]
  show (w.heap.modify b _)[b]? = _
  rw [Array.getElem?_modify, if_pos rfl, h]
  rfl
theorem or_low {x y : Int} (hx : 0 ≤ x ∧ x < 65536) (hy : 0 ≤ y ∧ y < 65536) : bits .or .u32 x y = orU x y := by
  unfold orU
  rw [u32_or _ _ hx.1 (by omega) hy.1 (by omega), u16_or _ _ hx.1 hx.2 hy.1 hy.2]
set_option maxRecDepth 100000 in
set_option maxHeartbeats 6400000 in
theorem add_any {w : World} {b : Nat} {s x : Sp} (hb : w.heap[b]? = some (.cells (spC s) 74)) (hs : okS s) (hx : okS x) :
    Calls Try.prog 21 #[.pointer (some ⟨b, 0, none⟩), spV x] w fun e w' => e = .returned (.tuple #[]) ∧ w'.heap[b]? = some (.cells (spC (tog s x)) 74) ∧ Fr (fun k => k = b) w w' := by
  obtain ⟨s0, s1, s2, s3⟩ := s
  obtain ⟨x0, x1, x2, x3⟩ := x
  obtain ⟨⟨p1, p2⟩, p3, p4, p5, p6⟩ := hs
  obtain ⟨⟨q1, q2⟩, q3, q4, q5, q6⟩ := hx
  simp only at p1 p2 p3 p4 p5 p6 q1 q2 q3 q4 q5 q6
  unfold tog spC spV
  simp only
  rw [← or_low p3 q3, ← or_low p4 q4]
  obtain ⟨c, hc⟩ : ∃ c, Hid (cnt s0 x0 = c) := ⟨_, hide rfl⟩
  obtain ⟨k, hk⟩ : ∃ k, Hid (cal s3 x3 = k) := ⟨_, hide rfl⟩
  have HSUM : Hid (∀ W, Calls Try.prog 39 #[.int .i64 s0, .int .i64 x0] W fun e w' => e = .returned (.int .i64 c) ∧ w' = W) := fun W => by rw [← unhide hc]; exact sum_any W s0 x0 ⟨p1, p2⟩ ⟨q1, q2⟩
  have HONE : Hid (∀ W, Calls Try.prog 41 #[.int .i64 s3, .int .i64 x3] W fun e w' => e = .returned (.int .i64 k) ∧ w' = W) := fun W => by rw [← unhide hk]; exact oneCallee_any W s3 x3
  rw [unhide hc, unhide hk]
  obtain ⟨y1, hy1⟩ : ∃ y, Hid (bits .or .u32 s1 x1 = y) := ⟨_, hide rfl⟩
  obtain ⟨y2, hy2⟩ : ∃ y, Hid (bits .or .u32 s2 x2 = y) := ⟨_, hide rfl⟩
  rw [unhide hy1, unhide hy2]
  have e1 : IntKind.u32.wrap x1 = x1 := by go_arith
  have e2 : IntKind.u32.wrap x2 = x2 := by go_arith
  obtain ⟨q, hq⟩ : ∃ q, Hid (w.heap.size = q) := ⟨_, hide rfl⟩
  have hbq : b < w.heap.size := (Array.getElem?_eq_some_iff.1 hb).1
  have hne : ¬ b = q := by have := unhide hq; omega
  obtain ⟨W0, hW0⟩ : ∃ W0, Hid (w.alloc (.cells #[.int .i64 x0, .int .u16 x1, .int .u16 x2, .int .i64 x3] 56) = W0) := ⟨_, hide rfl⟩
  have HB : Hid (W0.heap[b]? = some (.cells #[.int .i64 s0, .int .i64 s3, .int .u32 s1, .int .u32 s2] 74)) := by unfold Hid; rw [← unhide hW0, Below.heap_alloc _ _ _ hbq]; exact hb
  have HQ : Hid (W0.heap[q]? = some (.cells #[.int .i64 x0, .int .u16 x1, .int .u16 x2, .int .i64 x3] 56)) := by unfold Hid; rw [← unhide hW0, ← unhide hq]; exact heap_alloc_new w _
  have HF : Hid (Fr (fun k => k = b) w W0) := by unfold Hid; rw [← unhide hW0]; exact (Fr.refl _ w).alloc _
  clear hb p1 p2 p3 p4 p5 p6 q1 q2 q3 q4 q5 q6 hc hk hbq
  go_enter Try.func21, Try.ntmps21
  go_wp2_with fail
  rw [unhide hq, unhide hW0]
  clear hW0 hq
  have HC := hide (blk_cells (unhide HB))
  refine wp_region_held_drew (S := (fun V => V.heap[q]? = some (.cells #[.int .i64 x0, .int .u16 x1, .int .u16 x2, .int .i64 x3] 56))) (by kernel_rfl) (unhide HQ) (fun hHeld => ?_)
  clear hHeld
  have HSV : Hid (W0.drew.heap[q]? = some (.cells #[.int .i64 x0, .int .u16 x1, .int .u16 x2, .int .i64 x3] 56)) := unhide HQ
  refine wpAnyH_take (i := 0) (oi := _) (v := .pointer (some ⟨b, 0, none⟩)) rfl (by kernel_rfl) (by kernel_rfl) (by kernel_rfl) (fun _ _ _ h => h) (Or.inl ⟨by rfl, (by intro w' hSw; obtain ⟨cc, -, zz⟩ := blk_cells hSw; have c0 := cc 0; have c1 := cc 1; have c2 := cc 2; have c3 := cc 3; clear cc hSw; go_simp)⟩) (unhide HSV) ?_
  go_simp
  refine wpAnyH_take (i := 1) (oi := _) (v := .pointer (some ⟨b, 0, none⟩)) rfl (by kernel_rfl) (by kernel_rfl) (by kernel_rfl) (fun _ _ _ h => h) (Or.inl ⟨by rfl, (by intro w' hSw; obtain ⟨cc, -, zz⟩ := blk_cells hSw; have c0 := cc 0; have c1 := cc 1; have c2 := cc 2; have c3 := cc 3; clear cc hSw; go_simp)⟩) (unhide HSV) ?_
  go_simp
  refine wpAnyH_take (i := 2) (oi := _) (v := .pointer (some ⟨b, 0, none⟩)) rfl (by kernel_rfl) (by kernel_rfl) (by kernel_rfl) (fun _ _ _ h => h) (Or.inl ⟨by rfl, (by intro w' hSw; obtain ⟨cc, -, zz⟩ := blk_cells hSw; have c0 := cc 0; have c1 := cc 1; have c2 := cc 2; have c3 := cc 3; clear cc hSw; go_simp)⟩) (unhide HSV) ?_
  go_simp
  refine wpAnyH_take (i := 3) (oi := _) (v := .pointer (some ⟨q, 0, none⟩)) rfl (by kernel_rfl) (by kernel_rfl) (by kernel_rfl) (fun _ _ _ h => h) (Or.inl ⟨by rfl, (by intro w' hSw; obtain ⟨cc, -, zz⟩ := blk_cells hSw; have c0 := cc 0; have c1 := cc 1; have c2 := cc 2; have c3 := cc 3; clear cc hSw; go_simp)⟩) (unhide HSV) ?_
  go_simp
  refine wpAnyH_take (i := 4) (oi := _) (v := .int .i64 x0) rfl (by kernel_rfl) (by kernel_rfl) (by kernel_rfl) (fun _ _ _ h => h) (Or.inl ⟨by rfl, (by intro w' hSw; obtain ⟨cc, -, zz⟩ := blk_cells hSw; have c0 := cc 0; have c1 := cc 1; have c2 := cc 2; have c3 := cc 3; clear cc hSw; go_simp)⟩) (unhide HSV) ?_
  go_simp
  refine wpAnyH_ready (rs := [5]) (by kernel_rfl) (by simp) ?_
  refine AllReadyH.cons (o := _) rfl (fun K hK => ?_) AllReadyH.nil
  go_simp
  refine (join_any (w := W0.drew) ((unhide HC).1 0) ((unhide HC).2.1 0) (enters_of Try.func39 (by kernel_rfl) rfl) (unhide HSUM)).mono ?_
  rintro e V ⟨rfl, eV⟩
  have eV2 := hide eV
  clear eV
  go_simp
  have HB' : Hid (V.heap[b]? = some (.cells #[.int .i64 c, .int .i64 s3, .int .u32 s1, .int .u32 s2] 74)) := by unfold Hid; rw [unhide eV2]; exact spot_set (w := W0.drew) (unhide HB) _ rfl
  have HQ' : Hid (V.heap[q]? = some (.cells #[.int .i64 x0, .int .u16 x1, .int .u16 x2, .int .i64 x3] 56)) := by unfold Hid; rw [unhide eV2]; exact (Below.heap_setCell _ _ _ _ (fun e => hne e.symm)).trans (unhide HQ)
  have HF' : Hid (Fr (fun k => k = b) w V) := by unfold Hid; rw [unhide eV2]; exact (unhide HF).drew.setCell _ (.inr rfl) _
  clear eV2 HB HQ HF HC HSV
  refine hK.out _ _ (unhide HQ') (fun _ => ?_)
  clear hK K
  go_simp
  refine wpAnyH_done (by kernel_rfl) ?_ _
  obtain ⟨W0, rfl⟩ : ∃ x, x = V := ⟨_, rfl⟩
  have HB := HB'
  have HQ := HQ'
  have HF := HF'
  clear HB' HQ' HF'
  go_wp2_with fail
  have HC := hide (blk_cells (unhide HB))
  refine wp_region_held_drew (S := (fun V => V.heap[q]? = some (.cells #[.int .i64 x0, .int .u16 x1, .int .u16 x2, .int .i64 x3] 56))) (by kernel_rfl) (unhide HQ) (fun hHeld => ?_)
  clear hHeld
  have HSV : Hid (W0.drew.heap[q]? = some (.cells #[.int .i64 x0, .int .u16 x1, .int .u16 x2, .int .i64 x3] 56)) := unhide HQ
  refine wpAnyH_take (i := 0) (oi := _) (v := .pointer (some ⟨b, 0, none⟩)) rfl (by kernel_rfl) (by kernel_rfl) (by kernel_rfl) (fun _ _ _ h => h) (Or.inl ⟨by rfl, (by intro w' hSw; obtain ⟨cc, -, zz⟩ := blk_cells hSw; have c0 := cc 0; have c1 := cc 1; have c2 := cc 2; have c3 := cc 3; clear cc hSw; go_simp)⟩) (unhide HSV) ?_
  go_simp
  refine wpAnyH_take (i := 1) (oi := _) (v := .pointer (some ⟨b, 0, none⟩)) rfl (by kernel_rfl) (by kernel_rfl) (by kernel_rfl) (fun _ _ _ h => h) (Or.inl ⟨by rfl, (by intro w' hSw; obtain ⟨cc, -, zz⟩ := blk_cells hSw; have c0 := cc 0; have c1 := cc 1; have c2 := cc 2; have c3 := cc 3; clear cc hSw; go_simp)⟩) (unhide HSV) ?_
  go_simp
  refine wpAnyH_take (i := 2) (oi := _) (v := .pointer (some ⟨b, 2, none⟩)) rfl (by kernel_rfl) (by kernel_rfl) (by kernel_rfl) (fun _ _ _ h => h) (Or.inl ⟨by rfl, (by intro w' hSw; obtain ⟨cc, -, zz⟩ := blk_cells hSw; have c0 := cc 0; have c1 := cc 1; have c2 := cc 2; have c3 := cc 3; clear cc hSw; go_simp)⟩) (unhide HSV) ?_
  go_simp
  refine wpAnyH_take (i := 3) (oi := _) (v := .pointer (some ⟨q, 1, none⟩)) rfl (by kernel_rfl) (by kernel_rfl) (by kernel_rfl) (fun _ _ _ h => h) (Or.inl ⟨by rfl, (by intro w' hSw; obtain ⟨cc, -, zz⟩ := blk_cells hSw; have c0 := cc 0; have c1 := cc 1; have c2 := cc 2; have c3 := cc 3; clear cc hSw; go_simp)⟩) (unhide HSV) ?_
  go_simp
  refine wpAnyH_take (i := 4) (oi := _) (v := .int .u16 x1) rfl (by kernel_rfl) (by kernel_rfl) (by kernel_rfl) (fun _ _ _ h => h) (Or.inl ⟨by rfl, (by intro w' hSw; obtain ⟨cc, -, zz⟩ := blk_cells hSw; have c0 := cc 0; have c1 := cc 1; have c2 := cc 2; have c3 := cc 3; clear cc hSw; go_simp)⟩) (unhide HSV) ?_
  go_simp
  refine wpAnyH_take (i := 5) (oi := _) (v := .int .u32 x1) rfl (by kernel_rfl) (by kernel_rfl) (by kernel_rfl) (fun _ _ _ h => h) (Or.inl ⟨by rfl, (by intro w' hSw; obtain ⟨cc, -, zz⟩ := blk_cells hSw; have c0 := cc 0; have c1 := cc 1; have c2 := cc 2; have c3 := cc 3; clear cc hSw; go_simp)⟩) (unhide HSV) ?_
  go_simp
  refine wpAnyH_ready (rs := [6]) (by kernel_rfl) (by simp) ?_
  refine AllReadyH.cons (o := _) rfl (fun K hK => ?_) AllReadyH.nil
  go_simp
  refine (or_any (w := W0.drew) x1 ((unhide HC).1 2) ((unhide HC).2.1 2)).mono ?_
  rintro e V ⟨⟨vv, rfl⟩, eV⟩
  rw [unhide hy1] at eV
  have eV2 := hide eV
  clear eV
  go_simp
  have HB' : Hid (V.heap[b]? = some (.cells #[.int .i64 c, .int .i64 s3, .int .u32 y1, .int .u32 s2] 74)) := by unfold Hid; rw [unhide eV2]; exact spot_set (w := W0.drew) (unhide HB) _ rfl
  have HQ' : Hid (V.heap[q]? = some (.cells #[.int .i64 x0, .int .u16 x1, .int .u16 x2, .int .i64 x3] 56)) := by unfold Hid; rw [unhide eV2]; exact (Below.heap_setCell _ _ _ _ (fun e => hne e.symm)).trans (unhide HQ)
  have HF' : Hid (Fr (fun k => k = b) w V) := by unfold Hid; rw [unhide eV2]; exact (unhide HF).drew.setCell _ (.inr rfl) _
  clear eV2 HB HQ HF HC HSV
  refine hK.out _ _ (unhide HQ') (fun _ => ?_)
  clear hK K
  go_simp
  refine wpAnyH_done (by kernel_rfl) ?_ _
  obtain ⟨W0, rfl⟩ : ∃ x, x = V := ⟨_, rfl⟩
  have HB := HB'
  have HQ := HQ'
  have HF := HF'
  clear HB' HQ' HF'
  go_wp2_with fail
  have HC := hide (blk_cells (unhide HB))
  refine wp_region_held_drew (S := (fun V => V.heap[q]? = some (.cells #[.int .i64 x0, .int .u16 x1, .int .u16 x2, .int .i64 x3] 56))) (by kernel_rfl) (unhide HQ) (fun hHeld => ?_)
  clear hHeld
  have HSV : Hid (W0.drew.heap[q]? = some (.cells #[.int .i64 x0, .int .u16 x1, .int .u16 x2, .int .i64 x3] 56)) := unhide HQ
  refine wpAnyH_take (i := 0) (oi := _) (v := .pointer (some ⟨b, 0, none⟩)) rfl (by kernel_rfl) (by kernel_rfl) (by kernel_rfl) (fun _ _ _ h => h) (Or.inl ⟨by rfl, (by intro w' hSw; obtain ⟨cc, -, zz⟩ := blk_cells hSw; have c0 := cc 0; have c1 := cc 1; have c2 := cc 2; have c3 := cc 3; clear cc hSw; go_simp)⟩) (unhide HSV) ?_
  go_simp
  refine wpAnyH_take (i := 1) (oi := _) (v := .pointer (some ⟨b, 0, none⟩)) rfl (by kernel_rfl) (by kernel_rfl) (by kernel_rfl) (fun _ _ _ h => h) (Or.inl ⟨by rfl, (by intro w' hSw; obtain ⟨cc, -, zz⟩ := blk_cells hSw; have c0 := cc 0; have c1 := cc 1; have c2 := cc 2; have c3 := cc 3; clear cc hSw; go_simp)⟩) (unhide HSV) ?_
  go_simp
  refine wpAnyH_take (i := 2) (oi := _) (v := .pointer (some ⟨b, 3, none⟩)) rfl (by kernel_rfl) (by kernel_rfl) (by kernel_rfl) (fun _ _ _ h => h) (Or.inl ⟨by rfl, (by intro w' hSw; obtain ⟨cc, -, zz⟩ := blk_cells hSw; have c0 := cc 0; have c1 := cc 1; have c2 := cc 2; have c3 := cc 3; clear cc hSw; go_simp)⟩) (unhide HSV) ?_
  go_simp
  refine wpAnyH_take (i := 3) (oi := _) (v := .pointer (some ⟨q, 2, none⟩)) rfl (by kernel_rfl) (by kernel_rfl) (by kernel_rfl) (fun _ _ _ h => h) (Or.inl ⟨by rfl, (by intro w' hSw; obtain ⟨cc, -, zz⟩ := blk_cells hSw; have c0 := cc 0; have c1 := cc 1; have c2 := cc 2; have c3 := cc 3; clear cc hSw; go_simp)⟩) (unhide HSV) ?_
  go_simp
  refine wpAnyH_take (i := 4) (oi := _) (v := .int .u16 x2) rfl (by kernel_rfl) (by kernel_rfl) (by kernel_rfl) (fun _ _ _ h => h) (Or.inl ⟨by rfl, (by intro w' hSw; obtain ⟨cc, -, zz⟩ := blk_cells hSw; have c0 := cc 0; have c1 := cc 1; have c2 := cc 2; have c3 := cc 3; clear cc hSw; go_simp)⟩) (unhide HSV) ?_
  go_simp
  refine wpAnyH_take (i := 5) (oi := _) (v := .int .u32 x2) rfl (by kernel_rfl) (by kernel_rfl) (by kernel_rfl) (fun _ _ _ h => h) (Or.inl ⟨by rfl, (by intro w' hSw; obtain ⟨cc, -, zz⟩ := blk_cells hSw; have c0 := cc 0; have c1 := cc 1; have c2 := cc 2; have c3 := cc 3; clear cc hSw; go_simp)⟩) (unhide HSV) ?_
  go_simp
  refine wpAnyH_ready (rs := [6]) (by kernel_rfl) (by simp) ?_
  refine AllReadyH.cons (o := _) rfl (fun K hK => ?_) AllReadyH.nil
  go_simp
  refine (or_any (w := W0.drew) x2 ((unhide HC).1 3) ((unhide HC).2.1 3)).mono ?_
  rintro e V ⟨⟨vv, rfl⟩, eV⟩
  rw [unhide hy2] at eV
  have eV2 := hide eV
  clear eV
  go_simp
  have HB' : Hid (V.heap[b]? = some (.cells #[.int .i64 c, .int .i64 s3, .int .u32 y1, .int .u32 y2] 74)) := by unfold Hid; rw [unhide eV2]; exact spot_set (w := W0.drew) (unhide HB) _ rfl
  have HQ' : Hid (V.heap[q]? = some (.cells #[.int .i64 x0, .int .u16 x1, .int .u16 x2, .int .i64 x3] 56)) := by unfold Hid; rw [unhide eV2]; exact (Below.heap_setCell _ _ _ _ (fun e => hne e.symm)).trans (unhide HQ)
  have HF' : Hid (Fr (fun k => k = b) w V) := by unfold Hid; rw [unhide eV2]; exact (unhide HF).drew.setCell _ (.inr rfl) _
  clear eV2 HB HQ HF HC HSV
  refine hK.out _ _ (unhide HQ') (fun _ => ?_)
  clear hK K
  go_simp
  refine wpAnyH_done (by kernel_rfl) ?_ _
  obtain ⟨W0, rfl⟩ : ∃ x, x = V := ⟨_, rfl⟩
  have HB := HB'
  have HQ := HQ'
  have HF := HF'
  clear HB' HQ' HF'
  go_wp2_with fail
  have HC := hide (blk_cells (unhide HB))
  refine wp_region_held_drew (S := (fun V => V.heap[q]? = some (.cells #[.int .i64 x0, .int .u16 x1, .int .u16 x2, .int .i64 x3] 56))) (by kernel_rfl) (unhide HQ) (fun hHeld => ?_)
  clear hHeld
  have HSV : Hid (W0.drew.heap[q]? = some (.cells #[.int .i64 x0, .int .u16 x1, .int .u16 x2, .int .i64 x3] 56)) := unhide HQ
  refine wpAnyH_take (i := 0) (oi := _) (v := .pointer (some ⟨b, 0, none⟩)) rfl (by kernel_rfl) (by kernel_rfl) (by kernel_rfl) (fun _ _ _ h => h) (Or.inl ⟨by rfl, (by intro w' hSw; obtain ⟨cc, -, zz⟩ := blk_cells hSw; have c0 := cc 0; have c1 := cc 1; have c2 := cc 2; have c3 := cc 3; clear cc hSw; go_simp)⟩) (unhide HSV) ?_
  go_simp
  refine wpAnyH_take (i := 1) (oi := _) (v := .pointer (some ⟨b, 0, none⟩)) rfl (by kernel_rfl) (by kernel_rfl) (by kernel_rfl) (fun _ _ _ h => h) (Or.inl ⟨by rfl, (by intro w' hSw; obtain ⟨cc, -, zz⟩ := blk_cells hSw; have c0 := cc 0; have c1 := cc 1; have c2 := cc 2; have c3 := cc 3; clear cc hSw; go_simp)⟩) (unhide HSV) ?_
  go_simp
  refine wpAnyH_take (i := 2) (oi := _) (v := .pointer (some ⟨b, 1, none⟩)) rfl (by kernel_rfl) (by kernel_rfl) (by kernel_rfl) (fun _ _ _ h => h) (Or.inl ⟨by rfl, (by intro w' hSw; obtain ⟨cc, -, zz⟩ := blk_cells hSw; have c0 := cc 0; have c1 := cc 1; have c2 := cc 2; have c3 := cc 3; clear cc hSw; go_simp)⟩) (unhide HSV) ?_
  go_simp
  refine wpAnyH_take (i := 3) (oi := _) (v := .pointer (some ⟨q, 3, none⟩)) rfl (by kernel_rfl) (by kernel_rfl) (by kernel_rfl) (fun _ _ _ h => h) (Or.inl ⟨by rfl, (by intro w' hSw; obtain ⟨cc, -, zz⟩ := blk_cells hSw; have c0 := cc 0; have c1 := cc 1; have c2 := cc 2; have c3 := cc 3; clear cc hSw; go_simp)⟩) (unhide HSV) ?_
  go_simp
  refine wpAnyH_take (i := 4) (oi := _) (v := .int .i64 x3) rfl (by kernel_rfl) (by kernel_rfl) (by kernel_rfl) (fun _ _ _ h => h) (Or.inl ⟨by rfl, (by intro w' hSw; obtain ⟨cc, -, zz⟩ := blk_cells hSw; have c0 := cc 0; have c1 := cc 1; have c2 := cc 2; have c3 := cc 3; clear cc hSw; go_simp)⟩) (unhide HSV) ?_
  go_simp
  refine wpAnyH_ready (rs := [5]) (by kernel_rfl) (by simp) ?_
  refine AllReadyH.cons (o := _) rfl (fun K hK => ?_) AllReadyH.nil
  go_simp
  refine (join_any (w := W0.drew) ((unhide HC).1 1) ((unhide HC).2.1 1) (enters_of Try.func41 (by kernel_rfl) rfl) (unhide HONE)).mono ?_
  rintro e V ⟨rfl, eV⟩
  have eV2 := hide eV
  clear eV
  go_simp
  have HB' : Hid (V.heap[b]? = some (.cells #[.int .i64 c, .int .i64 k, .int .u32 y1, .int .u32 y2] 74)) := by unfold Hid; rw [unhide eV2]; exact spot_set (w := W0.drew) (unhide HB) _ rfl
  have HQ' : Hid (V.heap[q]? = some (.cells #[.int .i64 x0, .int .u16 x1, .int .u16 x2, .int .i64 x3] 56)) := by unfold Hid; rw [unhide eV2]; exact (Below.heap_setCell _ _ _ _ (fun e => hne e.symm)).trans (unhide HQ)
  have HF' : Hid (Fr (fun k => k = b) w V) := by unfold Hid; rw [unhide eV2]; exact (unhide HF).drew.setCell _ (.inr rfl) _
  clear eV2 HB HQ HF HC HSV
  refine hK.out _ _ (unhide HQ') (fun _ => ?_)
  clear hK K
  go_simp
  refine wpAnyH_done (by kernel_rfl) ?_ _
  obtain ⟨W0, rfl⟩ : ∃ x, x = V := ⟨_, rfl⟩
  have HB := HB'
  have HQ := HQ'
  have HF := HF'
  clear HB' HQ' HF'
  go_wp2_with fail
  go_end0
  exact ⟨rfl, unhide HB, unhide HF⟩
end Go.Proofs.Ytjjfpokmpcpicaa
