/-
  The call that reads what such a call wrote.
-/
import Derived.Test.YtnfinplkeefdgaaBackMath2
namespace Go.Proofs.Ytnfinplkeefdgaa
open Go.RowKit

/-- What comes of reading back one call. -/
def SPost (r rb : Nat) (w : World) (rest : List Int) (e : Ending) (w' : World) : Prop := e = .returned (.bool true) ∧ ∃ v2, Rdr w' r rb v2 rest 0 ∧ RFr r w w'
theorem wrap8 (x : Nat) : IntKind.u8.wrap (x : Int) = (x : Int) % 256 := by simp [IntKind.wrap, IntKind.signed, IntKind.bits]
theorem wrapI (n : Int) : IntKind.i64.wrap n = wrap64 n := by simp [IntKind.wrap, IntKind.signed, IntKind.bits, wrap64]; split <;> omega

set_option maxHeartbeats 800000 in
set_option maxRecDepth 100000 in
theorem same0 (r : Nat) {rb : Nat} (v : Value) (on : Int) (x : Nat) (s : ByteArray) (rest : List Int) (w : World) (h : Rdr w r rb v ([((x % 256 : Nat) : Int)] ++ rest) 0) :
    Calls Try.prog 25 #[.pointer (some ⟨r, 0, none⟩), PutV on 0 x s] w fun e w' => SPost r rb w rest e w' := by
  have hr := h.lt
  have hC := rByte_any r v _ 0 (w.alloc (.cells #[.int .i64 on, .int .i64 0, .int .u64 x, .string s] 27)).drew (h.alloc _).drew
  rw [show rres (.int .u8 0) (gByte ([((x % 256 : Nat) : Int)] ++ rest)) ([((x % 256 : Nat) : Int)] ++ rest) 0 = (.int .u8 ((x % 256 : Nat) : Int), rest, 0) from rfl] at hC
  have HC := hide hC
  have hdr : Hid (RFr r w (w.alloc (.cells #[.int .i64 on, .int .i64 0, .int .u64 x, .string s] 27)).drew) := ((Fr.refl _ _).alloc _).drew
  clear h hC
  unfold PutV
  go_enter Try.func25, Try.ntmps25
  go_wp2_with fail
  refine wp_region_held_drew (S := fun w' => w'.cell? ⟨w.heap.size, 2, none⟩ = some (.int .u64 (x : Int))) (by kernel_rfl) (by simp) (fun hHeld => ?_)
  refine wpAnyH_take (i := 0) (oi := _) (v := .pointer (some ⟨r, 0, none⟩)) rfl (by kernel_rfl) (by kernel_rfl) (by kernel_rfl) (fun _ _ _ h => h) (Or.inl ⟨by rfl, (by intro w hSw; go_simp)⟩) (by assumption) ?_
  refine wpAnyH_take (i := 2) (oi := _) (v := .pointer (some ⟨w.heap.size, 2, none⟩)) rfl (by kernel_rfl) (by kernel_rfl) (by kernel_rfl) (fun _ _ _ h => h) (Or.inl ⟨by rfl, (by intro w hSw; go_simp)⟩) (by assumption) ?_
  refine wpAnyH_take (i := 3) (oi := _) (v := .int .u64 (x : Int)) rfl (by kernel_rfl) (by kernel_rfl) (by kernel_rfl) (fun _ _ _ h => h) (Or.inl ⟨by rfl, (by intro w hSw; go_simp)⟩) (by assumption) ?_
  refine wpAnyH_take (i := 4) (oi := _) (v := .int .u8 ((x % 256 : Nat) : Int)) rfl (by kernel_rfl) (by kernel_rfl) (by kernel_rfl) (fun _ _ _ h => h) (Or.inl ⟨by rfl, (by intro w hSw; go_simp; exact wrap8 x)⟩) (by assumption) ?_
  simp only [Act.put, List.setIfInBounds_toArray]
  refine wpAnyH_ready (rs := [1]) (by kernel_rfl) (by simp) ?_
  refine AllReadyH.cons (o := _) rfl (fun K hK => ?_) AllReadyH.nil
  go_simp
  refine (unhide HC).mono ?_
  rintro e w1 ⟨rfl, v2, h1, h2⟩
  have hS1 : w1.cell? ⟨w.heap.size, 2, none⟩ = some (.int .u64 (x : Int)) := (Fr.cell h2 (a := ⟨w.heap.size, 2, none⟩) (by simp) (by simp; omega)).trans (by simp)
  have HH := hide (And.intro h1 h2)
  clear h1 h2
  go_simp
  refine hK.out _ _ hS1 (fun hHeld1 => ?_)
  clear hK K
  refine wpAnyH_ready (rs := [5]) (by kernel_rfl) (by simp) ?_
  refine AllReadyH.cons (o := _) rfl (fun K hK => ?_) AllReadyH.nil
  go_simp
  refine hK.out _ _ hS1 (fun hHeld3 => ?_)
  clear hK K
  refine wpAnyH_ready (rs := [6]) (by kernel_rfl) (by simp) ?_
  refine AllReadyH.cons (o := _) rfl (fun K hK => ?_) AllReadyH.nil
  go_simp
  refine hK.out _ _ hS1 (fun hHeld4 => ?_)
  clear hK K
  refine wpAnyH_done (by kernel_rfl) ?_ _
  go_wp2
  go_ret
  exact ⟨rfl, v2, (unhide HH).1, (unhide hdr).trans (unhide HH).2⟩

set_option maxHeartbeats 800000 in
set_option maxRecDepth 100000 in
theorem same1a (r : Nat) {rb : Nat} (v : Value) (on : Int) (x : Nat) (s : ByteArray) (rest : List Int) (w : World) (h : Rdr w r rb v (Wm.uform 9 x ++ rest) 0) (hx : x < 2 ^ 64) (hB : BOk (Wm.uform 9 x ++ rest)) (hl : 4611686018427387904 < x) :
    Calls Try.prog 25 #[.pointer (some ⟨r, 0, none⟩), PutV on 1 x s] w fun e w' => SPost r rb w rest e w' := by
  have hr := h.lt
  have hC := rUint_any r v _ 0 (w.alloc (.cells #[.int .i64 on, .int .i64 1, .int .u64 x, .string s] 27)).drew (h.alloc _).drew hB
  rw [unum_form x rest hx, gNum, rres_ok] at hC
  have HC := hide hC
  have hdr : Hid (RFr r w (w.alloc (.cells #[.int .i64 on, .int .i64 1, .int .u64 x, .string s] 27)).drew) := ((Fr.refl _ _).alloc _).drew
  clear h hC
  have hl2 : (4611686018427387904 : Int) < (x : Int) := by omega
  unfold PutV
  go_enter Try.func25, Try.ntmps25
  go_wp2_with fail
  refine wp_region_held_drew (S := fun w' => w'.cell? ⟨w.heap.size, 2, none⟩ = some (.int .u64 (x : Int))) (by kernel_rfl) (by simp) (fun hHeld => ?_)
  refine wpAnyH_take (i := 0) (oi := _) (v := .pointer (some ⟨r, 0, none⟩)) rfl (by kernel_rfl) (by kernel_rfl) (by kernel_rfl) (fun _ _ _ h => h) (Or.inl ⟨by rfl, (by intro w hSw; go_simp)⟩) (by assumption) ?_
  refine wpAnyH_take (i := 2) (oi := _) (v := .pointer (some ⟨w.heap.size, 2, none⟩)) rfl (by kernel_rfl) (by kernel_rfl) (by kernel_rfl) (fun _ _ _ h => h) (Or.inl ⟨by rfl, (by intro w hSw; go_simp)⟩) (by assumption) ?_
  refine wpAnyH_take (i := 3) (oi := _) (v := .int .u64 (x : Int)) rfl (by kernel_rfl) (by kernel_rfl) (by kernel_rfl) (fun _ _ _ h => h) (Or.inl ⟨by rfl, (by intro w hSw; go_simp)⟩) (by assumption) ?_
  simp only [Act.put, List.setIfInBounds_toArray]
  refine wpAnyH_ready (rs := [1]) (by kernel_rfl) (by simp) ?_
  refine AllReadyH.cons (o := _) rfl (fun K hK => ?_) AllReadyH.nil
  go_simp
  refine (unhide HC).mono ?_
  rintro e w1 ⟨rfl, v2, h1, h2⟩
  have hS1 : w1.cell? ⟨w.heap.size, 2, none⟩ = some (.int .u64 (x : Int)) := (Fr.cell h2 (a := ⟨w.heap.size, 2, none⟩) (by simp) (by simp; omega)).trans (by simp)
  have HH := hide (And.intro h1 h2)
  clear h1 h2
  go_simp
  refine hK.out _ _ hS1 (fun hHeld1 => ?_)
  clear hK K
  refine wpAnyH_ready (rs := [4]) (by kernel_rfl) (by simp) ?_
  refine AllReadyH.cons (o := _) rfl (fun K hK => ?_) AllReadyH.nil
  go_simp
  refine hK.out _ _ hS1 (fun hHeld3 => ?_)
  clear hK K
  refine wpAnyH_ready (rs := [5]) (by kernel_rfl) (by simp) ?_
  refine AllReadyH.cons (o := _) rfl (fun K hK => ?_) AllReadyH.nil
  go_simp
  refine hK.out _ _ hS1 (fun hHeld4 => ?_)
  clear hK K
  refine wpAnyH_done (by kernel_rfl) ?_ _
  go_wp2
  go_ret
  exact ⟨rfl, v2, (unhide HH).1, (unhide hdr).trans (unhide HH).2⟩

set_option maxHeartbeats 800000 in
set_option maxRecDepth 100000 in
theorem same1b (r : Nat) {rb : Nat} (v : Value) (on : Int) (x : Nat) (s : ByteArray) (rest : List Int) (w : World) (h : Rdr w r rb v (Wm.uform 9 x ++ rest) 0) (hx : x < 2 ^ 64) (hB : BOk (Wm.uform 9 x ++ rest)) (hl : x ≤ 4611686018427387904) :
    Calls Try.prog 25 #[.pointer (some ⟨r, 0, none⟩), PutV on 1 x s] w fun e w' => SPost r rb w rest e w' := by
  have hr := h.lt
  have hC := rCount_any r v _ 0 (x : Int) (w.alloc (.cells #[.int .i64 on, .int .i64 1, .int .u64 x, .string s] 27)).drew (h.alloc _).drew hB (by omega)
  rw [unumMost_back (x : Int) x rest hx (Int.le_refl _), gNum, rres_ok] at hC
  have HC := hide hC
  have hdr : Hid (RFr r w (w.alloc (.cells #[.int .i64 on, .int .i64 1, .int .u64 x, .string s] 27)).drew) := ((Fr.refl _ _).alloc _).drew
  clear h hC
  have hl2 : decide ((4611686018427387904 : Int) < (x : Int)) = false := decide_eq_false (by omega)
  have hl3 : IntKind.i64.wrap (x : Int) = (x : Int) := by rw [wrapI]; unfold wrap64; omega
  unfold PutV
  go_enter Try.func25, Try.ntmps25
  go_wp2_with fail
  refine wp_region_held_drew (S := fun w' => w'.cell? ⟨w.heap.size, 2, none⟩ = some (.int .u64 (x : Int))) (by kernel_rfl) (by simp) (fun hHeld => ?_)
  refine wpAnyH_take (i := 0) (oi := _) (v := .pointer (some ⟨r, 0, none⟩)) rfl (by kernel_rfl) (by kernel_rfl) (by kernel_rfl) (fun _ _ _ h => h) (Or.inl ⟨by rfl, (by intro w hSw; go_simp)⟩) (by assumption) ?_
  refine wpAnyH_take (i := 1) (oi := _) (v := .pointer (some ⟨w.heap.size, 2, none⟩)) rfl (by kernel_rfl) (by kernel_rfl) (by kernel_rfl) (fun _ _ _ h => h) (Or.inl ⟨by rfl, (by intro w hSw; go_simp)⟩) (by assumption) ?_
  refine wpAnyH_take (i := 2) (oi := _) (v := .int .u64 (x : Int)) rfl (by kernel_rfl) (by kernel_rfl) (by kernel_rfl) (fun _ _ _ h => h) (Or.inl ⟨by rfl, (by intro w hSw; go_simp)⟩) (by assumption) ?_
  refine wpAnyH_take (i := 3) (oi := _) (v := .int .i64 (x : Int)) rfl (by kernel_rfl) (by kernel_rfl) (by kernel_rfl) (fun _ _ _ h => h) (Or.inl ⟨by rfl, (by intro w hSw; go_simp)⟩) (by assumption) ?_
  refine wpAnyH_take (i := 5) (oi := _) (v := .pointer (some ⟨w.heap.size, 2, none⟩)) rfl (by kernel_rfl) (by kernel_rfl) (by kernel_rfl) (fun _ _ _ h => h) (Or.inl ⟨by rfl, (by intro w hSw; go_simp)⟩) (by assumption) ?_
  refine wpAnyH_take (i := 6) (oi := _) (v := .int .u64 (x : Int)) rfl (by kernel_rfl) (by kernel_rfl) (by kernel_rfl) (fun _ _ _ h => h) (Or.inl ⟨by rfl, (by intro w hSw; go_simp)⟩) (by assumption) ?_
  refine wpAnyH_take (i := 7) (oi := _) (v := .int .i64 (x : Int)) rfl (by kernel_rfl) (by kernel_rfl) (by kernel_rfl) (fun _ _ _ h => h) (Or.inl ⟨by rfl, (by intro w hSw; go_simp)⟩) (by assumption) ?_
  simp only [Act.put, List.setIfInBounds_toArray]
  refine wpAnyH_ready (rs := [4]) (by kernel_rfl) (by simp) ?_
  refine AllReadyH.cons (o := _) rfl (fun K hK => ?_) AllReadyH.nil
  go_simp
  refine (unhide HC).mono ?_
  rintro e w1 ⟨rfl, v2, h1, h2⟩
  have hS1 : w1.cell? ⟨w.heap.size, 2, none⟩ = some (.int .u64 (x : Int)) := (Fr.cell h2 (a := ⟨w.heap.size, 2, none⟩) (by simp) (by simp; omega)).trans (by simp)
  have HH := hide (And.intro h1 h2)
  clear h1 h2
  go_simp
  refine hK.out _ _ hS1 (fun hHeld1 => ?_)
  clear hK K
  refine wpAnyH_ready (rs := [8]) (by kernel_rfl) (by simp) ?_
  refine AllReadyH.cons (o := _) rfl (fun K hK => ?_) AllReadyH.nil
  go_simp
  refine hK.out _ _ hS1 (fun hHeld3 => ?_)
  clear hK K
  refine wpAnyH_ready (rs := [9]) (by kernel_rfl) (by simp) ?_
  refine AllReadyH.cons (o := _) rfl (fun K hK => ?_) AllReadyH.nil
  go_simp
  refine hK.out _ _ hS1 (fun hHeld4 => ?_)
  clear hK K
  refine wpAnyH_done (by kernel_rfl) ?_ _
  go_wp2
  go_ret
  exact ⟨rfl, v2, (unhide HH).1, (unhide hdr).trans (unhide HH).2⟩

set_option maxHeartbeats 800000 in
set_option maxRecDepth 100000 in
theorem same2 (r : Nat) {rb : Nat} (v : Value) (on : Int) (x : Nat) (s : ByteArray) (rest : List Int) (w : World) (h : Rdr w r rb v (Wm.uform 9 (foldI (toI64 x)).toNat ++ rest) 0) (hx : x < 2 ^ 64) (hB : BOk (Wm.uform 9 (foldI (toI64 x)).toNat ++ rest)) :
    Calls Try.prog 25 #[.pointer (some ⟨r, 0, none⟩), PutV on 2 x s] w fun e w' => SPost r rb w rest e w' := by
  have hr := h.lt
  have hC := rInt_any r v _ 0 (w.alloc (.cells #[.int .i64 on, .int .i64 2, .int .u64 x, .string s] 27)).drew (h.alloc _).drew hB
  rw [unum_form _ rest (by have := foldI_bd _ (toI64_bd x hx).1 (toI64_bd x hx).2; omega), gNum, rres_ok, unfold_fold] at hC
  have HC := hide hC
  have hdr : Hid (RFr r w (w.alloc (.cells #[.int .i64 on, .int .i64 2, .int .u64 x, .string s] 27)).drew) := ((Fr.refl _ _).alloc _).drew
  clear h hC
  have hl3 : IntKind.i64.wrap (x : Int) = toI64 x := by rw [wrapI]; exact toI64_wrap x hx
  unfold PutV
  go_enter Try.func25, Try.ntmps25
  go_wp2_with fail
  refine wp_region_held_drew (S := fun w' => w'.cell? ⟨w.heap.size, 2, none⟩ = some (.int .u64 (x : Int))) (by kernel_rfl) (by simp) (fun hHeld => ?_)
  refine wpAnyH_take (i := 0) (oi := _) (v := .pointer (some ⟨r, 0, none⟩)) rfl (by kernel_rfl) (by kernel_rfl) (by kernel_rfl) (fun _ _ _ h => h) (Or.inl ⟨by rfl, (by intro w hSw; go_simp)⟩) (by assumption) ?_
  refine wpAnyH_take (i := 2) (oi := _) (v := .pointer (some ⟨w.heap.size, 2, none⟩)) rfl (by kernel_rfl) (by kernel_rfl) (by kernel_rfl) (fun _ _ _ h => h) (Or.inl ⟨by rfl, (by intro w hSw; go_simp)⟩) (by assumption) ?_
  refine wpAnyH_take (i := 3) (oi := _) (v := .int .u64 (x : Int)) rfl (by kernel_rfl) (by kernel_rfl) (by kernel_rfl) (fun _ _ _ h => h) (Or.inl ⟨by rfl, (by intro w hSw; go_simp)⟩) (by assumption) ?_
  refine wpAnyH_take (i := 4) (oi := _) (v := .int .i64 (toI64 x)) rfl (by kernel_rfl) (by kernel_rfl) (by kernel_rfl) (fun _ _ _ h => h) (Or.inl ⟨by rfl, (by intro w hSw; go_simp)⟩) (by assumption) ?_
  simp only [Act.put, List.setIfInBounds_toArray]
  refine wpAnyH_ready (rs := [1]) (by kernel_rfl) (by simp) ?_
  refine AllReadyH.cons (o := _) rfl (fun K hK => ?_) AllReadyH.nil
  go_simp
  refine (unhide HC).mono ?_
  rintro e w1 ⟨rfl, v2, h1, h2⟩
  have hS1 : w1.cell? ⟨w.heap.size, 2, none⟩ = some (.int .u64 (x : Int)) := (Fr.cell h2 (a := ⟨w.heap.size, 2, none⟩) (by simp) (by simp; omega)).trans (by simp)
  have HH := hide (And.intro h1 h2)
  clear h1 h2
  go_simp
  refine hK.out _ _ hS1 (fun hHeld1 => ?_)
  clear hK K
  refine wpAnyH_ready (rs := [5]) (by kernel_rfl) (by simp) ?_
  refine AllReadyH.cons (o := _) rfl (fun K hK => ?_) AllReadyH.nil
  go_simp
  refine hK.out _ _ hS1 (fun hHeld3 => ?_)
  clear hK K
  refine wpAnyH_ready (rs := [6]) (by kernel_rfl) (by simp) ?_
  refine AllReadyH.cons (o := _) rfl (fun K hK => ?_) AllReadyH.nil
  go_simp
  refine hK.out _ _ hS1 (fun hHeld4 => ?_)
  clear hK K
  refine wpAnyH_done (by kernel_rfl) ?_ _
  go_wp2
  go_ret
  exact ⟨rfl, v2, (unhide HH).1, (unhide hdr).trans (unhide HH).2⟩

set_option maxHeartbeats 800000 in
set_option maxRecDepth 100000 in
theorem same3 (r : Nat) {rb : Nat} (v : Value) (on : Int) (x : Nat) (s : ByteArray) (rest : List Int) (w : World) (h : Rdr w r rb v (wpre x 8 ++ rest) 0) (hx : x < 2 ^ 64) (hB : BOk (wpre x 8 ++ rest)) :
    Calls Try.prog 25 #[.pointer (some ⟨r, 0, none⟩), PutV on 3 x s] w fun e w' => SPost r rb w rest e w' := by
  have hr := h.lt
  have hC := rWord_any r v _ 0 (w.alloc (.cells #[.int .i64 on, .int .i64 3, .int .u64 x, .string s] 27)).drew (h.alloc _).drew hB
  rw [gWord_back x rest hx, rres_ok] at hC
  have HC := hide hC
  have hdr : Hid (RFr r w (w.alloc (.cells #[.int .i64 on, .int .i64 3, .int .u64 x, .string s] 27)).drew) := ((Fr.refl _ _).alloc _).drew
  clear h hC
  unfold PutV
  go_enter Try.func25, Try.ntmps25
  go_wp2_with fail
  refine wp_region_held_drew (S := fun w' => w'.cell? ⟨w.heap.size, 2, none⟩ = some (.int .u64 (x : Int))) (by kernel_rfl) (by simp) (fun hHeld => ?_)
  refine wpAnyH_take (i := 0) (oi := _) (v := .pointer (some ⟨r, 0, none⟩)) rfl (by kernel_rfl) (by kernel_rfl) (by kernel_rfl) (fun _ _ _ h => h) (Or.inl ⟨by rfl, (by intro w hSw; go_simp)⟩) (by assumption) ?_
  refine wpAnyH_take (i := 2) (oi := _) (v := .pointer (some ⟨w.heap.size, 2, none⟩)) rfl (by kernel_rfl) (by kernel_rfl) (by kernel_rfl) (fun _ _ _ h => h) (Or.inl ⟨by rfl, (by intro w hSw; go_simp)⟩) (by assumption) ?_
  refine wpAnyH_take (i := 3) (oi := _) (v := .int .u64 (x : Int)) rfl (by kernel_rfl) (by kernel_rfl) (by kernel_rfl) (fun _ _ _ h => h) (Or.inl ⟨by rfl, (by intro w hSw; go_simp)⟩) (by assumption) ?_
  simp only [Act.put, List.setIfInBounds_toArray]
  refine wpAnyH_ready (rs := [1]) (by kernel_rfl) (by simp) ?_
  refine AllReadyH.cons (o := _) rfl (fun K hK => ?_) AllReadyH.nil
  go_simp
  refine (unhide HC).mono ?_
  rintro e w1 ⟨rfl, v2, h1, h2⟩
  have hS1 : w1.cell? ⟨w.heap.size, 2, none⟩ = some (.int .u64 (x : Int)) := (Fr.cell h2 (a := ⟨w.heap.size, 2, none⟩) (by simp) (by simp; omega)).trans (by simp)
  have HH := hide (And.intro h1 h2)
  clear h1 h2
  go_simp
  refine hK.out _ _ hS1 (fun hHeld1 => ?_)
  clear hK K
  refine wpAnyH_ready (rs := [4]) (by kernel_rfl) (by simp) ?_
  refine AllReadyH.cons (o := _) rfl (fun K hK => ?_) AllReadyH.nil
  go_simp
  refine hK.out _ _ hS1 (fun hHeld3 => ?_)
  clear hK K
  refine wpAnyH_ready (rs := [5]) (by kernel_rfl) (by simp) ?_
  refine AllReadyH.cons (o := _) rfl (fun K hK => ?_) AllReadyH.nil
  go_simp
  refine hK.out _ _ hS1 (fun hHeld4 => ?_)
  clear hK K
  refine wpAnyH_done (by kernel_rfl) ?_ _
  go_wp2
  go_ret
  exact ⟨rfl, v2, (unhide HH).1, (unhide hdr).trans (unhide HH).2⟩

set_option maxHeartbeats 800000 in
set_option maxRecDepth 100000 in
theorem same4 (r : Nat) {rb : Nat} (v : Value) (on : Int) (x : Nat) (s : ByteArray) (rest : List Int) (w : World) (h : Rdr w r rb v ((Wm.uform 9 s.size ++ strI s) ++ rest) 0) (hs : s.size < 2 ^ 62) (hB : BOk (Wm.uform 9 s.size ++ strI s ++ rest)) :
    Calls Try.prog 25 #[.pointer (some ⟨r, 0, none⟩), PutV on 4 x s] w fun e w' => SPost r rb w rest e w' := by
  have hr := h.lt
  have hC := rText_any r v _ 0 (s.size : Int) (w.alloc (.cells #[.int .i64 on, .int .i64 4, .int .u64 x, .string s] 27)).drew (h.alloc _).drew hB (by omega)
  rw [gText_back s rest (by omega), rres_ok] at hC
  have HC := hide hC
  have hdr : Hid (RFr r w (w.alloc (.cells #[.int .i64 on, .int .i64 4, .int .u64 x, .string s] 27)).drew) := ((Fr.refl _ _).alloc _).drew
  clear h hC
  unfold PutV
  go_enter Try.func25, Try.ntmps25
  go_wp2_with fail
  refine wp_region_held_drew (S := fun w' => w'.cell? ⟨w.heap.size, 3, none⟩ = some (.string s)) (by kernel_rfl) (by simp) (fun hHeld => ?_)
  refine wpAnyH_take (i := 0) (oi := _) (v := .pointer (some ⟨r, 0, none⟩)) rfl (by kernel_rfl) (by kernel_rfl) (by kernel_rfl) (fun _ _ _ h => h) (Or.inl ⟨by rfl, (by intro w hSw; go_simp)⟩) (by assumption) ?_
  refine wpAnyH_take (i := 1) (oi := _) (v := .pointer (some ⟨w.heap.size, 3, none⟩)) rfl (by kernel_rfl) (by kernel_rfl) (by kernel_rfl) (fun _ _ _ h => h) (Or.inl ⟨by rfl, (by intro w hSw; go_simp)⟩) (by assumption) ?_
  refine wpAnyH_take (i := 2) (oi := _) (v := .string s) rfl (by kernel_rfl) (by kernel_rfl) (by kernel_rfl) (fun _ _ _ h => h) (Or.inl ⟨by rfl, (by intro w hSw; go_simp)⟩) (by assumption) ?_
  refine wpAnyH_take (i := 3) (oi := _) (v := .int .i64 (s.size : Int)) rfl (by kernel_rfl) (by kernel_rfl) (by kernel_rfl) (fun _ _ _ h => h) (Or.inl ⟨by rfl, (by intro w hSw; go_simp)⟩) (by assumption) ?_
  refine wpAnyH_take (i := 5) (oi := _) (v := .pointer (some ⟨w.heap.size, 3, none⟩)) rfl (by kernel_rfl) (by kernel_rfl) (by kernel_rfl) (fun _ _ _ h => h) (Or.inl ⟨by rfl, (by intro w hSw; go_simp)⟩) (by assumption) ?_
  refine wpAnyH_take (i := 6) (oi := _) (v := .string s) rfl (by kernel_rfl) (by kernel_rfl) (by kernel_rfl) (fun _ _ _ h => h) (Or.inl ⟨by rfl, (by intro w hSw; go_simp)⟩) (by assumption) ?_
  simp only [Act.put, List.setIfInBounds_toArray]
  refine wpAnyH_ready (rs := [4]) (by kernel_rfl) (by simp) ?_
  refine AllReadyH.cons (o := _) rfl (fun K hK => ?_) AllReadyH.nil
  go_simp
  refine (unhide HC).mono ?_
  rintro e w1 ⟨rfl, v2, h1, h2⟩
  have hS1 : w1.cell? ⟨w.heap.size, 3, none⟩ = some (.string s) := (Fr.cell h2 (a := ⟨w.heap.size, 3, none⟩) (by simp) (by simp; omega)).trans (by simp)
  have HH := hide (And.intro h1 h2)
  clear h1 h2
  go_simp
  refine hK.out _ _ hS1 (fun hHeld1 => ?_)
  clear hK K
  refine wpAnyH_ready (rs := [7]) (by kernel_rfl) (by simp) ?_
  refine AllReadyH.cons (o := _) rfl (fun K hK => ?_) AllReadyH.nil
  go_simp
  refine hK.out _ _ hS1 (fun hHeld3 => ?_)
  clear hK K
  refine wpAnyH_ready (rs := [8]) (by kernel_rfl) (by simp) ?_
  refine AllReadyH.cons (o := _) rfl (fun K hK => ?_) AllReadyH.nil
  go_simp
  refine hK.out _ _ hS1 (fun hHeld4 => ?_)
  clear hK K
  refine wpAnyH_done (by kernel_rfl) ?_ _
  go_wp2
  go_ret
  exact ⟨rfl, v2, (unhide HH).1, (unhide hdr).trans (unhide HH).2⟩

set_option maxHeartbeats 800000 in
set_option maxRecDepth 100000 in
theorem same5 (r : Nat) {rb : Nat} (v : Value) (on kind : Int) (x : Nat) (s : ByteArray) (rest : List Int) (w : World) (h : Rdr w r rb v (strI s ++ rest) 0) (hk : kind < 0 ∨ 4 < kind) (hl : (strI s ++ rest).length ≤ 140737488355328) :
    Calls Try.prog 25 #[.pointer (some ⟨r, 0, none⟩), PutV on kind x s] w fun e w' => SPost r rb w rest e w' := by
  have hr := h.lt
  have hC := rRaw_good r v _ s.size (w.alloc (.cells #[.int .i64 on, .int .i64 kind, .int .u64 x, .string s] 27)) (h.alloc _) hl (by rw [List.length_append, strI_length]; omega)
  rw [take_app _ _ _ (strI_length s), drop_app _ _ _ (strI_length s)] at hC
  have HC := hide hC
  have hdr : Hid (RFr r w (w.alloc (.cells #[.int .i64 on, .int .i64 kind, .int .u64 x, .string s] 27))) := (Fr.refl _ _).alloc _
  have q0 : (kind == 0) = false := by rw [beq_eq_false_iff_ne]; omega
  have q1 : (kind == 1) = false := by rw [beq_eq_false_iff_ne]; omega
  have q2 : (kind == 2) = false := by rw [beq_eq_false_iff_ne]; omega
  have q3 : (kind == 3) = false := by rw [beq_eq_false_iff_ne]; omega
  have q4 : (kind == 4) = false := by rw [beq_eq_false_iff_ne]; omega
  clear h hC hk
  unfold PutV
  go_enter Try.func25, Try.ntmps25
  go_wp2_with fail
  refine (unhide HC).mono ?_
  rintro e w1 ⟨val, rfl, ho, v2, h1, h2⟩
  have hS1 : w1.cell? ⟨w.heap.size, 3, none⟩ = some (.string s) := (Fr.cell h2 (a := ⟨w.heap.size, 3, none⟩) (by simp) (by simp; omega)).trans (by simp)
  rw [← strI_length s] at ho
  have hcv := str_conv w1 val (strI s) (Rd.of_own ho) (strI_bok s)
  rw [toStr_strI] at hcv
  have HH := hide (And.intro h1 h2)
  clear h1 h2 ho
  go_wp2
  go_ret
  exact ⟨rfl, v2, (unhide HH).1, (unhide hdr).trans (unhide HH).2⟩

/-- Whatever was written is read. -/
theorem same_back (r : Nat) {rb : Nat} (v : Value) (on kind : Int) (x : Nat) (s : ByteArray) (rest : List Int) (w : World) (h : Rdr w r rb v (bform kind x s ++ rest) 0) (hx : x < 2 ^ 64) (hs : s.size < 2 ^ 62) (hB : BOk (bform kind x s ++ rest)) (hl : (bform kind x s ++ rest).length ≤ 140737488355328) :
    Calls Try.prog 25 #[.pointer (some ⟨r, 0, none⟩), PutV on kind x s] w fun e w' => SPost r rb w rest e w' := by
  by_cases hk : kind < 0 ∨ 4 < kind
  · rw [show bform kind x s = strI s from if_pos hk] at h hl
    exact same5 r v on kind x s rest w h hk hl
  · rw [show bform kind x s = pform kind x s from if_neg hk] at h hB
    obtain ⟨k, rfl⟩ := Int.eq_ofNat_of_zero_le (show 0 ≤ kind by omega)
    have hk4 : k ≤ 4 := by omega
    clear hk hl
    match k, hk4 with
    | 0, _ => exact same0 r v on x s rest w h
    | 1, _ =>
      by_cases hl : x ≤ 4611686018427387904
      · exact same1b r v on x s rest w h hx hB hl
      · exact same1a r v on x s rest w h hx hB (by omega)
    | 2, _ => exact same2 r v on x s rest w h hx hB
    | 3, _ => exact same3 r v on x s rest w h hx hB
    | 4, _ => exact same4 r v on x s rest w h hs hB
end Go.Proofs.Ytnfinplkeefdgaa
