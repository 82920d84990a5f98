/-
  SameValues, SameLongs, SameInts, SameObject, same.
-/
import Derived.Test.YtkpngfahnpidkaaMState
import Derived.Test.YtkpngfahnpidkaaMBox
import Derived.Test.YtkpngfahnpidkaaMKinds
namespace Go.Proofs.Ytkpngfahnpidkaa
open Go.RowKit
set_option linter.unusedVariables false
set_option linter.unusedSimpArgs false

set_option maxRecDepth 100000 in
set_option maxHeartbeats 3200000 in
theorem sameV_any {w : World} {u v : Value} {l : List (Int × Int)} (hu : Ro w 2 u l.length (flat l)) (hv : Ro w 2 v l.length (flat l)) :
    Calls Try.prog 67 #[u, v] w fun e w' => e = .returned (.bool true) ∧ ∃ k, w' = w.drewN k := by
  have HU := hide (fun i p (hp : l[i]? = some p) => hu.pair hp)
  have HV := hide (fun i p (hp : l[i]? = some p) => hv.pair hp)
  obtain ⟨ua, uc, rfl, _, um⟩ := hu.shape
  obtain ⟨va, vc, rfl, _⟩ := hv.shape
  obtain ⟨L, hL⟩ : ∃ L, Hid (l.length = L) := ⟨_, rfl⟩
  have hLm : L ≤ maxLen := by rw [← unhide hL]; omega
  unfold maxLen at hLm
  rw [unhide hL] at HU HV ⊢
  clear hu hv um
  have d0 : (((L : Nat) : Int) != (L : Int)) = false := by simp
  go_enter Try.func67, Try.ntmps67
  go_wp2_with fail
  go_loopg [5] L (fun gg t5 wr => ∃ (i : Nat), Hid (i + gg = L) ∧ t5 = .int .i64 (i : Int) ∧ Hid (∃ k, wr = w.drewN k))
  case atStart => exact ⟨0, by unfold Hid; omega, rfl, 0, rfl⟩
  case round =>
    obtain ⟨i, hi, rfl, hB⟩ := hrel
    by_cases hlt : i < L
    · have hil : i < l.length := by rw [unhide hL]; exact hlt
      obtain ⟨p, hp⟩ : ∃ p, l[i]? = some p := ⟨_, List.getElem?_eq_getElem hil⟩
      obtain ⟨b, so, c', e, _, _, hb, c0, c1⟩ := unhide HU i p hp
      cases e
      obtain ⟨g, off, cap, e, _, _, hg, q0, q1⟩ := unhide HV i p hp
      cases e
      have fd : Fr (fun _ => False) w wr := by obtain ⟨k, e⟩ := unhide hB; rw [e]; exact Fr.drewN k
      have lb := Nat.lt_of_lt_of_le hb fd.size
      have lg := Nat.lt_of_lt_of_le hg fd.size
      have k0 := (fd.cell (a := ⟨b, so + i * 2, none⟩) hb (fun e => e)).trans c0
      have k1 := (fd.cell (a := ⟨b, so + i * 2 + 1, none⟩) hb (fun e => e)).trans c1
      have r0 := (fd.cell (a := ⟨g, off + i * 2, none⟩) hg (fun e => e)).trans q0
      have r1 := (fd.cell (a := ⟨g, off + i * 2 + 1, none⟩) hg (fun e => e)).trans q1
      have i0 : (0 : Int) ≤ (i : Int) := by omega
      have i1 : (i : Int) < (L : Int) := by omega
      clear c0 c1 q0 q1 hp hb hg fd
      go_wp2_with fail
      go_quiet (fail)
      go_wp2_with fail
      go_roundg (gk - 1)
      case measure => have := unhide hi; omega
      case rel => exact ⟨i + 1, by have := unhide hi; unfold Hid; omega, by go_num, by obtain ⟨k, e⟩ := unhide hB; exact ⟨k + nq, by rw [e, World.drewN_drewN]⟩⟩
    · have hiL : i = L := by have := unhide hi; omega
      subst hiL
      obtain ⟨k, rfl⟩ := unhide hB
      go_wp2_with fail
      go_ret
      exact ⟨rfl, k, rfl⟩
set_option maxRecDepth 100000 in
set_option maxHeartbeats 3200000 in
theorem sameL_nil (w : World) (a b : Option Addr) (c d : Nat) : Calls Try.prog 68 #[.slice a 0 c, .slice b 0 d] w fun e w' => e = .returned (.bool true) ∧ w' = w := by
  go_enter Try.func68, Try.ntmps68
  go_wp2_with fail
  go_loopg [5] 0 (fun g t5 wr => t5 = .int .i64 0 ∧ wr = w)
  case atStart => exact ⟨rfl, rfl⟩
  case round =>
    obtain ⟨rfl, rfl⟩ := hrel
    go_wp2_with fail
    go_ret
    exact ⟨rfl, rfl⟩
set_option maxRecDepth 100000 in
set_option maxHeartbeats 3200000 in
theorem sameI_nil (w : World) (a b : Option Addr) (c d : Nat) : Calls Try.prog 58 #[.slice a 0 c, .slice b 0 d] w fun e w' => e = .returned (.bool true) ∧ w' = w := by
  go_enter Try.func58, Try.ntmps58
  go_wp2_with fail
  go_loopg [5] 0 (fun g t5 wr => t5 = .int .i64 0 ∧ wr = w)
  case atStart => exact ⟨rfl, rfl⟩
  case round =>
    obtain ⟨rfl, rfl⟩ := hrel
    go_wp2_with fail
    go_ret
    exact ⟨rfl, rfl⟩
theorem intNe (n : Int) (w : World) : (binOp .neq 3 (.int .i64 n) (.int .i64 n)).run Try.prog w = .ok (.bool false) w := by simp [go_sem]
theorem boolNe (b : Bool) (w : World) : (binOp .neq 4 (.bool b) (.bool b)).run Try.prog w = .ok (.bool false) w := by cases b <;> kernel_rfl
set_option maxRecDepth 100000 in
set_option maxHeartbeats 3200000 in
theorem sameO_any {w : World} {a : AO} {ia ja ka la : Option Addr} {ic jc kc lc : Nat} (hi : Ro w 2 (.slice ia a.its.length ic) a.its.length (flat a.its)) (hj : Ro w 2 (.slice ja a.its.length jc) a.its.length (flat a.its)) :
    Calls Try.prog 46 #[.agg #[.int .i64 a.k, .slice ia a.its.length ic, .slice ka 0 kc, .int .i64 a.fn, .int .i64 a.cap, .bool a.shut], .agg #[.int .i64 a.k, .slice ja a.its.length jc, .slice la 0 lc, .int .i64 a.fn, .int .i64 a.cap, .bool a.shut]] w fun e w' => e = .returned (.bool true) ∧ Below w.heap.size w w' := by
  have hB : Below w.heap.size w ((w.alloc (.cells #[.int .i64 a.k, .slice ia a.its.length ic, .slice ka 0 kc, .int .i64 a.fn, .int .i64 a.cap, .bool a.shut] 56)).alloc (.cells #[.int .i64 a.k, .slice ja a.its.length jc, .slice la 0 lc, .int .i64 a.fn, .int .i64 a.cap, .bool a.shut] 56)) := ((Below.refl _ _).alloc (Nat.le_refl _) _).alloc (by simp) _
  have hz1 : (w.alloc (.cells #[.int .i64 a.k, .slice ia a.its.length ic, .slice ka 0 kc, .int .i64 a.fn, .int .i64 a.cap, .bool a.shut] 56)).heap.size = w.heap.size + 1 := by simp
  have hz2 : ((w.alloc (.cells #[.int .i64 a.k, .slice ia a.its.length ic, .slice ka 0 kc, .int .i64 a.fn, .int .i64 a.cap, .bool a.shut] 56)).alloc (.cells #[.int .i64 a.k, .slice ja a.its.length jc, .slice la 0 lc, .int .i64 a.fn, .int .i64 a.cap, .bool a.shut] 56)).heap.size = w.heap.size + 2 := by simp
  have SA : Six ((w.alloc (.cells #[.int .i64 a.k, .slice ia a.its.length ic, .slice ka 0 kc, .int .i64 a.fn, .int .i64 a.cap, .bool a.shut] 56)).alloc (.cells #[.int .i64 a.k, .slice ja a.its.length jc, .slice la 0 lc, .int .i64 a.fn, .int .i64 a.cap, .bool a.shut] 56)) w.heap.size (.int .i64 a.k) (.slice ia a.its.length ic) (.slice ka 0 kc) (.int .i64 a.fn) (.int .i64 a.cap) (.bool a.shut) := (Six.new w (.int .i64 a.k) (.slice ia a.its.length ic) (.slice ka 0 kc) (.int .i64 a.fn) (.int .i64 a.cap) (.bool a.shut) 56).fr ((Fr.refl (fun _ => False) _).alloc _) (fun e => e)
  have SB : Six ((w.alloc (.cells #[.int .i64 a.k, .slice ia a.its.length ic, .slice ka 0 kc, .int .i64 a.fn, .int .i64 a.cap, .bool a.shut] 56)).alloc (.cells #[.int .i64 a.k, .slice ja a.its.length jc, .slice la 0 lc, .int .i64 a.fn, .int .i64 a.cap, .bool a.shut] 56)) (w.heap.size + 1) (.int .i64 a.k) (.slice ja a.its.length jc) (.slice la 0 lc) (.int .i64 a.fn) (.int .i64 a.cap) (.bool a.shut) := by
    have := Six.new (w.alloc (.cells #[.int .i64 a.k, .slice ia a.its.length ic, .slice ka 0 kc, .int .i64 a.fn, .int .i64 a.cap, .bool a.shut] 56)) (.int .i64 a.k) (.slice ja a.its.length jc) (.slice la 0 lc) (.int .i64 a.fn) (.int .i64 a.cap) (.bool a.shut) 56
    rw [hz1] at this
    exact this
  have bn := boolNe a.shut
  have HSV : Hid (∀ W, Below ((w.alloc (.cells #[.int .i64 a.k, .slice ia a.its.length ic, .slice ka 0 kc, .int .i64 a.fn, .int .i64 a.cap, .bool a.shut] 56)).alloc (.cells #[.int .i64 a.k, .slice ja a.its.length jc, .slice la 0 lc, .int .i64 a.fn, .int .i64 a.cap, .bool a.shut] 56)).heap.size ((w.alloc (.cells #[.int .i64 a.k, .slice ia a.its.length ic, .slice ka 0 kc, .int .i64 a.fn, .int .i64 a.cap, .bool a.shut] 56)).alloc (.cells #[.int .i64 a.k, .slice ja a.its.length jc, .slice la 0 lc, .int .i64 a.fn, .int .i64 a.cap, .bool a.shut] 56)) W → Calls Try.prog 67 #[.slice ia a.its.length ic, .slice ja a.its.length jc] W fun e w' => e = .returned (.bool true) ∧ ∃ k, w' = W.drewN k) := fun W hW => sameV_any ((hi.fr (Fr.of_below (S := fun _ => False) hB) (fun _ _ e => e)).fr (Fr.of_below (S := fun _ => False) hW) (fun _ _ e => e)) ((hj.fr (Fr.of_below (S := fun _ => False) hB) (fun _ _ e => e)).fr (Fr.of_below (S := fun _ => False) hW) (fun _ _ e => e))
  have HB := hide hB
  have HZ := hide hz2
  have a0 := SA.1 0 (by omega)
  have a1 := SA.1 1 (by omega)
  have a2 := SA.1 2 (by omega)
  have a3 := SA.1 3 (by omega)
  have a4 := SA.1 4 (by omega)
  have a5 := SA.1 5 (by omega)
  simp only [sixL, List.getElem_cons_zero, List.getElem_cons_succ] at a0 a1 a2 a3 a4 a5
  have b0 := SB.1 0 (by omega)
  have b1 := SB.1 1 (by omega)
  have b2 := SB.1 2 (by omega)
  have b3 := SB.1 3 (by omega)
  have b4 := SB.1 4 (by omega)
  have b5 := SB.1 5 (by omega)
  simp only [sixL, List.getElem_cons_zero, List.getElem_cons_succ] at b0 b1 b2 b3 b4 b5
  have lb : w.heap.size + 1 < ((w.alloc (.cells #[.int .i64 a.k, .slice ia a.its.length ic, .slice ka 0 kc, .int .i64 a.fn, .int .i64 a.cap, .bool a.shut] 56)).alloc (.cells #[.int .i64 a.k, .slice ja a.its.length jc, .slice la 0 lc, .int .i64 a.fn, .int .i64 a.cap, .bool a.shut] 56)).heap.size := by omega
  clear hB hz1 hz2 SA SB hi hj
  go_enter Try.func46, Try.ntmps46
  go_wp2_with fail
  refine (unhide HSV _ (Below.refl _ _)).mono ?_
  rintro e1 w1 ⟨rfl, hk⟩
  have hb1 : Below w.heap.size w w1 := by obtain ⟨k, e⟩ := hk; rw [e]; exact (unhide HB).trans ((Fr.drewN (S := fun _ => False) k).below (unhide HB).size (fun _ _ e => e))
  have fd : Fr (fun _ => False) ((w.alloc (.cells #[.int .i64 a.k, .slice ia a.its.length ic, .slice ka 0 kc, .int .i64 a.fn, .int .i64 a.cap, .bool a.shut] 56)).alloc (.cells #[.int .i64 a.k, .slice ja a.its.length jc, .slice la 0 lc, .int .i64 a.fn, .int .i64 a.cap, .bool a.shut] 56)) w1 := by obtain ⟨k, e⟩ := hk; rw [e]; exact Fr.drewN k
  have u2 := (fd.cell (a := ⟨w.heap.size, 2, none⟩) (by show w.heap.size < _; omega) (fun e => e)).trans a2
  have v2 := (fd.cell (a := ⟨w.heap.size + 1, 2, none⟩) lb (fun e => e)).trans b2
  have HB1 := hide hb1
  clear hk fd hb1 a0 a1 a2 a3 a4 a5 b0 b1 b2 b3 b4 b5 HSV
  go_wp2_with fail
  refine (sameL_nil _ _ _ _ _).mono ?_
  rintro e2 w2 ⟨rfl, rfl⟩
  go_wp2_with fail
  go_ret
  exact ⟨rfl, unhide HB1⟩
theorem SaidV.new (w : World) (x : SV) (t : TypeId) : SaidV (w.alloc (.cells (saidV x) t)) w.heap.size x := by
  have hg := heap_alloc_new w (.cells (saidV x) t)
  refine ⟨fun j hj => ?_, fun j => frozen_new _ _ _ _⟩
  simp only [World.cell?, hg]
  show (saidV x)[j]? = _
  have : (saidV x).toList = saidLV x := rfl
  rw [← Array.getElem?_toList, this]
  exact List.getElem?_eq_getElem hj
set_option maxRecDepth 100000 in
set_option maxHeartbeats 3200000 in
theorem same_any {w : World} {a : AO} {vk vn n trap : Int} {ok : Bool} {ia ja ka la : Option Addr} {ic jc kc lc : Nat} (hi : Ro w 2 (.slice ia a.its.length ic) a.its.length (flat a.its)) (hj : Ro w 2 (.slice ja a.its.length jc) a.its.length (flat a.its)) :
    Calls Try.prog 30 #[.agg #[.int .i64 vk, .int .i64 vn, .int .i64 n, .int .i64 trap, .bool ok, .int .i64 a.k, .slice ia a.its.length ic, .slice ka 0 kc, .int .i64 a.fn, .int .i64 a.cap, .bool a.shut, .slice none 0 0], .agg #[.int .i64 vk, .int .i64 vn, .int .i64 n, .int .i64 trap, .bool ok, .int .i64 a.k, .slice ja a.its.length jc, .slice la 0 lc, .int .i64 a.fn, .int .i64 a.cap, .bool a.shut, .slice none 0 0]] w fun e w' => e = .returned (.bool true) ∧ Below w.heap.size w w' := by
  have hB : Below w.heap.size w ((w.alloc (.cells #[.int .i64 vk, .int .i64 vn, .int .i64 n, .int .i64 trap, .bool ok, .int .i64 a.k, .slice ia a.its.length ic, .slice ka 0 kc, .int .i64 a.fn, .int .i64 a.cap, .bool a.shut, .slice none 0 0] 58)).alloc (.cells #[.int .i64 vk, .int .i64 vn, .int .i64 n, .int .i64 trap, .bool ok, .int .i64 a.k, .slice ja a.its.length jc, .slice la 0 lc, .int .i64 a.fn, .int .i64 a.cap, .bool a.shut, .slice none 0 0] 58)) := ((Below.refl _ _).alloc (Nat.le_refl _) _).alloc (by simp) _
  have hz1 : (w.alloc (.cells #[.int .i64 vk, .int .i64 vn, .int .i64 n, .int .i64 trap, .bool ok, .int .i64 a.k, .slice ia a.its.length ic, .slice ka 0 kc, .int .i64 a.fn, .int .i64 a.cap, .bool a.shut, .slice none 0 0] 58)).heap.size = w.heap.size + 1 := by simp
  have hz2 : ((w.alloc (.cells #[.int .i64 vk, .int .i64 vn, .int .i64 n, .int .i64 trap, .bool ok, .int .i64 a.k, .slice ia a.its.length ic, .slice ka 0 kc, .int .i64 a.fn, .int .i64 a.cap, .bool a.shut, .slice none 0 0] 58)).alloc (.cells #[.int .i64 vk, .int .i64 vn, .int .i64 n, .int .i64 trap, .bool ok, .int .i64 a.k, .slice ja a.its.length jc, .slice la 0 lc, .int .i64 a.fn, .int .i64 a.cap, .bool a.shut, .slice none 0 0] 58)).heap.size = w.heap.size + 2 := by simp
  have SA : SaidV ((w.alloc (.cells #[.int .i64 vk, .int .i64 vn, .int .i64 n, .int .i64 trap, .bool ok, .int .i64 a.k, .slice ia a.its.length ic, .slice ka 0 kc, .int .i64 a.fn, .int .i64 a.cap, .bool a.shut, .slice none 0 0] 58)).alloc (.cells #[.int .i64 vk, .int .i64 vn, .int .i64 n, .int .i64 trap, .bool ok, .int .i64 a.k, .slice ja a.its.length jc, .slice la 0 lc, .int .i64 a.fn, .int .i64 a.cap, .bool a.shut, .slice none 0 0] 58)) w.heap.size (SV.mk vk vn n trap ok a.k ia a.its.length ic ka 0 kc a.fn a.cap a.shut) := (SaidV.new w (SV.mk vk vn n trap ok a.k ia a.its.length ic ka 0 kc a.fn a.cap a.shut) 58).fr ((Fr.refl (fun _ => False) _).alloc _) (fun e => e)
  have SB : SaidV ((w.alloc (.cells #[.int .i64 vk, .int .i64 vn, .int .i64 n, .int .i64 trap, .bool ok, .int .i64 a.k, .slice ia a.its.length ic, .slice ka 0 kc, .int .i64 a.fn, .int .i64 a.cap, .bool a.shut, .slice none 0 0] 58)).alloc (.cells #[.int .i64 vk, .int .i64 vn, .int .i64 n, .int .i64 trap, .bool ok, .int .i64 a.k, .slice ja a.its.length jc, .slice la 0 lc, .int .i64 a.fn, .int .i64 a.cap, .bool a.shut, .slice none 0 0] 58)) (w.heap.size + 1) (SV.mk vk vn n trap ok a.k ja a.its.length jc la 0 lc a.fn a.cap a.shut) := by
    have := SaidV.new (w.alloc (.cells #[.int .i64 vk, .int .i64 vn, .int .i64 n, .int .i64 trap, .bool ok, .int .i64 a.k, .slice ia a.its.length ic, .slice ka 0 kc, .int .i64 a.fn, .int .i64 a.cap, .bool a.shut, .slice none 0 0] 58)) (SV.mk vk vn n trap ok a.k ja a.its.length jc la 0 lc a.fn a.cap a.shut) 58
    rw [hz1] at this
    exact this
  have bn := boolNe ok
  have HSO : Hid (∀ W, Below ((w.alloc (.cells #[.int .i64 vk, .int .i64 vn, .int .i64 n, .int .i64 trap, .bool ok, .int .i64 a.k, .slice ia a.its.length ic, .slice ka 0 kc, .int .i64 a.fn, .int .i64 a.cap, .bool a.shut, .slice none 0 0] 58)).alloc (.cells #[.int .i64 vk, .int .i64 vn, .int .i64 n, .int .i64 trap, .bool ok, .int .i64 a.k, .slice ja a.its.length jc, .slice la 0 lc, .int .i64 a.fn, .int .i64 a.cap, .bool a.shut, .slice none 0 0] 58)).heap.size ((w.alloc (.cells #[.int .i64 vk, .int .i64 vn, .int .i64 n, .int .i64 trap, .bool ok, .int .i64 a.k, .slice ia a.its.length ic, .slice ka 0 kc, .int .i64 a.fn, .int .i64 a.cap, .bool a.shut, .slice none 0 0] 58)).alloc (.cells #[.int .i64 vk, .int .i64 vn, .int .i64 n, .int .i64 trap, .bool ok, .int .i64 a.k, .slice ja a.its.length jc, .slice la 0 lc, .int .i64 a.fn, .int .i64 a.cap, .bool a.shut, .slice none 0 0] 58)) W → Calls Try.prog 46 #[.agg #[.int .i64 a.k, .slice ia a.its.length ic, .slice ka 0 kc, .int .i64 a.fn, .int .i64 a.cap, .bool a.shut], .agg #[.int .i64 a.k, .slice ja a.its.length jc, .slice la 0 lc, .int .i64 a.fn, .int .i64 a.cap, .bool a.shut]] W fun e w' => e = .returned (.bool true) ∧ Below W.heap.size W w') := fun W hW => sameO_any ((hi.fr (Fr.of_below (S := fun _ => False) hB) (fun _ _ e => e)).fr (Fr.of_below (S := fun _ => False) hW) (fun _ _ e => e)) ((hj.fr (Fr.of_below (S := fun _ => False) hB) (fun _ _ e => e)).fr (Fr.of_below (S := fun _ => False) hW) (fun _ _ e => e))
  have HB := hide hB
  have HZ := hide hz2
  have a0 := SA.1 0 (by omega)
  have a1 := SA.1 1 (by omega)
  have a2 := SA.1 2 (by omega)
  have a3 := SA.1 3 (by omega)
  have a4 := SA.1 4 (by omega)
  have a5 := SA.1 5 (by omega)
  have a6 := SA.1 6 (by omega)
  have a7 := SA.1 7 (by omega)
  have a8 := SA.1 8 (by omega)
  have a9 := SA.1 9 (by omega)
  have a10 := SA.1 10 (by omega)
  have a11 := SA.1 11 (by omega)
  simp only [saidLV, List.getElem_cons_zero, List.getElem_cons_succ] at a0 a1 a2 a3 a4 a5 a6 a7 a8 a9 a10 a11
  have b0 := SB.1 0 (by omega)
  have b1 := SB.1 1 (by omega)
  have b2 := SB.1 2 (by omega)
  have b3 := SB.1 3 (by omega)
  have b4 := SB.1 4 (by omega)
  have b5 := SB.1 5 (by omega)
  have b6 := SB.1 6 (by omega)
  have b7 := SB.1 7 (by omega)
  have b8 := SB.1 8 (by omega)
  have b9 := SB.1 9 (by omega)
  have b10 := SB.1 10 (by omega)
  have b11 := SB.1 11 (by omega)
  simp only [saidLV, List.getElem_cons_zero, List.getElem_cons_succ] at b0 b1 b2 b3 b4 b5 b6 b7 b8 b9 b10 b11
  have lb : w.heap.size + 1 < ((w.alloc (.cells #[.int .i64 vk, .int .i64 vn, .int .i64 n, .int .i64 trap, .bool ok, .int .i64 a.k, .slice ia a.its.length ic, .slice ka 0 kc, .int .i64 a.fn, .int .i64 a.cap, .bool a.shut, .slice none 0 0] 58)).alloc (.cells #[.int .i64 vk, .int .i64 vn, .int .i64 n, .int .i64 trap, .bool ok, .int .i64 a.k, .slice ja a.its.length jc, .slice la 0 lc, .int .i64 a.fn, .int .i64 a.cap, .bool a.shut, .slice none 0 0] 58)).heap.size := by omega
  clear hB hz1 hz2 SA SB hi hj
  go_enter Try.func30, Try.ntmps30
  go_wp2_with fail
  refine (unhide HSO _ (Below.refl _ _)).mono ?_
  rintro e1 w1 ⟨rfl, hb1⟩
  have u2 := (hb1.cell (p := ⟨w.heap.size, 11, none⟩) (by show w.heap.size < _; omega)).trans a11
  have v2 := (hb1.cell (p := ⟨w.heap.size + 1, 11, none⟩) lb).trans b11
  have HB1 := hide ((unhide HB).trans (hb1.mono (unhide HB).size))
  clear hb1 a0 a1 a2 a3 a4 a5 a6 a7 a8 a9 a10 a11 b0 b1 b2 b3 b4 b5 b6 b7 b8 b9 b10 b11 HSO
  go_wp2_with fail
  refine (sameI_nil _ _ _ _ _).mono ?_
  rintro e2 w2 ⟨rfl, rfl⟩
  go_wp2_with fail
  go_ret
  exact ⟨rfl, unhide HB1⟩
end Go.Proofs.Ytkpngfahnpidkaa
