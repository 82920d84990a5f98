/-
  Block, of both sides; what is gone over, as the document has it; Pick.
-/
import Derived.Test.YtfeombhileiamaaInts
namespace Go.Proofs.Ytfeombhileiamaa
open Go.RowKit
set_option linter.unusedVariables false
set_option linter.unusedSimpArgs false

/-- A graph of which two lists are known. -/
def GV (w : World) (gv : Value) (st up : List Int) : Prop :=
  ∃ a0 c0 a1 n1 c1 a2 n2 c2 a3 c3 a4 n4 c4, gv = .agg #[.slice a0 st.length c0, .slice a1 n1 c1, .slice a2 n2 c2, .slice a3 up.length c3, .slice a4 n4 c4] ∧ Rn w (.slice a0 st.length c0) st ∧ Rn w (.slice a3 up.length c3) up
theorem GV.below {w w' : World} {gv : Value} {st up : List Int} {B : Nat} (h : GV w gv st up) (f : Below B w w') (hB : w.heap.size ≤ B) : GV w' gv st up := by
  obtain ⟨a0, c0, a1, n1, c1, a2, n2, c2, a3, c3, a4, n4, c4, e, h1, h2⟩ := h
  exact ⟨a0, c0, a1, n1, c1, a2, n2, c2, a3, c3, a4, n4, c4, e, h1.below f hB, h2.below f hB⟩
theorem box5 {w wr : World} {u0 u1 u2 u3 u4 : Value} {e : TypeId} (h : Below (w.heap.size + 1) (w.alloc (.cells #[u0, u1, u2, u3, u4] e)) wr) :
    wr.cell? ⟨w.heap.size, 0, none⟩ = some u0 ∧ wr.cell? ⟨w.heap.size, 1, none⟩ = some u1 ∧ wr.cell? ⟨w.heap.size, 2, none⟩ = some u2 ∧ wr.cell? ⟨w.heap.size, 3, none⟩ = some u3 ∧ wr.cell? ⟨w.heap.size, 4, none⟩ = some u4 ∧ Below w.heap.size w wr ∧ w.heap.size < wr.heap.size := by
  have hs := h.size
  simp only [World.size_alloc] at hs
  have n := fun j z (hz : #[u0, u1, u2, u3, u4].toList[j]? = some z) => new_cells w #[u0, u1, u2, u3, u4] e j z hz
  have n0 := n 0 u0 rfl
  have n1 := n 1 u1 rfl
  have n2 := n 2 u2 rfl
  have n3 := n 3 u3 rfl
  have n4 := n 4 u4 rfl
  rw [Go.WideShapes.add_plain] at n0 n1 n2 n3 n4
  exact ⟨(h.cell (p := ⟨w.heap.size, 0, none⟩) (Nat.lt_succ_self _)).trans n0, (h.cell (p := ⟨w.heap.size, 1, none⟩) (Nat.lt_succ_self _)).trans n1, (h.cell (p := ⟨w.heap.size, 2, none⟩) (Nat.lt_succ_self _)).trans n2, (h.cell (p := ⟨w.heap.size, 3, none⟩) (Nat.lt_succ_self _)).trans n3, (h.cell (p := ⟨w.heap.size, 4, none⟩) (Nat.lt_succ_self _)).trans n4, ((Below.refl _ w).alloc (Nat.le_refl _) _).trans (h.mono (Nat.le_succ _)), by omega⟩

/-- Among the first n the greatest number whose start is not above pc. -/
def bld (st : List Int) (pc : Int) : Nat → Int
  | 0 => -1
  | n + 1 => if st.getD n 0 ≤ pc then (n : Int) else bld st pc n
def blk (st : List Int) (pc : Int) : Int := bld st pc st.length

set_option maxRecDepth 100000 in
set_option maxHeartbeats 1600000 in
theorem block_any {w : World} {gv : Value} {st up : List Int} (pc : Int) (h : GV w gv st up) :
    Calls Try.prog 6 #[gv, .int .i64 pc] w fun e w' => e = .returned (.int .i64 (blk st pc)) ∧ Below w.heap.size w w' := by
  obtain ⟨a0, c0, a1, n1, c1, a2, n2, c2, a3, c3, a4, n4, c4, rfl, hst, hup⟩ := h
  have HC := hide (fun i x (hx : st[i]? = some x) => hst.at hx)
  obtain ⟨_, _, _, hsc, hsm⟩ := hst.shape
  have hLm : st.length ≤ maxLen := by omega
  unfold maxLen at hLm
  obtain ⟨L, hL⟩ : ∃ L, Hid (st.length = L) := ⟨_, rfl⟩
  obtain ⟨R, hR⟩ : ∃ R, Hid (blk st pc = R) := ⟨_, rfl⟩
  rw [unhide hR]
  rw [unhide hL] at HC hLm ⊢
  obtain ⟨U, hU⟩ : ∃ U, Hid (up.length = U) := ⟨_, rfl⟩
  rw [unhide hU]
  clear hst hup hsc hsm
  go_enter Try.func6, Try.ntmps6
  go_wp2_with fail
  go_loopg [5] L (fun g t5 wr => ∃ (i : Nat), Hid (g = i ∧ i ≤ L) ∧ t5 = .int .i64 ((i : Int) - 1) ∧ Hid (bld st pc i = R) ∧ Hid (Below (w.heap.size + 1) (w.alloc (.cells #[.slice a0 L c0, .slice a1 n1 c1, .slice a2 n2 c2, .slice a3 U c3, .slice a4 n4 c4] 25)) wr))
  case atStart => exact ⟨L, ⟨rfl, Nat.le_refl _⟩, rfl, by unfold Hid; rw [← unhide hR, blk, unhide hL], Below.refl _ _⟩
  case round =>
    obtain ⟨i, hi, rfl, hb, hB⟩ := hrel
    obtain ⟨k0, _, _, _, _, hB1, hlt1⟩ := box5 (unhide hB)
    have HB1 := hide hB1
    clear hB1
    cases i with
    | zero =>
      have hR2 : R = -1 := (unhide hb).symm
      subst hR2
      go_wp2_with fail
      go_ret
      exact ⟨rfl, unhide HB1⟩
    | succ i =>
      have hiL : i < L := by have := (unhide hi).2; omega
      obtain ⟨x, hx⟩ : ∃ x, st[i]? = some x := ⟨_, List.getElem?_eq_getElem (by rw [unhide hL]; exact hiL)⟩
      obtain ⟨b, off, c', e, hbl, q0⟩ := unhide HC i x hx
      cases e
      have k1 := ((unhide HB1).cell (p := ⟨b, off + i, none⟩) hbl).trans q0
      have hbr := Nat.lt_of_lt_of_le hbl (unhide HB1).size
      have e1 : ((i + 1 : Nat) : Int) - 1 = (i : Int) := by omega
      rw [e1]
      have i0 : (0 : Int) ≤ (i : Int) := by omega
      have i1 : (i : Int) < (L : Int) := by omega
      have hb2 : Hid ((if x ≤ pc then (i : Int) else bld st pc i) = R) := by
        have := unhide hb
        rw [bld, List.getD_eq_getElem?_getD, hx, Option.getD_some] at this
        exact this
      clear q0 hx hb e1
      by_cases hle : x ≤ pc
      · have hR2 : R = (i : Int) := by have := unhide hb2; rw [if_pos hle] at this; exact this.symm
        subst hR2
        go_wp2_with fail
        go_ret
        exact ⟨rfl, unhide HB1⟩
      · have hb3 : Hid (bld st pc i = R) := by have := unhide hb2; rw [if_neg hle] at this; exact this
        clear hb2
        go_wp2_with fail
        go_roundg (gk - 1)
        case measure => have := (unhide hi).1; omega
        case rel => exact ⟨i, ⟨by have := (unhide hi).1; omega, by omega⟩, by go_num, hb3, hB⟩

set_option maxRecDepth 100000 in
set_option maxHeartbeats 1600000 in
theorem rblock_any {w : World} {gv : Value} {st up : List Int} (pc : Int) (h : GV w gv st up) :
    Calls Try.prog 7 #[gv, .int .i64 pc] w fun e w' => e = .returned (.int .i64 (blk st pc)) ∧ Below w.heap.size w w' := by
  obtain ⟨a0, c0, a1, n1, c1, a2, n2, c2, a3, c3, a4, n4, c4, rfl, hst, hup⟩ := h
  have HC := hide (fun i x (hx : st[i]? = some x) => hst.at hx)
  obtain ⟨_, _, _, hsc, hsm⟩ := hst.shape
  have hLm : st.length ≤ maxLen := by omega
  unfold maxLen at hLm
  obtain ⟨L, hL⟩ : ∃ L, Hid (st.length = L) := ⟨_, rfl⟩
  obtain ⟨R, hR⟩ : ∃ R, Hid (blk st pc = R) := ⟨_, rfl⟩
  rw [unhide hR]
  rw [unhide hL] at HC hLm ⊢
  obtain ⟨U, hU⟩ : ∃ U, Hid (up.length = U) := ⟨_, rfl⟩
  rw [unhide hU]
  clear hst hup hsc hsm
  go_enter Try.func7, Try.ntmps7
  go_wp2_with fail
  go_loopg [5] L (fun g t5 wr => ∃ (i : Nat), Hid (g = i ∧ i ≤ L) ∧ t5 = .int .i64 ((i : Int) - 1) ∧ Hid (bld st pc i = R) ∧ Hid (Below (w.heap.size + 1) (w.alloc (.cells #[.slice a0 L c0, .slice a1 n1 c1, .slice a2 n2 c2, .slice a3 U c3, .slice a4 n4 c4] 25)) wr))
  case atStart => exact ⟨L, ⟨rfl, Nat.le_refl _⟩, rfl, by unfold Hid; rw [← unhide hR, blk, unhide hL], Below.refl _ _⟩
  case round =>
    obtain ⟨i, hi, rfl, hb, hB⟩ := hrel
    obtain ⟨k0, _, _, _, _, hB1, hlt1⟩ := box5 (unhide hB)
    have HB1 := hide hB1
    clear hB1
    cases i with
    | zero =>
      have hR2 : R = -1 := (unhide hb).symm
      subst hR2
      go_wp2_with fail
      go_ret
      exact ⟨rfl, unhide HB1⟩
    | succ i =>
      have hiL : i < L := by have := (unhide hi).2; omega
      obtain ⟨x, hx⟩ : ∃ x, st[i]? = some x := ⟨_, List.getElem?_eq_getElem (by rw [unhide hL]; exact hiL)⟩
      obtain ⟨b, off, c', e, hbl, q0⟩ := unhide HC i x hx
      cases e
      have k1 := ((unhide HB1).cell (p := ⟨b, off + i, none⟩) hbl).trans q0
      have hbr := Nat.lt_of_lt_of_le hbl (unhide HB1).size
      have e1 : ((i + 1 : Nat) : Int) - 1 = (i : Int) := by omega
      rw [e1]
      have i0 : (0 : Int) ≤ (i : Int) := by omega
      have i1 : (i : Int) < (L : Int) := by omega
      have hb2 : Hid ((if x ≤ pc then (i : Int) else bld st pc i) = R) := by
        have := unhide hb
        rw [bld, List.getD_eq_getElem?_getD, hx, Option.getD_some] at this
        exact this
      clear q0 hx hb e1
      by_cases hle : x ≤ pc
      · have hR2 : R = (i : Int) := by have := unhide hb2; rw [if_pos hle] at this; exact this.symm
        subst hR2
        go_wp2_with fail
        go_ret
        exact ⟨rfl, unhide HB1⟩
      · have hb3 : Hid (bld st pc i = R) := by have := unhide hb2; rw [if_neg hle] at this; exact this
        clear hb2
        go_wp2_with fail
        go_roundg (gk - 1)
        case measure => have := (unhide hi).1; omega
        case rel => exact ⟨i, ⟨by have := (unhide hi).1; omega, by omega⟩, by go_num, hb3, hB⟩

/-- What is gone over, at most n numbers. -/
def dm (up : List Int) : Nat → Int → List Int
  | 0, _ => []
  | n + 1, b => if 0 ≤ b ∧ b < (up.length : Int) then b :: dm up n (up.getD b.toNat 0) else []
def dms (up : List Int) (b : Int) : List Int := dm up up.length b
theorem dm_length (up : List Int) : ∀ n b, (dm up n b).length ≤ n
  | 0, _ => Nat.le_refl _
  | n + 1, b => by
    unfold dm
    split
    · have := dm_length up n (up.getD b.toNat 0)
      simp only [List.length_cons]; omega
    · simp
theorem dms_length (up : List Int) (b : Int) : (dms up b).length ≤ up.length := dm_length _ _ _
theorem dm_in {up : List Int} {n : Nat} {m : Nat} {x : Int} (hx : up[m]? = some x) : dm up (n + 1) (m : Int) = (m : Int) :: dm up n x := by
  have hm := (List.getElem?_eq_some_iff.1 hx).1
  rw [dm, if_pos ⟨by omega, by omega⟩, show ((m : Int)).toNat = m from by omega, List.getD_eq_getElem?_getD, hx]; rfl
theorem dm_out {up : List Int} (n : Nat) {b : Int} (h : ¬ (0 ≤ b ∧ b < (up.length : Int))) : dm up n b = [] := by
  cases n with
  | zero => rfl
  | succ n => rw [dm, if_neg h]

set_option maxRecDepth 100000 in
set_option maxHeartbeats 1600000 in
theorem rdoms_any {w : World} {gv : Value} {st up : List Int} (b : Int) (h : GV w gv st up) (hN : up.length ≤ 17592186043904) :
    Calls Try.prog 12 #[gv, .int .i64 b] w fun e w' => ∃ v', e = .returned v' ∧ Gn w (dms up b) v' w' := by
  obtain ⟨a0, c0, a1, n1, c1, a2, n2, c2, a3, c3, a4, n4, c4, rfl, hst, hup⟩ := h
  have HC := hide (fun i x (hx : up[i]? = some x) => hup.at hx)
  obtain ⟨L, hL⟩ : ∃ L, Hid (up.length = L) := ⟨_, rfl⟩
  obtain ⟨R, hR⟩ : ∃ R, Hid (dms up b = R) := ⟨_, rfl⟩
  have HR0 : Hid (R = [] ++ dm up L b) := by unfold Hid; rw [← unhide hR, dms, unhide hL]; rfl
  rw [unhide hR]
  rw [unhide hL] at HC hN ⊢
  obtain ⟨U, hU⟩ : ∃ U, Hid (st.length = U) := ⟨_, rfl⟩
  rw [unhide hU]
  clear hst hup
  go_enter Try.func12, Try.ntmps12
  go_wp2_with fail
  go_loopg [1, 5] L (fun g t1 t5 wr => ∃ (i : Nat) (v : Value) (b' : Int) (l : List Int), Hid (i + g = L ∧ l.length = i) ∧ t1 = .int .i64 b' ∧ t5 = v ∧ Hid (R = l ++ dm up (L - i) b') ∧ Hid (Gx (w.alloc (.cells #[.slice a0 U c0, .slice a1 n1 c1, .slice a2 n2 c2, .slice a3 L c3, .slice a4 n4 c4] 25)) 1 enN l v wr))
  case atStart => exact ⟨0, _, b, [], by unfold Hid; exact ⟨by omega, rfl⟩, rfl, rfl, HR0, ⟨by simpa [flt] using Ro.nil _ _, Below.refl _ _, by simp [Value.ownBlock]⟩⟩
  case round =>
    obtain ⟨i, v, b', l, hi, rfl, rfl, hRl, hG⟩ := hrel
    clear HR0
    have hB := (unhide hG).2.1
    rw [World.size_alloc] at hB
    obtain ⟨_, _, _, k0, _, hB1, hlt1⟩ := box5 hB
    have HB1 := hide hB1
    obtain ⟨va, vc, ev, _, _⟩ := (unhide hG).1.shape
    have el := (unhide hi).2
    rw [el] at ev
    subst ev
    clear hB hB1
    by_cases hlt : i < L
    · by_cases hin : 0 ≤ b' ∧ b' < (L : Int)
      · obtain ⟨m, rfl⟩ : ∃ m : Nat, b' = (m : Int) := ⟨b'.toNat, by omega⟩
        have hm : m < L := by omega
        obtain ⟨x, hx⟩ : ∃ x, up[m]? = some x := ⟨_, List.getElem?_eq_getElem (by rw [unhide hL]; exact hm)⟩
        obtain ⟨bb, off, c', e, hbl, q0⟩ := unhide HC m x hx
        cases e
        have HRo := hide (unhide hG).1
        have i0 : (0 : Int) ≤ (m : Int) := by omega
        have i1 : (m : Int) < (L : Int) := by omega
        have i2 : (i : Int) < (L : Int) := by omega
        have hR2 : Hid (R = (l ++ [(m : Int)]) ++ dm up (L - (i + 1)) x) := by
          unfold Hid
          rw [unhide hRl, show L - i = (L - (i + 1)) + 1 from by omega, dm_in hx, List.append_assoc]; rfl
        have HEL := hide el
        clear hx hin el
        go_wp2_with (first | (at_builtin; refine wpList_appN rfl _ _ rfl _ l rfl (by rw [unhide HEL]; exact (by have := unhide HRo; rw [unhide HEL] at this; exact this.keep (fun g hg => Below.heap_alloc _ _ _ (this.lt g hg)))) ⟨wr.heap.size, 0, none⟩ 1 (m : Int) rfl (new_cells _ #[_] _) (by rw [unhide HEL]; omega) ?_))
        intro v' w' hr hg hat
        have hG2 := Gx.push (p := (m : Int)) (unhide hG) hr (by rw [unhide HEL]) hg (by simpa using hat)
        have hB2 := hG2.2.1
        rw [World.size_alloc] at hB2
        obtain ⟨_, _, _, kk0, _, hB3, hlt3⟩ := box5 hB2
        have k1 := (hB3.cell (p := ⟨bb, off + m, none⟩) hbl).trans q0
        have hbr := Nat.lt_of_lt_of_le hbl hB3.size
        have HG2 := hide hG2
        clear hr hg hat hG2 hB2 hB3 q0 k0
        go_wp2_with fail
        go_roundg (gk - 1)
        case measure => have := (unhide hi).1; omega
        case rel => exact ⟨i + 1, v', x, l ++ [(m : Int)], ⟨by have := (unhide hi).1; omega, by rw [List.length_append, unhide HEL]; rfl⟩, rfl, rfl, hR2, HG2⟩
      · have hend : R = l := by rw [unhide hRl, dm_out _ (by rw [unhide hL]; exact hin), List.append_nil]
        have i2 : (i : Int) < (L : Int) := by omega
        have HE := hide hend
        clear hend el
        by_cases hneg : b' < 0
        · have hn1 : ¬ (0 : Int) ≤ b' := by omega
          clear hin
          go_wp2_with fail
          go_ret
          refine ⟨_, rfl, ?_⟩
          rw [unhide HE]
          have g := unhide hG
          exact ⟨by simpa [(unhide hi).2] using g.1, unhide HB1, fun k hk => by have := g.2.2 k hk; rw [World.size_alloc] at this; omega⟩
        · have hn1 : (0 : Int) ≤ b' := by omega
          have hn2 : ¬ b' < (L : Int) := by omega
          clear hin hneg
          go_wp2_with fail
          go_ret
          refine ⟨_, rfl, ?_⟩
          rw [unhide HE]
          have g := unhide hG
          exact ⟨by simpa [(unhide hi).2] using g.1, unhide HB1, fun k hk => by have := g.2.2 k hk; rw [World.size_alloc] at this; omega⟩
    · have hiL : i = L := by have := (unhide hi).1; omega
      have hend : R = l := by rw [unhide hRl, hiL, Nat.sub_self]; exact List.append_nil _
      have HE := hide hend
      have i2 : ¬ (i : Int) < (L : Int) := by omega
      clear hend el hiL
      go_wp2_with fail
      go_ret
      refine ⟨_, rfl, ?_⟩
      rw [unhide HE]
      have g := unhide hG
      exact ⟨by simpa [(unhide hi).2] using g.1, unhide HB1, fun k hk => by have := g.2.2 k hk; rw [World.size_alloc] at this; omega⟩

set_option maxRecDepth 100000 in
set_option maxHeartbeats 1600000 in
theorem rdominates_any {w : World} {gv : Value} {st up : List Int} (a b : Int) (h : GV w gv st up) (hN : up.length ≤ 17592186043904) :
    Calls Try.prog 9 #[gv, .int .i64 a, .int .i64 b] w fun e w' => e = .returned (.bool (decide (a ∈ dms up b))) ∧ Below w.heap.size w w' := by
  have HD := hide (fun (W : World) (hW : Below w.heap.size w W) => rdoms_any b (h.below hW (Nat.le_refl _)) hN)
  obtain ⟨a0, c0, a1, n1, c1, a2, n2, c2, a3, c3, a4, n4, c4, rfl, hst, hup⟩ := h
  obtain ⟨L, hL⟩ : ∃ L, Hid (up.length = L) := ⟨_, rfl⟩
  obtain ⟨U, hU⟩ : ∃ U, Hid (st.length = U) := ⟨_, rfl⟩
  have hdl := dms_length up b
  obtain ⟨R, hR⟩ : ∃ R, Hid (dms up b = R) := ⟨_, rfl⟩
  obtain ⟨rb, hrb⟩ : ∃ rb, Hid (decide (a ∈ R) = rb) := ⟨_, rfl⟩
  rw [unhide hR] at HD hdl ⊢
  rw [unhide hrb]
  rw [unhide hL, unhide hU] at HD ⊢
  rw [unhide hL] at hN hdl
  clear hst hup
  go_enter Try.func9, Try.ntmps9
  go_wp2_with fail
  refine (unhide HD _ ((Below.refl _ w).alloc (Nat.le_refl _) _)).mono ?_
  rintro e w1 ⟨v1, rfl, hG1⟩
  have HRN := hide (Rn.of_ro hG1.1)
  have HB1 : Hid (Below w.heap.size w w1) := ((Below.refl _ w).alloc (Nat.le_refl _) _).trans (hG1.2.1.mono (by simp))
  have HC := hide (fun i x (hx : R[i]? = some x) => (unhide HRN).at hx)
  obtain ⟨va, vc, e1, _, _⟩ := (unhide HRN).shape
  obtain ⟨M, hM⟩ : ∃ M, Hid (R.length = M) := ⟨_, rfl⟩
  rw [unhide hM] at e1 HC hdl
  subst e1
  clear hG1 HRN HD
  go_wp2_with fail
  go_loopg [8] M (fun g t8 wr => ∃ (i : Nat), Hid (i + g = M) ∧ t8 = .int .i64 (i : Int) ∧ Hid (wr = w1) ∧ Hid (∀ j x, j < i → R[j]? = some x → x ≠ a))
  case atStart => exact ⟨0, by unfold Hid; omega, rfl, rfl, by unfold Hid; intro j x hj; omega⟩
  case round =>
    obtain ⟨i, hi, rfl, hw, hno⟩ := hrel
    by_cases hlt : i < M
    · obtain ⟨x, hx⟩ : ∃ x, R[i]? = some x := ⟨_, List.getElem?_eq_getElem (by rw [unhide hM]; exact hlt)⟩
      obtain ⟨bb, off, c', e, hbl, q0⟩ := unhide HC i x hx
      cases e
      have k0 : wr.cell? ⟨bb, off + i, none⟩ = some (.int .i64 x) := by rw [unhide hw]; exact q0
      have hbr : bb < wr.heap.size := by rw [unhide hw]; exact hbl
      have i0 : (0 : Int) ≤ (i : Int) := by omega
      have i1 : (i : Int) < (M : Int) := by omega
      have HX := hide hx
      clear q0 hx
      by_cases he : x = a
      · subst he
        have hb : rb = true := by rw [← unhide hrb]; exact decide_eq_true (List.mem_of_getElem? (unhide HX))
        subst hb
        go_wp2_with fail
        go_ret
        exact ⟨rfl, by rw [unhide hw]; exact unhide HB1⟩
      · have hne : (x == a) = false := by simpa using he
        go_wp2_with fail
        go_roundg (gk - 1)
        case measure => have := unhide hi; omega
        case rel => exact ⟨i + 1, by have := unhide hi; unfold Hid; omega, by go_num, hw, by
          unfold Hid
          intro j y hj hy
          by_cases q : j = i
          · subst q; rw [unhide HX] at hy; cases hy; exact he
          · exact unhide hno j y (by omega) hy⟩
    · have hb : rb = false := by
        rw [← unhide hrb]
        refine decide_eq_false (fun hm => ?_)
        obtain ⟨j, hj, e⟩ := List.getElem_of_mem hm
        exact unhide hno j _ (by have := unhide hi; rw [unhide hM] at hj; omega) (List.getElem?_eq_getElem hj) e
      subst hb
      have i1 : ¬ (i : Int) < (M : Int) := by omega
      go_wp2_with fail
      go_ret
      exact ⟨rfl, by rw [unhide hw]; exact unhide HB1⟩

/-- A number from 0 on, below n. -/
def pck (k : Int) (n : Int) : Int := if k.tmod n < 0 then k.tmod n + n else k.tmod n
set_option maxRecDepth 100000 in
set_option maxHeartbeats 1600000 in
theorem pick_any (w : World) (k n : Int) (hn : 1 ≤ n) (hm : n ≤ 17592186044416) :
    Calls Try.prog 15 #[.int .i64 k, .int .i64 n] w fun e w' => e = .returned (.int .i64 (pck k n)) ∧ w' = w := by
  have h1 : ¬ n < 1 := by omega
  have h0 : ¬ n = 0 := by omega
  have hlo : -n < k.tmod n := by have := Int.lt_tmod_of_pos k (show 0 < n by omega); exact this
  have hhi : k.tmod n < n := Int.tmod_lt_of_pos k (by omega)
  go_enter Try.func15, Try.ntmps15
  by_cases hneg : k.tmod n < 0
  · have e : pck k n = k.tmod n + n := if_pos hneg
    rw [e]
    go_wp2_with fail
    go_ret
    exact ⟨rfl, rfl⟩
  · have e : pck k n = k.tmod n := if_neg hneg
    rw [e]
    go_wp2_with fail
    go_ret
    exact ⟨rfl, rfl⟩
end Go.Proofs.Ytfeombhileiamaa
