/-
  writeList.
-/
import Derived.Test.YtlogmdldjmkkjaaGreatDoorDDe
import Derived.Test.YtlogmdldjmkkjaaGreatDoorText
import Derived.Test.YtlogmdldjmkkjaaGreatDoorDone
namespace Go.Proofs.YtlogmdldjmkkjaaGreatDoor
open Go.RowKit
set_option linter.unusedVariables false
set_option linter.unusedSimpArgs false

/-- Behind a call of the writer at p. -/
def WQ (p : Nat) (v : Value) (w : World) (bs : List Int) (e : Ending) (w' : World) : Prop := e = .returned (.tuple #[]) ∧ ∃ v', Wtr w' p v' bs ∧ WStep p w v w' v'
/-- The form of a count. -/
def ufm (n : Int) : List Int := Wm.uform 9 n.toNat
theorem Wtr.al {w : World} {p : Nat} {v : Value} {bs : List Int} (h : Wtr w p v bs) (o : Obj) : Wtr (w.alloc o) p v bs := h.keep (S := fun _ => False) ((Fr.refl _ w).alloc o) (fun e => e) (fun _ _ e => e)
theorem WStep.al {p : Nat} {w : World} {v : Value} (o : Obj) : WStep p w v (w.alloc o) v := ⟨(Fr.refl _ w).alloc o, .inl rfl⟩
/-- A box that is none of the writer's. -/
theorem Bx.wstep {w w' : World} {p n b : Nat} {v v' : Value} {l : List Value} (h : Bx w n b l) (k : WStep p w v w' v') (hp : b ≠ p) (hv : v.ownBlock ≠ some b) : Bx w' n b l := h.fr k.fr (fun q => by rcases q with q | q; exact hp q; exact hv q)
theorem WStep.off {w w' : World} {p b : Nat} {v v' : Value} (k : WStep p w v w' v') (hb : b < w.heap.size) (hv : v.ownBlock ≠ some b) : v'.ownBlock ≠ some b := by
  intro e
  rcases k.row with q | q
  · exact hv (q ▸ e)
  · have := q b e; omega
set_option maxRecDepth 100000 in
theorem wCnt_any {w : World} {p : Nat} {v : Value} {bs : List Int} (h : Wtr w p v bs) (hb : bs.length + 10 ≤ 140737488355328) (n : Int) (h0 : 0 ≤ n) (h1 : n ≤ 9223372036854775807) : Calls Tryz.prog 73 #[.pointer (some ⟨p, 0, none⟩), .int .i64 n] w fun e w' => WQ p v w (bs ++ ufm n) e w' := by
  obtain ⟨k, rfl⟩ := Int.eq_ofNat_of_zero_le h0
  have H := hide (uint_any p v bs k w h hb (by omega))
  have e : ufm (k : Int) = Wm.uform 9 k := rfl
  rw [e]
  clear h hb e
  go_enter Tryz.func73, Tryz.ntmps73
  go_wp2_with fail
  refine (unhide H).mono ?_
  rintro e w' ⟨rfl, h2⟩
  go_wp2_with fail
  go_end0
  exact ⟨rfl, h2⟩
theorem ufm_len (n : Int) : (ufm n).length ≤ 10 := by
  unfold ufm
  rw [Wm.uform_length]; exact (Wm.ulen_bd 9 _).2
/-- The form of a handler. -/
def hfm (h : Hd) : List Int := ufm h.frm ++ (ufm h.to ++ (ufm h.target ++ ufm h.height))
theorem hfm_len (h : Hd) : (hfm h).length ≤ 40 := by
  unfold hfm
  have := ufm_len h.frm; have := ufm_len h.to; have := ufm_len h.target; have := ufm_len h.height
  simp only [List.length_append]; omega
def NnH (h : Hd) : Prop := (0 ≤ h.frm ∧ h.frm ≤ 9223372036854775807) ∧ (0 ≤ h.to ∧ h.to ≤ 9223372036854775807) ∧ (0 ≤ h.target ∧ h.target ≤ 9223372036854775807) ∧ (0 ≤ h.height ∧ h.height ≤ 9223372036854775807)
set_option maxRecDepth 100000 in
set_option maxHeartbeats 1600000 in
theorem wHd_any {w : World} {p : Nat} {v : Value} {bs : List Int} (h : Wtr w p v bs) (hb : bs.length + 40 ≤ 140737488355328) (a1 a2 a3 a4 : Int) (hh : NnH ⟨a1, a2, a3, a4⟩) : Calls Tryz.prog 79 #[.pointer (some ⟨p, 0, none⟩), .agg #[.int .i64 a1, .int .i64 a2, .int .i64 a3, .int .i64 a4]] w fun e w' => WQ p v w (bs ++ hfm ⟨a1, a2, a3, a4⟩) e w' := by
  obtain ⟨⟨p1, q1⟩, ⟨p2, q2⟩, ⟨p3, q3⟩, ⟨p4, q4⟩⟩ := hh
  simp only at p1 q1 p2 q2 p3 q3 p4 q4
  have u1 := ufm_len a1
  have u2 := ufm_len a2
  have u3 := ufm_len a3
  have u4 := ufm_len a4
  obtain ⟨W1, eW1⟩ : ∃ W1, Hid (W1 = w.alloc (.cells #[.int .i64 a1, .int .i64 a2, .int .i64 a3, .int .i64 a4] 112)) := ⟨_, rfl⟩
  have HB : Hid (Bx W1 4 w.heap.size [.int .i64 a1, .int .i64 a2, .int .i64 a3, .int .i64 a4]) := by rw [unhide eW1]; exact Bx.new rfl rfl
  have HT : Hid (Wtr W1 p v bs) := by rw [unhide eW1]; exact h.al _
  have HS : Hid (WStep p w v W1 v) := by rw [unhide eW1]; exact WStep.al _
  have HP : Hid (w.heap.size ≠ p) := by have := h.lt; unfold Hid; omega
  have HV : Hid (v.ownBlock ≠ some w.heap.size) := fun e => by have := h.row_lt _ e; omega
  have H1 := hide (fun (wx : World) (vx : Value) (bx : List Int) (hx : Wtr wx p vx bx) (hl : bx.length + 10 ≤ 140737488355328) => wCnt_any hx hl a1 p1 q1)
  have H2 := hide (fun (wx : World) (vx : Value) (bx : List Int) (hx : Wtr wx p vx bx) (hl : bx.length + 10 ≤ 140737488355328) => wCnt_any hx hl a2 p2 q2)
  have H3 := hide (fun (wx : World) (vx : Value) (bx : List Int) (hx : Wtr wx p vx bx) (hl : bx.length + 10 ≤ 140737488355328) => wCnt_any hx hl a3 p3 q3)
  have H4 := hide (fun (wx : World) (vx : Value) (bx : List Int) (hx : Wtr wx p vx bx) (hl : bx.length + 10 ≤ 140737488355328) => wCnt_any hx hl a4 p4 q4)
  clear h p1 q1 p2 q2 p3 q3 p4 q4
  go_enter Tryz.func79, Tryz.ntmps79
  go_wp2_with fail
  rw [← unhide eW1]
  clear eW1
  refine (unhide H1 W1 v _ (unhide HT) (by (try simp only [List.length_append]); omega)).mono ?_
  rintro e W2 ⟨rfl, v1, ht, hst⟩
  have HV0 := HV
  have HV : Hid (v1.ownBlock ≠ some w.heap.size) := hst.off (unhide HB).lt (unhide HV)
  have HB : Hid (Bx W2 4 w.heap.size [.int .i64 a1, .int .i64 a2, .int .i64 a3, .int .i64 a4]) := (unhide HB).wstep hst (unhide HP) (unhide HV0)
  have HT := hide ht
  have HS : Hid (WStep p w v W2 v1) := (unhide HS).trans hst
  have c1 := (unhide HB).cell (j := 1) rfl
  clear ht hst
  go_wp2_with fail
  clear c1
  refine (unhide H2 W2 v1 _ (unhide HT) (by (try simp only [List.length_append]); omega)).mono ?_
  rintro e W3 ⟨rfl, v2, ht, hst⟩
  have HV0 := HV
  have HV : Hid (v2.ownBlock ≠ some w.heap.size) := hst.off (unhide HB).lt (unhide HV)
  have HB : Hid (Bx W3 4 w.heap.size [.int .i64 a1, .int .i64 a2, .int .i64 a3, .int .i64 a4]) := (unhide HB).wstep hst (unhide HP) (unhide HV0)
  have HT := hide ht
  have HS : Hid (WStep p w v W3 v2) := (unhide HS).trans hst
  have c2 := (unhide HB).cell (j := 2) rfl
  clear ht hst
  go_wp2_with fail
  clear c2
  refine (unhide H3 W3 v2 _ (unhide HT) (by (try simp only [List.length_append]); omega)).mono ?_
  rintro e W4 ⟨rfl, v3, ht, hst⟩
  have HV0 := HV
  have HV : Hid (v3.ownBlock ≠ some w.heap.size) := hst.off (unhide HB).lt (unhide HV)
  have HB : Hid (Bx W4 4 w.heap.size [.int .i64 a1, .int .i64 a2, .int .i64 a3, .int .i64 a4]) := (unhide HB).wstep hst (unhide HP) (unhide HV0)
  have HT := hide ht
  have HS : Hid (WStep p w v W4 v3) := (unhide HS).trans hst
  have c3 := (unhide HB).cell (j := 3) rfl
  clear ht hst
  go_wp2_with fail
  clear c3
  refine (unhide H4 W4 v3 _ (unhide HT) (by (try simp only [List.length_append]); omega)).mono ?_
  rintro e W5 ⟨rfl, v4, ht, hst⟩
  have HV0 := HV
  have HV : Hid (v4.ownBlock ≠ some w.heap.size) := hst.off (unhide HB).lt (unhide HV)
  have HB : Hid (Bx W5 4 w.heap.size [.int .i64 a1, .int .i64 a2, .int .i64 a3, .int .i64 a4]) := (unhide HB).wstep hst (unhide HP) (unhide HV0)
  have HT := hide ht
  have HS : Hid (WStep p w v W5 v4) := (unhide HS).trans hst
  clear ht hst
  go_wp2_with fail
  go_end0
  refine ⟨rfl, v4, ?_, unhide HS⟩
  have := unhide HT
  simp only [List.append_assoc] at this
  exact this

set_option linter.unusedVariables false
set_option linter.unusedSimpArgs false

/-- The writer's own lies above. -/
def Hi (w0 : World) (p : Nat) (v : Value) : Prop := w0.heap.size ≤ p ∧ ∀ k, v.ownBlock = some k → w0.heap.size ≤ k
theorem Hi.step {w0 w w' : World} {p : Nat} {v v' : Value} (h : Hi w0 p v) (k : WStep p w v w' v') (hs : w0.heap.size ≤ w.heap.size) : Hi w0 p v' ∧ Below w0.heap.size w w' := by
  refine ⟨⟨h.1, fun i hi => ?_⟩, k.fr.below hs (fun i hi q => ?_)⟩
  · rcases k.row with q | q
    · exact h.2 i (q ▸ hi)
    · have := q i hi; omega
  · rcases q with q | q
    · have := h.1; omega
    · have := h.2 i q; omega
theorem Below.heldInW {B : Nat} {w a : World} (h : Below B w a) {p : Addr} {v : Value} (hp : p.block < B) (hc : w.cell? p = some v) : a.cell? p = some v := (h.cell hp).trans hc
/-- The form of a list. -/
def lfm {T : Type} (f : T → List Int) (l : List T) : List Int := ufm l.length ++ l.flatMap f
theorem fm_take {T : Type} (f : T → List Int) {l : List T} {i : Nat} {x : T} (h : l[i]? = some x) : (l.take (i + 1)).flatMap f = (l.take i).flatMap f ++ f x := by
  rw [List.take_add_one, h]; simp
theorem fm_len {T : Type} (f : T → List Int) (m : Nat) : ∀ (l : List T), (∀ x ∈ l, (f x).length ≤ m) → (l.flatMap f).length ≤ l.length * m := by
  intro l
  induction l with
  | nil => intro _; simp
  | cons a r ih =>
    intro h
    have h1 := ih (fun x hx => h x (List.mem_cons_of_mem _ hx))
    have h2 := h a (by simp)
    simp only [List.flatMap_cons, List.length_append, List.length_cons, Nat.add_mul, Nat.one_mul]
    omega

set_option maxRecDepth 100000 in
set_option maxHeartbeats 3200000 in
theorem wLH_any {w0 w : World} {p : Nat} {v lv : Value} {bs : List Int} {l : List Hd} (h : Wtr w p v bs) (hi : Hi w0 p v) (hB : Below w0.heap.size w0 w) (hl : Rx w0 4 lv l.length (flt enH l)) (hok : ∀ x ∈ l, NnH x) (hn : l.length ≤ 100000) (hb : bs.length ≤ 1000000000000) : Calls Tryz.prog 78 #[.pointer (some ⟨p, 0, none⟩), lv, .func (Fn.func 79) #[] #[]] w fun e w' => WQ p v w (bs ++ lfm hfm l) e w' := by
  have HC := hide (fun i x (hx : l[i]? = some x) => Rx.elem zH hl hx)
  obtain ⟨la, lc, rfl⟩ : ∃ la lc, lv = .slice la l.length lc := by obtain ⟨_, a, c, e, _⟩ := hl; exact ⟨a, c, e⟩
  obtain ⟨n, hN⟩ : ∃ n, Hid (l.length = n) := ⟨_, rfl⟩
  rw [unhide hN] at hn HC ⊢
  have H1 := hide (wCnt_any h (by omega) (n : Int) (by omega) (by omega))
  have HOK := hide hok
  have HS0 : Hid (w0.heap.size ≤ w.heap.size) := hB.size
  have HB := hide hB
  have HI := hide hi
  have u0 := ufm_len (n : Int)
  clear h hi hB hl hok
  go_enter Tryz.func78, Tryz.ntmps78
  go_wp2_with fail
  refine (unhide H1).mono ?_
  rintro e W1 ⟨rfl, v1, ht, hst⟩
  obtain ⟨hi1, hb1⟩ := (unhide HI).step hst (unhide HS0)
  have HT1 : Hid (Wtr W1 p v1 (bs ++ (ufm n ++ (l.take 0).flatMap hfm))) := by unfold Hid; simpa using ht
  have HS1 := hide hst
  have HI1 := hide hi1
  have HB1 : Hid (Below w0.heap.size w0 W1) := (unhide HB).trans hb1
  clear ht hst hi1 hb1
  go_wp2_with fail
  go_loopg [14] n (fun gg t14 wr => ∃ (i : Nat) (vr : Value), Hid (i + gg = n) ∧ t14 = .int .i64 (i : Int) ∧ Hid (Wtr wr p vr (bs ++ (ufm n ++ (l.take i).flatMap hfm))) ∧ Hid (WStep p w v wr vr) ∧ Hid (Hi w0 p vr) ∧ Hid (Below w0.heap.size w0 wr))
  case atStart => exact ⟨0, v1, by unfold Hid; omega, rfl, HT1, HS1, HI1, HB1⟩
  case round =>
    obtain ⟨i, vr, hi, rfl, hT, hS, hH, hBl⟩ := hrel
    by_cases hlt : i < n
    · obtain ⟨x, hx⟩ : ∃ x, l[i]? = some x := ⟨_, List.getElem?_eq_getElem (by rw [unhide hN]; exact hlt)⟩
      obtain ⟨b, off, cap, e, _, _, hbl, hcs⟩ := unhide HC i x hx
      simp only [Value.slice.injEq] at e
      obtain ⟨e1, -, e2⟩ := e
      subst e1
      subst e2
      have hkx := unhide HOK x (List.mem_of_getElem? hx)
      obtain ⟨a1, a2, a3, a4⟩ := x
      have c0 := Below.heldInW (unhide hBl) hbl (hcs 0 _ rfl)
      have c1 := Below.heldInW (unhide hBl) hbl (hcs 1 _ rfl)
      have c2 := Below.heldInW (unhide hBl) hbl (hcs 2 _ rfl)
      have c3 := Below.heldInW (unhide hBl) hbl (hcs 3 _ rfl)
      simp only [Nat.add_zero] at c0
      have hwr : b < wr.heap.size := Nat.lt_of_lt_of_le hbl (unhide hBl).size
      have hfl : ((l.take i).flatMap hfm).length ≤ i * 40 := by
        have := fm_len hfm 40 (l.take i) (fun x hx => hfm_len _)
        rw [List.length_take, unhide hN, Nat.min_eq_left (by omega)] at this
        exact this
      have HH := hide (fun (wx : World) (hx : Wtr wx p vr (bs ++ (ufm n ++ (l.take i).flatMap hfm))) => wHd_any hx (by simp only [List.length_append]; omega) a1 a2 a3 a4 hkx)
      have HX := hide hx
      have HTA : Hid (Wtr (wr.alloc (.cells #[.int .i64 a1, .int .i64 a2, .int .i64 a3, .int .i64 a4] 112)) p vr (bs ++ (ufm n ++ (l.take i).flatMap hfm))) := (unhide hT).al _
      have i1 : (0 : Int) ≤ (i : Int) := by omega
      have i2 : (i : Int) < (n : Int) := by omega
      clear hcs hx hkx hfl
      go_wp2_with fail
      refine (unhide HH _ (unhide HTA)).mono ?_
      rintro e X ⟨rfl, v2, ht, hst⟩
      obtain ⟨hi2, hb2⟩ := (unhide hH).step hst (by simp; have := (unhide hBl).size; omega)
      have HT2 : Hid (Wtr X p v2 (bs ++ (ufm n ++ (l.take (i + 1)).flatMap hfm))) := by
        rw [Hid, fm_take hfm (unhide HX)]
        simpa [List.append_assoc] using ht
      have HS2 : Hid (WStep p w v X v2) := ((unhide hS).trans (WStep.al _)).trans hst
      have HI2 := hide hi2
      have HB2 : Hid (Below w0.heap.size w0 X) := (unhide hBl).trans (((Below.refl _ wr).alloc (unhide hBl).size _).trans hb2)
      clear ht hst hi2 hb2
      go_wp2_with fail
      go_roundg (gk - 1)
      case measure => have := unhide hi; omega
      case rel => exact ⟨i + 1, v2, by have := unhide hi; unfold Hid; omega, by go_num, HT2, HS2, HI2, HB2⟩
    · have hin : n = i := by have := unhide hi; omega
      subst hin
      have HTf : Hid (Wtr wr p vr (bs ++ lfm hfm l)) := by
        have := unhide hT
        rw [List.take_of_length_le (by rw [unhide hN]; exact Nat.le_refl _)] at this
        unfold Hid lfm
        rw [unhide hN]
        exact this
      have i2 : ¬ (n : Int) < (n : Int) := by omega
      go_wp2_with fail
      go_end0
      exact ⟨rfl, vr, unhide HTf, unhide hS⟩

set_option linter.unusedVariables false
set_option linter.unusedSimpArgs false

/-- The form of a constant. -/
def cfm (c : Cn) : List Int := c.kind :: (if c.kind = 3 then wpre (IntKind.u64.wrap c.n).toNat 8 else Wm.uform 9 c.text.size ++ strI c.text)
def NnC (c : Cn) : Prop := (c.kind = 3 ∨ c.kind = 4) ∧ c.text.size ≤ 4096 ∧ I64 c.n
theorem cfm_len {c : Cn} (h : NnC c) : (cfm c).length ≤ 5000 := by
  unfold cfm
  have h1 := ufm_len (c.text.size : Int)
  have e : ufm (c.text.size : Int) = Wm.uform 9 c.text.size := rfl
  rw [e] at h1
  have h2 : (strI c.text).length = c.text.size := strI_length _
  split
  · have : (wpre (IntKind.u64.wrap c.n).toNat 8).length = 8 := wpre_length _ _
    simp only [List.length_cons]; omega
  · simp only [List.length_cons, List.length_append]; have := h.2.1; omega
set_option maxRecDepth 100000 in
set_option maxHeartbeats 1600000 in
theorem wCn_any {w : World} {p : Nat} {v : Value} {bs : List Int} (h : Wtr w p v bs) (hb : bs.length + 5000 ≤ 140737488355328) (a1 a2 : Int) (a3 : ByteArray) (hc : NnC ⟨a1, a2, a3⟩) : Calls Tryz.prog 36 #[.pointer (some ⟨p, 0, none⟩), .agg #[.int .i64 a1, .int .i64 a2, .string a3]] w fun e w' => WQ p v w (bs ++ cfm ⟨a1, a2, a3⟩) e w' := by
  obtain ⟨hk, hs, hn⟩ := hc
  simp only at hk hs hn
  obtain ⟨W1, eW1⟩ : ∃ W1, Hid (W1 = w.alloc (.cells #[.int .i64 a1, .int .i64 a2, .string a3] 69)) := ⟨_, rfl⟩
  have HB : Hid (Bx W1 3 w.heap.size [.int .i64 a1, .int .i64 a2, .string a3]) := by rw [unhide eW1]; exact Bx.new rfl rfl
  have HT : Hid (Wtr W1 p v bs) := by rw [unhide eW1]; exact h.al _
  have HS : Hid (WStep p w v W1 v) := by rw [unhide eW1]; exact WStep.al _
  have HP : Hid (w.heap.size ≠ p) := by have := h.lt; unfold Hid; omega
  have HV : Hid (v.ownBlock ≠ some w.heap.size) := fun e => by have := h.row_lt _ e; omega
  have H1 := hide (byte_any p v bs a1 W1 (unhide HT) (by omega))
  have H2 := hide (fun (wx : World) (vx : Value) (bx : List Int) (hx : Wtr wx p vx bx) (hl : bx.length + 8 ≤ 140737488355328) => word_any p vx bx (IntKind.u64.wrap a2).toNat wx hx hl)
  have H3 := hide (fun (wx : World) (vx : Value) (bx : List Int) (hx : Wtr wx p vx bx) (hl : bx.length + 10 + a3.size ≤ 140737488355328) => text_any p vx bx a3 wx hx hl)
  have hw : IntKind.u64.wrap a2 = ((IntKind.u64.wrap a2).toNat : Int) := by rw [IntKind.wrap_u64]; omega
  have HW := hide hw
  have hN := hide hn
  clear hw
  clear h hn
  rcases hk with hk | hk
  · subst hk
    go_enter Tryz.func36, Tryz.ntmps36
    go_wp2_with fail
    rw [← unhide eW1]
    clear eW1
    refine (unhide H1).mono ?_
    rintro e W2 ⟨rfl, v1, ht, hst⟩
    have HB : Hid (Bx W2 3 w.heap.size [.int .i64 3, .int .i64 a2, .string a3]) := (unhide HB).wstep hst (unhide HP) (unhide HV)
    have HT := hide ht
    have HS : Hid (WStep p w v W2 v1) := (unhide HS).trans hst
    have c0 := (unhide HB).cell (j := 0) rfl
    have c1 := (unhide HB).cell (j := 1) rfl
    have c2 := (unhide HB).cell (j := 2) rfl
    clear ht hst
    go_wp2_with fail
    have h2 := unhide H2 W2 v1 _ (unhide HT) (by simp only [List.length_append, List.length_singleton]; omega)
    rw [← unhide HW] at h2
    refine h2.mono ?_
    rintro e W3 ⟨rfl, v2, ht, hst⟩
    go_wp2_with fail
    go_end0
    refine ⟨rfl, v2, ?_, (unhide HS).trans hst⟩
    simpa [cfm, List.append_assoc] using ht
  · subst hk
    go_enter Tryz.func36, Tryz.ntmps36
    go_wp2_with fail
    rw [← unhide eW1]
    clear eW1
    refine (unhide H1).mono ?_
    rintro e W2 ⟨rfl, v1, ht, hst⟩
    have HB : Hid (Bx W2 3 w.heap.size [.int .i64 4, .int .i64 a2, .string a3]) := (unhide HB).wstep hst (unhide HP) (unhide HV)
    have HT := hide ht
    have HS : Hid (WStep p w v W2 v1) := (unhide HS).trans hst
    have c0 := (unhide HB).cell (j := 0) rfl
    have c1 := (unhide HB).cell (j := 1) rfl
    have c2 := (unhide HB).cell (j := 2) rfl
    clear ht hst
    go_wp2_with fail
    refine (unhide H3 W2 v1 _ (unhide HT) (by simp only [List.length_append, List.length_singleton]; omega)).mono ?_
    rintro e W3 ⟨rfl, v2, ht, hst⟩
    go_wp2_with fail
    go_end0
    refine ⟨rfl, v2, ?_, (unhide HS).trans hst⟩
    simpa [cfm, List.append_assoc] using ht

set_option linter.unusedVariables false
set_option linter.unusedSimpArgs false

set_option maxRecDepth 100000 in
set_option maxHeartbeats 3200000 in
theorem wLC_any {w0 w : World} {p : Nat} {v lv : Value} {bs : List Int} {l : List Cn} (h : Wtr w p v bs) (hi : Hi w0 p v) (hB : Below w0.heap.size w0 w) (hl : Rx w0 3 lv l.length (flt enC l)) (hok : ∀ x ∈ l, NnC x) (hn : l.length ≤ 100000) (hb : bs.length ≤ 1000000000000) : Calls Tryz.prog 35 #[.pointer (some ⟨p, 0, none⟩), lv, .func (Fn.func 36) #[] #[]] w fun e w' => WQ p v w (bs ++ lfm cfm l) e w' := by
  have HC := hide (fun i x (hx : l[i]? = some x) => Rx.elem zC hl hx)
  obtain ⟨la, lc, rfl⟩ : ∃ la lc, lv = .slice la l.length lc := by obtain ⟨_, a, c, e, _⟩ := hl; exact ⟨a, c, e⟩
  obtain ⟨n, hN⟩ : ∃ n, Hid (l.length = n) := ⟨_, rfl⟩
  rw [unhide hN] at hn HC ⊢
  have H1 := hide (wCnt_any h (by omega) (n : Int) (by omega) (by omega))
  have HOK := hide hok
  have HS0 : Hid (w0.heap.size ≤ w.heap.size) := hB.size
  have HB := hide hB
  have HI := hide hi
  have u0 := ufm_len (n : Int)
  clear h hi hB hl hok
  go_enter Tryz.func35, Tryz.ntmps35
  go_wp2_with fail
  refine (unhide H1).mono ?_
  rintro e W1 ⟨rfl, v1, ht, hst⟩
  obtain ⟨hi1, hb1⟩ := (unhide HI).step hst (unhide HS0)
  have HT1 : Hid (Wtr W1 p v1 (bs ++ (ufm n ++ (l.take 0).flatMap cfm))) := by unfold Hid; simpa using ht
  have HS1 := hide hst
  have HI1 := hide hi1
  have HB1 : Hid (Below w0.heap.size w0 W1) := (unhide HB).trans hb1
  clear ht hst hi1 hb1
  go_wp2_with fail
  go_loopg [14] n (fun gg t14 wr => ∃ (i : Nat) (vr : Value), Hid (i + gg = n) ∧ t14 = .int .i64 (i : Int) ∧ Hid (Wtr wr p vr (bs ++ (ufm n ++ (l.take i).flatMap cfm))) ∧ Hid (WStep p w v wr vr) ∧ Hid (Hi w0 p vr) ∧ Hid (Below w0.heap.size w0 wr))
  case atStart => exact ⟨0, v1, by unfold Hid; omega, rfl, HT1, HS1, HI1, HB1⟩
  case round =>
    obtain ⟨i, vr, hi, rfl, hT, hS, hH, hBl⟩ := hrel
    by_cases hlt : i < n
    · obtain ⟨x, hx⟩ : ∃ x, l[i]? = some x := ⟨_, List.getElem?_eq_getElem (by rw [unhide hN]; exact hlt)⟩
      obtain ⟨b, off, cap, e, _, _, hbl, hcs⟩ := unhide HC i x hx
      simp only [Value.slice.injEq] at e
      obtain ⟨e1, -, e2⟩ := e
      subst e1
      subst e2
      have hkx := unhide HOK x (List.mem_of_getElem? hx)
      obtain ⟨a1, a2, a3⟩ := x
      have c0 := Below.heldInW (unhide hBl) hbl (hcs 0 _ rfl)
      have c1 := Below.heldInW (unhide hBl) hbl (hcs 1 _ rfl)
      have c2 := Below.heldInW (unhide hBl) hbl (hcs 2 _ rfl)
      simp only [Nat.add_zero] at c0
      have hwr : b < wr.heap.size := Nat.lt_of_lt_of_le hbl (unhide hBl).size
      have hfl : ((l.take i).flatMap cfm).length ≤ i * 5000 := by
        have := fm_len cfm 5000 (l.take i) (fun x hx => cfm_len (unhide HOK _ (List.mem_of_mem_take hx)))
        rw [List.length_take, unhide hN, Nat.min_eq_left (by omega)] at this
        exact this
      have HH := hide (fun (wx : World) (hx : Wtr wx p vr (bs ++ (ufm n ++ (l.take i).flatMap cfm))) => wCn_any hx (by simp only [List.length_append]; omega) a1 a2 a3 hkx)
      have HX := hide hx
      have HTA : Hid (Wtr (wr.alloc (.cells #[.int .i64 a1, .int .i64 a2, .string a3] 69)) p vr (bs ++ (ufm n ++ (l.take i).flatMap cfm))) := (unhide hT).al _
      have i1 : (0 : Int) ≤ (i : Int) := by omega
      have i2 : (i : Int) < (n : Int) := by omega
      clear hcs hx hkx hfl
      go_wp2_with fail
      refine (unhide HH _ (unhide HTA)).mono ?_
      rintro e X ⟨rfl, v2, ht, hst⟩
      obtain ⟨hi2, hb2⟩ := (unhide hH).step hst (by simp; have := (unhide hBl).size; omega)
      have HT2 : Hid (Wtr X p v2 (bs ++ (ufm n ++ (l.take (i + 1)).flatMap cfm))) := by
        rw [Hid, fm_take cfm (unhide HX)]
        simpa [List.append_assoc] using ht
      have HS2 : Hid (WStep p w v X v2) := ((unhide hS).trans (WStep.al _)).trans hst
      have HI2 := hide hi2
      have HB2 : Hid (Below w0.heap.size w0 X) := (unhide hBl).trans (((Below.refl _ wr).alloc (unhide hBl).size _).trans hb2)
      clear ht hst hi2 hb2
      go_wp2_with fail
      go_roundg (gk - 1)
      case measure => have := unhide hi; omega
      case rel => exact ⟨i + 1, v2, by have := unhide hi; unfold Hid; omega, by go_num, HT2, HS2, HI2, HB2⟩
    · have hin : n = i := by have := unhide hi; omega
      subst hin
      have HTf : Hid (Wtr wr p vr (bs ++ lfm cfm l)) := by
        have := unhide hT
        rw [List.take_of_length_le (by rw [unhide hN]; exact Nat.le_refl _)] at this
        unfold Hid lfm
        rw [unhide hN]
        exact this
      have i2 : ¬ (n : Int) < (n : Int) := by omega
      go_wp2_with fail
      go_end0
      exact ⟨rfl, vr, unhide HTf, unhide hS⟩
end Go.Proofs.YtlogmdldjmkkjaaGreatDoor
