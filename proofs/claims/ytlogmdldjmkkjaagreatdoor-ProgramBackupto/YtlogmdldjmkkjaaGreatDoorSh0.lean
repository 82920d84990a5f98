/-
  The smallest program and its bytes: what the kernel reckons; small.
-/
import Derived.Test.YtlogmdldjmkkjaaGreatDoorECl
import Derived.Test.YtlogmdldjmkkjaaGreatDoorEnc
import Derived.Test.YtlogmdldjmkkjaaGreatDoorWritten
import Derived.Maps.AppendAt
import Derived.Lib.SlBytesConst
import Derived.Test.YtlogmdldjmkkjaaGreatDoorSPm
namespace Go.Proofs.YtlogmdldjmkkjaaGreatDoor
open Go.RowKit
set_option linter.unusedVariables false
set_option linter.unusedSimpArgs false

/-- The form of a function. -/
def ffm (f : Fc) : List Int := (Wm.uform 9 f.name.size ++ strI f.name) ++ (ufm f.params ++ (ufm f.locals ++ (ufm (encB f.code).length ++ (encB f.code ++ lfm hfm f.hs))))
def NnF (f : Fc) : Prop := f.name.size ≤ 32 ∧ (0 ≤ f.params ∧ f.params ≤ 9223372036854775807) ∧ (0 ≤ f.locals ∧ f.locals ≤ 9223372036854775807) ∧ f.code.length ≤ 2000 ∧ (∀ q ∈ f.code, I64 q.1 ∧ I64 q.2) ∧ (∀ x ∈ f.hs, NnH x) ∧ f.hs.length ≤ 32 ∧ 0 < (encB f.code).length
theorem RtV.of_rx {w : World} {v : Value} {l : List (Int × Int)} (h : Rx w 2 v l.length (flt enI l)) : RtV w v l := by
  obtain ⟨a, cap, e, h1, h2⟩ : ∃ a cap, v = .slice a l.length cap ∧ l.length ≤ cap ∧ cap ≤ maxLen := by obtain ⟨_, a, cap, e, h1, h2, _⟩ := h; exact ⟨a, cap, e, h1, h2⟩
  refine ⟨a, cap, e, h1, h2, fun i q hq => ?_⟩
  obtain ⟨b, off, cap', e', _, _, hb, hc⟩ := Rx.elem zI h hq
  rw [e] at e'
  cases e'
  exact ⟨b, off, rfl, hb, by have := hc 0 _ rfl; rwa [Nat.add_zero] at this, hc 1 _ rfl⟩
theorem encB_lenW (l : List (Int × Int)) : (encB l).length ≤ 22000 := by
  unfold encB
  split
  · rename_i h
    have hl : l.length ≤ 2000 := by
      unfold encE at h
      split at h
      · simp at h
      · omega
    have := fm_len ifm 11 l (fun x _ => by have := opF_len (kd x.1.toNat) x.2; unfold ifm; simp only [List.length_cons]; omega)
    show (l.flatMap ifm).length ≤ _
    omega
  · simp
set_option maxRecDepth 100000 in
set_option maxHeartbeats 3200000 in
theorem wFn_any {w0 w : World} {p : Nat} {v : Value} {bs : List Int} {f : Fc} (h : Wtr w p v bs) (hi : Hi w0 p v) (hB : Below w0.heap.size w0 w) (hb : bs.length ≤ 500000000000) (nm : ByteArray) (pa lo : Int) (ca ha : Option Addr) (cn cc hn hc : Nat) (hF : FnV w0 f ⟨nm, pa, lo, .slice ca cn cc, .slice ha hn hc⟩) (hk : NnF f) : Calls Tryz.prog 38 #[.pointer (some ⟨p, 0, none⟩), .agg #[.string nm, .int .i64 pa, .int .i64 lo, .slice ca cn cc, .slice ha hn hc]] w fun e w' => WQ p v w (bs ++ ffm f) e w' := by
  obtain ⟨e1, e2, e3, hcv, hhv⟩ := hF
  simp only at e1 e2 e3 hcv hhv
  subst e1
  subst e2
  subst e3
  obtain ⟨k1, ⟨k2, k3⟩, ⟨k4, k5⟩, k6, k7, k8, k9, k10⟩ := hk
  obtain ⟨W1, eW1⟩ : ∃ W1, Hid (W1 = w.alloc (.cells #[.string f.name, .int .i64 f.params, .int .i64 f.locals, .slice ca cn cc, .slice ha hn hc] 73)) := ⟨_, rfl⟩
  have HBx : Hid (Bx W1 5 w.heap.size [.string f.name, .int .i64 f.params, .int .i64 f.locals, .slice ca cn cc, .slice ha hn hc]) := by rw [unhide eW1]; exact Bx.new rfl rfl
  have HT : Hid (Wtr W1 p v bs) := by rw [unhide eW1]; exact h.al _
  have HS : Hid (WStep p w v W1 v) := by rw [unhide eW1]; exact WStep.al _
  have HP : Hid (w.heap.size ≠ p) := by have := h.lt; unfold Hid; omega
  have HV : Hid (v.ownBlock ≠ some w.heap.size) := fun e => by have := h.row_lt _ e; omega
  have HI := hide hi
  have HBl : Hid (Below w0.heap.size w0 W1) := by rw [unhide eW1]; exact hB.alloc hB.size _
  have HCV := hide hcv
  have HHV := hide hhv
  have u1 := ufm_len f.params
  have u2 := ufm_len f.locals
  have u3 : (Wm.uform 9 f.name.size).length ≤ 10 := ufm_len (f.name.size : Int)
  have u4 := strI_length f.name
  have u5 : (encB f.code).length ≤ 22000 := encB_lenW _
  have u6 := ufm_len ((encB f.code).length : Int)
  have H1 := hide (text_any p v bs f.name W1 (unhide HT) (by omega))
  have H2 := hide (fun (wx : World) (vx : Value) (bx : List Int) (hx : Wtr wx p vx bx) (hl : bx.length + 10 ≤ 140737488355328) => wCnt_any hx hl f.params k2 k3)
  have H3 := hide (fun (wx : World) (vx : Value) (bx : List Int) (hx : Wtr wx p vx bx) (hl : bx.length + 10 ≤ 140737488355328) => wCnt_any hx hl f.locals k4 k5)
  have K6 := hide k6
  have K7 := hide k7
  have K8 := hide k8
  have K9 := hide k9
  have K10 := hide k10
  clear h hi hB hcv hhv k2 k3 k4 k5 k6 k7 k8 k9 k10
  go_enter Tryz.func38, Tryz.ntmps38
  go_wp2_with fail
  rw [← unhide eW1]
  clear eW1
  refine (unhide H1).mono ?_
  rintro e W2 ⟨rfl, v1, ht, hst⟩
  have HV0 := HV
  have HV : Hid (v1.ownBlock ≠ some w.heap.size) := hst.off (unhide HBx).lt (unhide HV)
  have HBx : Hid (Bx W2 5 w.heap.size [.string f.name, .int .i64 f.params, .int .i64 f.locals, .slice ca cn cc, .slice ha hn hc]) := (unhide HBx).wstep hst (unhide HP) (unhide HV0)
  have HT := hide ht
  have HS : Hid (WStep p w v W2 v1) := (unhide HS).trans hst
  obtain ⟨hi', hb'⟩ := (unhide HI).step hst (unhide HBl).size
  have HI := hide hi'
  have HBl : Hid (Below w0.heap.size w0 W2) := (unhide HBl).trans hb'
  have c1 := (unhide HBx).cell (j := 1) rfl
  clear ht hst hi' hb'
  go_wp2_with fail
  clear c1
  refine (unhide H2 W2 v1 _ (unhide HT) (by simp only [List.length_append]; omega)).mono ?_
  rintro e W3 ⟨rfl, v2, ht, hst⟩
  have HV0 := HV
  have HV : Hid (v2.ownBlock ≠ some w.heap.size) := hst.off (unhide HBx).lt (unhide HV)
  have HBx : Hid (Bx W3 5 w.heap.size [.string f.name, .int .i64 f.params, .int .i64 f.locals, .slice ca cn cc, .slice ha hn hc]) := (unhide HBx).wstep hst (unhide HP) (unhide HV0)
  have HT := hide ht
  have HS : Hid (WStep p w v W3 v2) := (unhide HS).trans hst
  obtain ⟨hi', hb'⟩ := (unhide HI).step hst (unhide HBl).size
  have HI := hide hi'
  have HBl : Hid (Below w0.heap.size w0 W3) := (unhide HBl).trans hb'
  have c2 := (unhide HBx).cell (j := 2) rfl
  clear ht hst hi' hb'
  go_wp2_with fail
  clear c2
  refine (unhide H3 W3 v2 _ (unhide HT) (by simp only [List.length_append]; omega)).mono ?_
  rintro e W4 ⟨rfl, v3, ht, hst⟩
  have HV0 := HV
  have HV : Hid (v3.ownBlock ≠ some w.heap.size) := hst.off (unhide HBx).lt (unhide HV)
  have HBx : Hid (Bx W4 5 w.heap.size [.string f.name, .int .i64 f.params, .int .i64 f.locals, .slice ca cn cc, .slice ha hn hc]) := (unhide HBx).wstep hst (unhide HP) (unhide HV0)
  have HT := hide ht
  have HS : Hid (WStep p w v W4 v3) := (unhide HS).trans hst
  obtain ⟨hi', hb'⟩ := (unhide HI).step hst (unhide HBl).size
  have HI := hide hi'
  have HBl : Hid (Below w0.heap.size w0 W4) := (unhide HBl).trans hb'
  have c3 := (unhide HBx).cell (j := 3) rfl
  clear ht hst hi' hb'
  go_wp2_with fail
  clear c3
  refine (encode_any (RtV.of_rx ((unhide HCV).below (unhide HBl) (Nat.le_refl _))) (by have := unhide K6; omega) (unhide K7)).mono ?_
  rintro e W5 ⟨cv, rfl, how, hb5⟩
  have f5 : Fr (fun _ => False) W4 W5 := Fr.of_below hb5
  obtain ⟨g, xc, ecv, hgl, hgc⟩ : ∃ g cap, cv = .slice (some ⟨g, 0, none⟩) (encB f.code).length cap ∧ W4.heap.size ≤ g ∧ ∀ (j : Nat) (u : Value), ((encB f.code).map By)[j]? = some u → W5.cell? ⟨g, j, none⟩ = some u := by
    rcases how.2 with ⟨e, h0⟩ | ⟨g, cap, cu, e, hg, hh, _, _, hs5, ht5⟩
    · have := unhide K10; omega
    · refine ⟨g, cap, e, hg, fun j u hu => ?_⟩
      simp only [World.cell?, hh]
      have hj := (List.getElem?_eq_some_iff.1 hu).1
      rw [← ht5, List.getElem?_take, if_pos (by simp at hj ⊢; omega)] at hu
      simpa using hu
  subst ecv
  have hpg : p < W4.heap.size := (unhide HT).lt
  have hvg : v3.ownBlock ≠ some g := fun e => by have := (unhide HT).row_lt _ e; omega
  have hgs : g < W5.heap.size := by
    obtain ⟨u, hu⟩ : ∃ u, ((encB f.code).map By)[0]? = some u := ⟨_, List.getElem?_eq_getElem (by rw [List.length_map]; exact unhide K10)⟩
    exact World.block_lt_of_cell? _ _ (hgc 0 u hu)
  have HG := hide (show g ≠ p ∧ v3.ownBlock ≠ some g ∧ g < W5.heap.size from ⟨by omega, hvg, hgs⟩)
  have HGC := hide hgc
  have HT : Hid (Wtr W5 p v3 _) := (unhide HT).keep f5 (fun e => e) (fun _ _ e => e)
  have HS : Hid (WStep p w v W5 v3) := (unhide HS).trans ⟨Fr.of_below hb5, .inl rfl⟩
  have HBl : Hid (Below w0.heap.size w0 W5) := (unhide HBl).trans (hb5.mono (unhide HBl).size)
  have HBx : Hid (Bx W5 5 w.heap.size [.string f.name, .int .i64 f.params, .int .i64 f.locals, .slice ca cn cc, .slice ha hn hc]) := (unhide HBx).fr f5 (fun e => e)
  clear how hb5 f5 hgl hgc hpg hvg hgs
  go_wp2_with fail
  refine (wCnt_any (unhide HT) (by simp only [List.length_append]; omega) ((encB f.code).length : Int) (by omega) (by omega)).mono ?_
  rintro e W6 ⟨rfl, v5, ht, hst⟩
  have HV0 := HV
  have HV : Hid (v5.ownBlock ≠ some w.heap.size) := hst.off (unhide HBx).lt (unhide HV)
  have HBx : Hid (Bx W6 5 w.heap.size [.string f.name, .int .i64 f.params, .int .i64 f.locals, .slice ca cn cc, .slice ha hn hc]) := (unhide HBx).wstep hst (unhide HP) (unhide HV0)
  have HT := hide ht
  have HS : Hid (WStep p w v W6 v5) := (unhide HS).trans hst
  obtain ⟨hi', hb'⟩ := (unhide HI).step hst (unhide HBl).size
  have HI := hide hi'
  have HBl : Hid (Below w0.heap.size w0 W6) := (unhide HBl).trans hb'
  have hgc6 : ∀ (j : Nat) (u : Value), ((encB f.code).map By)[j]? = some u → W6.cell? ((⟨g, 0, none⟩ : Addr).add j) = some u := fun j u hu => by
    rw [Go.WideShapes.add_plain, Nat.zero_add]
    exact (hst.fr.cell (a := ⟨g, j, none⟩) (unhide HG).2.2 (fun q => by rcases q with q | q; exact (unhide HG).1 q; exact (unhide HG).2.1 q)).trans (unhide HGC j u hu)
  have HGC6 := hide hgc6
  clear ht hst hi' hb' hgc6
  go_wp2_with fail
  refine (raw_any p v5 _ ⟨g, 0, none⟩ xc (encB f.code) W6 (unhide HT) (by simp only [List.length_append]; omega) (unhide HGC6)).mono ?_
  rintro e W7 ⟨rfl, v6, ht, hst⟩
  have HV0 := HV
  have HV : Hid (v6.ownBlock ≠ some w.heap.size) := hst.off (unhide HBx).lt (unhide HV)
  have HBx : Hid (Bx W7 5 w.heap.size [.string f.name, .int .i64 f.params, .int .i64 f.locals, .slice ca cn cc, .slice ha hn hc]) := (unhide HBx).wstep hst (unhide HP) (unhide HV0)
  have HT := hide ht
  have HS : Hid (WStep p w v W7 v6) := (unhide HS).trans hst
  obtain ⟨hi', hb'⟩ := (unhide HI).step hst (unhide HBl).size
  have HI := hide hi'
  have HBl : Hid (Below w0.heap.size w0 W7) := (unhide HBl).trans hb'
  have c4 := (unhide HBx).cell (j := 4) rfl
  clear ht hst hi' hb'
  go_wp2_with fail
  clear c4
  refine (wLH_any (unhide HT) (unhide HI) (unhide HBl) (unhide HHV) (unhide K8) (by have := unhide K9; omega) (by simp only [List.length_append]; omega)).mono ?_
  rintro e W8 ⟨rfl, v7, ht, hst⟩
  go_wp2_with fail
  go_end0
  refine ⟨rfl, v7, ?_, (unhide HS).trans hst⟩
  simpa [ffm, List.append_assoc] using ht

set_option linter.unusedVariables false
set_option linter.unusedSimpArgs false

theorem lfm_len {T : Type} (f : T → List Int) (m : Nat) (l : List T) (h : ∀ x ∈ l, (f x).length ≤ m) : (lfm f l).length ≤ 10 + l.length * m := by
  unfold lfm
  have h1 := ufm_len (l.length : Int)
  have h2 := fm_len f m l h
  rw [List.length_append]; omega
theorem ffm_len {f : Fc} (h : NnF f) : (ffm f).length ≤ 24000 := by
  unfold ffm
  have u1 := ufm_len f.params
  have u2 := ufm_len f.locals
  have u3 : (Wm.uform 9 f.name.size).length ≤ 10 := ufm_len (f.name.size : Int)
  have u4 := strI_length f.name
  have u5 := encB_lenW f.code
  have u6 := ufm_len ((encB f.code).length : Int)
  have u7 := lfm_len hfm 40 f.hs (fun x _ => hfm_len x)
  obtain ⟨k1, _, _, _, _, _, k9, _⟩ := h
  simp only [List.length_append]
  omega
set_option maxRecDepth 100000 in
theorem wLen_any {w : World} {p : Nat} {v : Value} {bs : List Int} (h : Wtr w p v bs) : Calls Tryz.prog 39 #[.pointer (some ⟨p, 0, none⟩)] w fun e w' => e = .returned (.int .i64 (bs.length : Int)) ∧ w' = w := by
  have hc := h.cell
  obtain ⟨a, cap, rfl⟩ : ∃ a cap, v = .slice a bs.length cap := by
    rcases h.own.2 with ⟨e, h0⟩ | ⟨g, cap, cu, e, _⟩
    · exact ⟨none, 0, by rw [e, h0]⟩
    · exact ⟨_, cap, e⟩
  clear h
  go_enter Tryz.func39, Tryz.ntmps39
  go_wp2
  go_ret
  exact ⟨rfl, rfl⟩

set_option maxRecDepth 100000 in
set_option maxHeartbeats 3200000 in
theorem wLF_any {w0 w : World} {p : Nat} {v lv : Value} {bs : List Int} {l : List Fc} (h : Wtr w p v bs) (hi : Hi w0 p v) (hB : Below w0.heap.size w0 w) (hr : Rfs w0 lv l) (hok : ∀ x ∈ l, NnF x) (hn : l.length ≤ 100000) (hb : bs.length ≤ 100000000000) : Calls Tryz.prog 37 #[.pointer (some ⟨p, 0, none⟩), lv, .func (Fn.func 38) #[] #[]] w fun e w' => WQ p v w (bs ++ lfm ffm l) e w' := by
  obtain ⟨xs, hxl, hl, hfn⟩ := hr
  have HC := hide (fun i x (hx : xs[i]? = some x) => Rx.elem zF hl hx)
  obtain ⟨la, lc, rfl⟩ : ∃ la lc, lv = .slice la xs.length lc := by obtain ⟨_, a, c, e, _⟩ := hl; exact ⟨a, c, e⟩
  obtain ⟨n, hN⟩ : ∃ n, Hid (xs.length = n) := ⟨_, rfl⟩
  have hNl : Hid (l.length = n) := hxl.symm.trans (unhide hN)
  rw [unhide hNl] at hn
  rw [unhide hN] at HC ⊢
  have H1 := hide (wCnt_any h (by omega) (n : Int) (by omega) (by omega))
  have HOK := hide hok
  have HFN := hide hfn
  have HS0 : Hid (w0.heap.size ≤ w.heap.size) := hB.size
  have HB := hide hB
  have HI := hide hi
  have u0 := ufm_len (n : Int)
  clear h hi hB hl hok hfn hxl
  go_enter Tryz.func37, Tryz.ntmps37
  go_wp2_with fail
  refine (unhide H1).mono ?_
  rintro e W1 ⟨rfl, v1, ht, hst⟩
  obtain ⟨hi1, hb1⟩ := (unhide HI).step hst (unhide HS0)
  have HT1 : Hid (Wtr W1 p v1 (bs ++ (ufm n ++ (l.take 0).flatMap ffm))) := by unfold Hid; simpa using ht
  have HS1 := hide hst
  have HI1 := hide hi1
  have HB1 : Hid (Below w0.heap.size w0 W1) := (unhide HB).trans hb1
  clear ht hst hi1 hb1
  go_wp2_with fail
  go_loopg [14] n (fun gg t14 wr => ∃ (i : Nat) (vr : Value), Hid (i + gg = n) ∧ t14 = .int .i64 (i : Int) ∧ Hid (Wtr wr p vr (bs ++ (ufm n ++ (l.take i).flatMap ffm))) ∧ Hid (WStep p w v wr vr) ∧ Hid (Hi w0 p vr) ∧ Hid (Below w0.heap.size w0 wr))
  case atStart => exact ⟨0, v1, by unfold Hid; omega, rfl, HT1, HS1, HI1, HB1⟩
  case round =>
    obtain ⟨i, vr, hi, rfl, hT, hS, hH, hBl⟩ := hrel
    by_cases hlt : i < n
    · obtain ⟨x, hx⟩ : ∃ x, xs[i]? = some x := ⟨_, List.getElem?_eq_getElem (by rw [unhide hN]; exact hlt)⟩
      obtain ⟨f, hf⟩ : ∃ f, l[i]? = some f := ⟨_, List.getElem?_eq_getElem (by rw [unhide hNl]; exact hlt)⟩
      obtain ⟨b, off, cap, e, _, _, hbl, hcs⟩ := unhide HC i x hx
      simp only [Value.slice.injEq] at e
      obtain ⟨e1, -, e2⟩ := e
      subst e1
      subst e2
      have hkx := unhide HOK f (List.mem_of_getElem? hf)
      have hfx := unhide HFN i f x hf hx
      obtain ⟨nm, pa, lo, cv, hv⟩ := x
      obtain ⟨ca, cn, cc, rfl⟩ : ∃ ca cn cc, cv = .slice ca cn cc := by obtain ⟨_, _, _, ⟨_, a, c, e, _⟩, _⟩ := hfx; exact ⟨a, _, c, e⟩
      obtain ⟨ha, hm, hc, rfl⟩ : ∃ ca cn cc, hv = .slice ca cn cc := by obtain ⟨_, _, _, _, ⟨_, a, c, e, _⟩⟩ := hfx; exact ⟨a, _, c, e⟩
      have c0 := Below.heldInW (unhide hBl) hbl (hcs 0 _ rfl)
      have c1 := Below.heldInW (unhide hBl) hbl (hcs 1 _ rfl)
      have c2 := Below.heldInW (unhide hBl) hbl (hcs 2 _ rfl)
      have c3 := Below.heldInW (unhide hBl) hbl (hcs 3 _ rfl)
      have c4 := Below.heldInW (unhide hBl) hbl (hcs 4 _ rfl)
      simp only [Nat.add_zero] at c0
      have hwr : b < wr.heap.size := Nat.lt_of_lt_of_le hbl (unhide hBl).size
      have hfl : ((l.take i).flatMap ffm).length ≤ i * 24000 := by
        have := fm_len ffm 24000 (l.take i) (fun x hx => ffm_len (unhide HOK _ (List.mem_of_mem_take hx)))
        rw [List.length_take, unhide hNl, Nat.min_eq_left (by omega)] at this
        exact this
      have HTA : Hid (Wtr (wr.alloc (.cells #[.string nm, .int .i64 pa, .int .i64 lo, .slice ca cn cc, .slice ha hm hc] 73)) p vr (bs ++ (ufm n ++ (l.take i).flatMap ffm))) := (unhide hT).al _
      have HBA : Hid (Below w0.heap.size w0 (wr.alloc (.cells #[.string nm, .int .i64 pa, .int .i64 lo, .slice ca cn cc, .slice ha hm hc] 73))) := (unhide hBl).alloc (unhide hBl).size _
      have HH := hide (wFn_any (unhide HTA) (unhide hH) (unhide HBA) (by simp only [List.length_append]; omega) nm pa lo ca ha cn cc hm hc hfx hkx)
      have HX := hide hf
      have i1 : (0 : Int) ≤ (i : Int) := by omega
      have i2 : (i : Int) < (n : Int) := by omega
      clear hcs hx hkx hfl hfx hf
      go_wp2_with fail
      refine (unhide HH).mono ?_
      rintro e X ⟨rfl, v2, ht, hst⟩
      obtain ⟨hi2, hb2⟩ := (unhide hH).step hst (unhide HBA).size
      have HT2 : Hid (Wtr X p v2 (bs ++ (ufm n ++ (l.take (i + 1)).flatMap ffm))) := by
        rw [Hid, fm_take ffm (unhide HX)]
        simpa [List.append_assoc] using ht
      have HS2 : Hid (WStep p w v X v2) := ((unhide hS).trans (WStep.al _)).trans hst
      have HI2 := hide hi2
      have HB2 : Hid (Below w0.heap.size w0 X) := (unhide HBA).trans hb2
      clear ht hst hi2 hb2
      go_wp2_with fail
      go_roundg (gk - 1)
      case measure => have := unhide hi; omega
      case rel => exact ⟨i + 1, v2, by have := unhide hi; unfold Hid; omega, by go_num, HT2, HS2, HI2, HB2⟩
    · have hin : n = i := by have := unhide hi; omega
      subst hin
      have HTf : Hid (Wtr wr p vr (bs ++ lfm ffm l)) := by
        have := unhide hT
        rw [List.take_of_length_le (by rw [unhide hNl]; exact Nat.le_refl _)] at this
        unfold Hid lfm
        rw [unhide hNl]
        exact this
      have i2 : ¬ (n : Int) < (n : Int) := by omega
      go_wp2_with fail
      go_end0
      exact ⟨rfl, vr, unhide HTf, unhide hS⟩


theorem Rd.shapeR {w : World} {v : Value} {bs : List Int} (h : Rd w v bs) : ∃ a cap, v = .slice a bs.length cap := by
  rcases h with ⟨rfl, rfl⟩ | ⟨b, off, cap, rfl, _⟩
  · exact ⟨none, 0, rfl⟩
  · exact ⟨_, cap, rfl⟩
/-- A byte that a slice reads. -/
theorem Rd.at {w : World} {a : Option Addr} {len cap : Nat} {bs : List Int} (h : Rd w (.slice a len cap) bs) (i : Nat) (hi : i < bs.length) : ∃ b off, a = some ⟨b, off, none⟩ ∧ b < w.heap.size ∧ w.cell? ⟨b, off + i, none⟩ = some (.int .u8 (bs.getD i 0)) := by
  rcases h with ⟨_, rfl⟩ | ⟨b, off, cap', e, _, _, hb, hc⟩
  · simp at hi
  · simp only [Value.slice.injEq] at e
    exact ⟨b, off, e.1, hb, hc i hi⟩
/-- What holds of a row that is made byte by byte. -/
def Grows (w0 : World) (l : Value) (bs : List Int) (w : World) : Prop := w.ownsRow w0.heap.size 5 1 l bs.length (bs.map By) ∧ Below w0.heap.size w0 w
theorem take_getD0 (bs : List Int) (j : Nat) (hj : j < bs.length) : bs.take (j + 1) = bs.take j ++ [bs.getD j 0] := by
  rw [List.take_add_one]; simp [List.getD, hj]

theorem Grows.step {w0 wr w1 : World} {l v : Value} {bs : List Int} {b : Int} {o : Obj} {n : Nat} {xs : List Value} (h : Grows w0 l bs wr) (hown : w1.ownsRow w0.heap.size 5 1 v n xs) (hn : n = bs.length + 1) (hx : xs = bs.map By ++ [.int .u8 b]) (hg : (wr.alloc o).grownBy w1 l.ownBlock) : Grows w0 v (bs ++ [b]) w1 := by
  subst hn hx
  refine ⟨by simpa [By] using hown, ?_⟩
  have F : Fr (fun _ => False) w0 w1 := ((Fr.of_below h.2).alloc o).grown hg (fun k hk => .inl (h.1.lt k hk).1)
  exact F.below (Nat.le_refl _) (by simp)

set_option maxHeartbeats 1600000 in
set_option maxRecDepth 100000 in
theorem copyBytes_any (v : Value) (B : List Int) (w : World) (hR : Rd w v B) (hN : B.length ≤ 140737488355328) :
    Calls Tryz.prog 20 #[v] w fun e w' => ∃ v', e = .returned v' ∧ Grows w v' B w' := by
  obtain ⟨i0, hi0, hz0, hz1, hz2⟩ := info_parts Tryz.info5
  obtain ⟨a, cap, rfl⟩ := hR.shapeR
  have HR := hide hR
  obtain ⟨N, hNN⟩ : ∃ N, Hid (B.length = N) := ⟨_, rfl⟩
  rw [unhide hNN] at hN HR ⊢
  clear hR
  go_enter Tryz.func20, Tryz.ntmps20
  go_wp2
  go_loopg [3, 4] N (fun k l s wr => ∃ (j : Nat), Hid (j + k = N) ∧ s = .int .i64 (j : Int) ∧ Hid (Grows w l (B.take j) wr))
  case atStart => exact ⟨0, by unfold Hid; omega, rfl, by exact ⟨World.ownsRow_nil _ _ _ _, Below.refl _ _⟩⟩
  case round =>
    obtain ⟨j, hj, rfl, hG⟩ := hrel
    by_cases hlt : j < N
    · obtain ⟨cb, co, rfl, hcb, hc⟩ := (unhide HR).at j (by rw [unhide hNN]; exact hlt)
      have hcell : wr.cell? ⟨cb, co + j, none⟩ = some (.int .u8 (B.getD j 0)) := ((unhide hG).2.cell (p := ⟨cb, co + j, none⟩) hcb).trans hc
      have htk := hide (take_getD0 B j (by rw [unhide hNN]; exact hlt))
      have hlen : (B.take j).length = j := by rw [List.length_take, unhide hNN]; omega
      have hown := (unhide hG).1
      rw [hlen] at hown
      have HO := hide hown
      have hlen := hide hlen
      generalize B.getD j 0 = b at *
      have i1 : (0 : Int) ≤ (j : Int) := by omega
      have i2 : (j : Int) < (N : Int) := by omega
      clear hc hown
      go_wp2_with (first | (at_builtin; refine wpList_append_own_at _ rfl _ _ 27 rfl w.heap.size 5 i0 (.int .u8 0) 1 1 Tryz.underlying27 hi0 hz0 hz1 hz2 rfl (by decide) _ _ _ rfl ((unhide HO).alloc _) ⟨wr.heap.size, 0, none⟩ 1 1 [.int .u8 b] rfl rfl (cell_one_new _ _ _) (by simp [Value.oneCell']) (by unfold maxLen; omega) (by omega) (by have := (unhide hG).2.size; simp; omega) ?_))
      intro v' w1 hown' hgrow hnil hat
      have HN : Hid (Grows w v' (B.take (j + 1)) w1) := hide (by
        rw [unhide htk]
        exact (unhide hG).step hown' (by rw [unhide hlen]) (by rw [List.map_take]) hgrow)
      clear hown' hgrow hnil hat
      go_wp2
      go_roundg (gk - 1)
      case measure => have := unhide hj; omega
      case rel => exact ⟨j + 1, by have := unhide hj; unfold Hid; omega, by go_num, HN⟩
    · have hjN : j = N := by have := unhide hj; omega
      subst hjN
      have HG : Hid (Grows w u3 B wr) := by
        have h := unhide hG
        rw [List.take_of_length_le (by rw [unhide hNN]; exact Nat.le_refl _)] at h
        exact h
      clear hG
      go_wp2
      go_ret
      exact ⟨_, rfl, unhide HG⟩

set_option linter.unusedVariables false
set_option linter.unusedSimpArgs false

/-- The form of a program. -/
def pfm (p : Pg) : List Int := [80, 84, 80, 1] ++ (lfm cfm p.consts ++ lfm ffm p.funcs)
/-- What Encode answers. -/
noncomputable def enP (p : Pg) : List Int × Int := match ckF p with
  | some (_, _, y) => ([], y)
  | none => if 4194304 < (pfm p).length then ([], 5) else (pfm p, 0)
set_option maxRecDepth 100000 in
set_option maxHeartbeats 6400000 in
theorem enP_any {w : World} {ca fa : Option Addr} {cn cc fn fc : Nat} {p : Pg} (hp : PgV w (.agg #[.slice ca cn cc, .slice fa fn fc]) p) (hok : OkP p) (hl : Laid w) (hnn : ckF p = none → (∀ c ∈ p.consts, NnC c) ∧ (∀ f ∈ p.funcs, NnF f) ∧ p.consts.length ≤ 512 ∧ p.funcs.length ≤ 128) : Calls Tryz.prog 9 #[.agg #[.slice ca cn cc, .slice fa fn fc]] w fun e w' => ∃ v', e = .returned (.tuple #[v', .int .i64 (enP p).2]) ∧ Below w.heap.size w w' ∧ ((enP p).2 = 0 → w'.ownsRow w.heap.size 5 1 v' (enP p).1.length ((enP p).1.map By)) ∧ ((enP p).2 ≠ 0 → v' = .slice none 0 0) := by
  obtain ⟨z, hz⟩ : ∃ z, Hid (enP p = z) := ⟨_, rfl⟩
  rw [unhide hz]
  unfold enP at hz
  obtain ⟨X1, eX1⟩ : ∃ X1, Hid (X1 = w.alloc (.cells #[.slice ca cn cc, .slice fa fn fc] 25)) := ⟨_, rfl⟩
  have HB1 : Hid (Bx X1 2 w.heap.size [.slice ca cn cc, .slice fa fn fc]) := by rw [unhide eX1]; exact Bx.new rfl rfl
  have HW1 : Hid (Below w.heap.size w X1) := by rw [unhide eX1]; exact (Below.refl _ w).alloc (Nat.le_refl _) _
  have gl : 0 < w.heap.size := World.block_lt_of_cell? _ _ hl
  have HCK := hide (pCheck_any (hp.below (unhide HW1) (Nat.le_refl _)) hok (hl.blw (unhide HW1) gl))
  obtain ⟨k, a, y, hRS⟩ : ∃ k a y, rsV (ckF p) = .tuple #[.agg #[.int .i64 k, .int .i64 a], .int .i64 y] := by
    cases ckF p with
    | none => exact ⟨0, 0, 0, rfl⟩
    | some e => obtain ⟨k, a, y⟩ := e; exact ⟨k, a, y, rfl⟩
  have HRS := hide hRS
  rw [hRS] at HCK
  have HPG := hide hp
  have HNN := hide hnn
  clear hp hok hl hnn hRS gl
  go_enter Tryz.func9, Tryz.ntmps9
  go_wp2_with fail
  rw [← unhide eX1]
  clear eX1
  refine (unhide HCK).mono ?_
  rintro e X2 ⟨rfl, hb2⟩
  have HB2 : Hid (Bx X2 2 w.heap.size [.slice ca cn cc, .slice fa fn fc]) := (unhide HB1).fr (S := fun _ => False) (Fr.of_below hb2) (fun e => e)
  have HW2 : Hid (Below w.heap.size w X2) := (unhide HW1).trans (hb2.mono (unhide HW1).size)
  obtain ⟨X3, eX3⟩ : ∃ X3, Hid (X3 = X2.alloc (.cells #[.int .i64 k, .int .i64 a] 46)) := ⟨_, rfl⟩
  have b23 : Below X2.heap.size X2 X3 := by rw [unhide eX3]; exact (Below.refl _ _).alloc (Nat.le_refl _) _
  have HB3 : Hid (Bx X3 2 w.heap.size [.slice ca cn cc, .slice fa fn fc]) := (unhide HB2).fr (S := fun _ => False) (Fr.of_below b23) (fun e => e)
  have HW3 : Hid (Below w.heap.size w X3) := (unhide HW2).trans (b23.mono (unhide HW2).size)
  clear hb2 b23
  by_cases q3 : y = 0
  · have hcn : ckF p = none := by
      cases hc : ckF p with
      | none => rfl
      | some e =>
        obtain ⟨k', a', y'⟩ := e
        have := unhide HRS
        rw [hc] at this
        simp only [rsV, Value.tuple.injEq] at this
        simp at this
        exact absurd (this.2.symm ▸ q3 : y' = 0) (ckF_ne hc)
    rw [hcn] at hz
    simp only at hz
    obtain ⟨n1, n2, n3, n4⟩ := unhide HNN hcn
    have d3 : (y != 0) = false := by simp [q3]
    have HNW := hide (newWriter_any X3 X3.heap.size rfl)
    have N1 := hide n1
    have N2 := hide n2


    clear q3 hcn n1 n2
    go_wp2_with fail
    rw [← unhide eX3]
    clear eX3
    refine (unhide HNW).mono ?_
    rintro e X4 ⟨rfl, ht, hb4, hs4⟩
    have HI4 : Hid (Hi X3 X3.heap.size (.slice none 0 0)) := ⟨Nat.le_refl _, by simp [Value.ownBlock]⟩
    have HT4 : Hid (Wtr (X4.alloc (.cells #[.int .u8 80, .int .u8 84, .int .u8 80, .int .u8 1] 5 (4, 5))) X3.heap.size (.slice none 0 0) []) := ht.al _
    have HB4 : Hid (Below X3.heap.size X3 (X4.alloc (.cells #[.int .u8 80, .int .u8 84, .int .u8 80, .int .u8 1] 5 (4, 5)))) := hb4.alloc hb4.size _
    have HRW := hide (raw_any X3.heap.size (.slice none 0 0) [] ⟨X4.heap.size, 0, none⟩ 4 [80, 84, 80, 1] _ (unhide HT4) (by simp) (fun j u hu => by
      rw [Go.WideShapes.add_plain]
      simp only [World.cell?, heap_alloc_new, Nat.zero_add]
      simpa [By] using hu))
    have hcv := Lib.run_convert_bytes_const (P := Tryz.prog) X4 27 5 #[.int .u8 80, .int .u8 84, .int .u8 80, .int .u8 1] 4 4 Tryz.underlying27 Tryz.underlying5
    simp only [List.size_toArray, List.length_cons, List.length_nil, Nat.zero_add, Nat.reduceAdd] at hcv
    clear ht hb4 hs4
    go_wp2_with fail
    refine (unhide HRW).mono ?_
    rintro e X5 ⟨rfl, v5, ht, hst⟩
    obtain ⟨hi5, hb5⟩ := (unhide HI4).step hst (unhide HB4).size
    have HT := hide ht
    have HI := hide hi5
    have HBl : Hid (Below X3.heap.size X3 X5) := (unhide HB4).trans hb5
    have lb : w.heap.size < X3.heap.size := (unhide HB3).lt
    have c0 := Below.heldInW (unhide HBl) lb ((unhide HB3).cell (j := 0) rfl)
    have HPG3 := hide ((unhide HPG).below (unhide HW3) (Nat.le_refl _))
    obtain ⟨hcr, hfr⟩ : Rx X3 3 (.slice ca cn cc) p.consts.length (flt enC p.consts) ∧ Rfs X3 (.slice fa fn fc) p.funcs := by
      obtain ⟨u1, u2, e, h1, h2⟩ := unhide HPG3
      cases e
      exact ⟨h1, h2⟩
    have HCR := hide hcr
    have HFR := hide hfr
    have l0 := lfm_len cfm 5000 p.consts (fun x hx => cfm_len (unhide N1 x hx))
    have l1 := lfm_len ffm 24000 p.funcs (fun x hx => ffm_len (unhide N2 x hx))
    clear ht hst hi5 hb5 hcr hfr HT4 HI4 HB4 HRW HNW
    go_wp2_with fail
    clear c0
    refine (wLC_any (unhide HT) (unhide HI) (unhide HBl) (unhide HCR) (unhide N1) (by omega) (by simp)).mono ?_
    rintro e X6 ⟨rfl, v6, ht, hst⟩
    obtain ⟨hi6, hb6⟩ := (unhide HI).step hst (unhide HBl).size
    have HT := hide ht
    have HI := hide hi6
    have HBl : Hid (Below X3.heap.size X3 X6) := (unhide HBl).trans hb6
    have c1 := Below.heldInW (unhide HBl) lb ((unhide HB3).cell (j := 1) rfl)
    clear ht hst hi6 hb6
    go_wp2_with fail
    clear c1
    refine (wLF_any (unhide HT) (unhide HI) (unhide HBl) (unhide HFR) (unhide N2) (by omega) (by simp only [List.length_append, List.length_cons, List.length_nil]; omega)).mono ?_
    rintro e X7 ⟨rfl, v7, ht, hst⟩
    obtain ⟨hi7, hb7⟩ := (unhide HI).step hst (unhide HBl).size
    have HT : Hid (Wtr X7 X3.heap.size v7 (pfm p)) := by unfold Hid; simpa [pfm, List.append_assoc] using ht
    have HBl : Hid (Below X3.heap.size X3 X7) := (unhide HBl).trans hb7
    have hpl : (pfm p).length ≤ 10000000 := by unfold pfm; simp only [List.length_append, List.length_cons, List.length_nil]; omega
    have HLN := hide (wLen_any (unhide HT))
    have HDN := hide (done_any X3.heap.size v7 (pfm p) X7 (unhide HT) (by omega))
    have HW7 : Hid (Below w.heap.size w X7) := (unhide HW3).trans ((unhide HBl).mono (unhide HW3).size)
    generalize pfm p = q at *
    obtain ⟨N, hN⟩ : ∃ N, Hid (q.length = N) := ⟨_, rfl⟩
    rw [unhide hN] at hpl hz HLN HDN
    clear ht hst hi7 hb7 l0 l1
    go_wp2_with fail
    refine (unhide HLN).mono ?_
    rintro e X7' ⟨rfl, e7⟩
    obtain rfl := e7.symm
    clear e7
    by_cases qm : 4194304 < N
    · rw [if_pos qm] at hz
      have i1 : (N : Int) > 4194304 := by omega
      go_wp2_with fail
      go_ret2
      rw [← unhide hz]
      exact ⟨_, rfl, unhide HW7, fun q => absurd q (by simp), fun _ => rfl⟩
    · rw [if_neg qm] at hz
      have i1 : ¬ (N : Int) > 4194304 := by omega
      go_wp2_with fail
      refine (unhide HDN).mono ?_
      rintro e X8 ⟨v8, rfl, how, hb8⟩
      have HOW := hide how
      have HW8 : Hid (Below w.heap.size w X8) := (unhide HW7).trans (hb8.mono (unhide HW7).size)
      have HS78 : Hid (w.heap.size ≤ X7.heap.size) := (unhide HW7).size
      clear how hb8
      go_wp2_with fail
      go_ret2
      rw [← unhide hz]
      refine ⟨_, rfl, unhide HW8, fun _ => ?_, fun q => absurd rfl q⟩
      have h9 := unhide HOW
      rw [← unhide hN] at h9
      exact own_mono h9 (unhide HS78)
  · have hcs : ∃ k' a', ckF p = some (k', a', y) := by
      cases hc : ckF p with
      | none =>
        have := unhide HRS
        rw [hc] at this
        simp only [rsV, Value.tuple.injEq] at this
        simp at this
        exact absurd this.2.symm q3
      | some e =>
        obtain ⟨k', a', y'⟩ := e
        have := unhide HRS
        rw [hc] at this
        simp only [rsV, Value.tuple.injEq] at this
        simp at this
        exact ⟨k', a', by rw [this.2]⟩
    obtain ⟨k', a', hcs⟩ := hcs
    rw [hcs] at hz
    have HE := hide q3
    have d3 : (y != 0) = true := by simp [q3]
    clear q3 hcs
    go_wp2_with fail
    rw [← unhide eX3]
    go_ret2
    rw [← unhide hz]
    exact ⟨_, rfl, unhide HW3, fun q => absurd q (unhide HE), fun _ => rfl⟩

set_option linter.unusedVariables false
set_option maxRecDepth 100000
/-- The smallest program. -/
def smP : Pg := ⟨[], [⟨⟨#[109, 97, 105, 110]⟩, 0, 0, [(1, 0), (44, 0)], []⟩]⟩
/-- Its bytes. -/
def smB : List Int := [80, 84, 80, 1, 0, 1, 4, 109, 97, 105, 110, 0, 0, 2, 1, 44, 0]
theorem sm_ck : ckF smP = none := by kernel_rfl
theorem sm_en : enP smP = (smB, 0) := by kernel_rfl
theorem sm_dec : decP smB = (smP, 0) := by kernel_rfl
theorem sm_1 : (decP (smB.take 16)).2 = 2 := by kernel_rfl
theorem sm_2 : (decP (smB ++ [0])).2 = 3 := by kernel_rfl
theorem sm_3 : (decP (smB.set 3 5)).2 = 4 := by kernel_rfl
theorem sm_4 : (decP []).2 = 2 := by kernel_rfl
theorem sm_ok : OkP smP := by
  refine ⟨fun c hc => by simp [smP] at hc, fun i f hf => ?_⟩
  have := List.mem_of_getElem? hf
  simp only [smP, List.mem_singleton] at this
  subst this
  exact ⟨by simp, by decide⟩
theorem sm_nn : ckF smP = none → (∀ c ∈ smP.consts, NnC c) ∧ (∀ f ∈ smP.funcs, NnF f) ∧ smP.consts.length ≤ 512 ∧ smP.funcs.length ≤ 128 := by
  intro _
  refine ⟨fun c hc => by simp [smP] at hc, fun f hf => ?_, by decide, by decide⟩
  simp only [smP, List.mem_singleton] at hf
  subst hf
  refine ⟨by decide, ⟨Int.le_refl _, by decide⟩, ⟨Int.le_refl _, by decide⟩, by simp, fun q hq => ?_, fun x hx => by simp at hx, by simp, ?_⟩
  · simp only [List.mem_cons, List.not_mem_nil, or_false] at hq
    rcases hq with rfl | rfl <;> exact ⟨⟨by decide, by decide⟩, ⟨by decide, by decide⟩⟩
  · have : (encB [(1, 0), (44, 0)]).length = 2 := by kernel_rfl
    rw [this]; decide
/-- A new row. -/
theorem Ro.new {w : World} {sz n : Nat} {arr : Array Value} {t : TypeId} (h : arr.size = n * sz) (hn : n ≤ maxLen) {b : Nat} (hb : w.heap.size = b) : Ro (w.alloc (.cells arr t)) sz (.slice (some ⟨b, 0, none⟩) n n) n arr.toList := by
  subst hb
  refine ⟨by simp [h], .inr ⟨w.heap.size, 0, n, arr, t, rfl, heap_alloc_new w _, Nat.le_refl _, hn, by omega, fun j hj => ?_⟩⟩
  rw [Nat.zero_add]; simp
theorem results_c {fn : Func} {p : Tmp} {t1 : TypeId} (h : fn.results = #[.cell p t1]) (tmps : Array Value) (P : Program) (w : World) {a1 : Addr} {v1 : Value} (e1 : tmps[p]?.getD undef = .pointer (some a1)) (l1 : (loadVar t1 a1).run P w = .ok v1 w) :
    (results fn tmps).run P w = .ok v1 w := by
  simp [results, h, e1, asAddr, l1]
set_option maxHeartbeats 6400000 in
theorem small_any (w : World) : Calls Tryz.prog 46 #[] w fun e w' => ∃ ca cn cc fa fn fc, e = .returned (.agg #[.slice ca cn cc, .slice fa fn fc]) ∧ PgV w' (.agg #[.slice ca cn cc, .slice fa fn fc]) smP ∧ Below w.heap.size w w' := by
  go_enter Tryz.func46, Tryz.ntmps46
  go_wp2_with fail
  obtain ⟨W, eW⟩ : ∃ W, Hid (W = (((w.alloc (.cells #[.slice none 0 0, .slice (some ⟨w.heap.size + 1 + 1, 0, none⟩) 1 1] 25)).alloc (.cells #[.int .i64 1, .int .i64 0, .int .i64 44, .int .i64 0] 92)).alloc (.cells #[.string ⟨#[109, 97, 105, 110]⟩, .int .i64 0, .int .i64 0, .slice (some ⟨w.heap.size + 1, 0, none⟩) 2 2, .slice none 0 0] 73))) := ⟨_, rfl⟩
  rw [← unhide eW]
  have F0 : Fr (fun _ => False) (w.alloc (.cells #[.slice none 0 0, .slice (some ⟨w.heap.size + 1 + 1, 0, none⟩) 1 1] 25)) W := by rw [unhide eW]; exact ((Fr.refl _ _).alloc _).alloc _
  have F1 : Fr (fun _ => False) ((w.alloc (.cells #[.slice none 0 0, .slice (some ⟨w.heap.size + 1 + 1, 0, none⟩) 1 1] 25)).alloc (.cells #[.int .i64 1, .int .i64 0, .int .i64 44, .int .i64 0] 92)) W := by rw [unhide eW]; exact (Fr.refl _ _).alloc _
  have B0 : Bx W 2 w.heap.size [.slice none 0 0, .slice (some ⟨w.heap.size + 1 + 1, 0, none⟩) 1 1] := (Bx.new rfl rfl).fr F0 (fun e => e)
  have B1 : Ro W 2 (.slice (some ⟨w.heap.size + 1, 0, none⟩) 2 2) 2 [.int .i64 1, .int .i64 0, .int .i64 44, .int .i64 0] := (Ro.new (sz := 2) (n := 2) rfl (by decide) (by simp)).fr F1 (fun _ _ e => e)
  have B2 : Bx W 5 (w.heap.size + 1 + 1) [.string ⟨#[109, 97, 105, 110]⟩, .int .i64 0, .int .i64 0, .slice (some ⟨w.heap.size + 1, 0, none⟩) 2 2, .slice none 0 0] := by rw [unhide eW]; exact Bx.new rfl (by simp)
  have HBW : Below w.heap.size w W := by rw [unhide eW]; exact (((Below.refl _ w).alloc (Nat.le_refl _) _).alloc (by simp) _).alloc (by simp; omega) _
  refine bodyPost_ret (v := .agg #[.slice none 0 0, .slice (some ⟨w.heap.size + 1 + 1, 0, none⟩) 1 1]) (by rw [results_c (fn := Tryz.f46) (p := 0) (t1 := 25) rfl _ _ _ (a1 := ⟨w.heap.size, 0, none⟩) rfl (load27 B0)]) rfl ?_
  refine ⟨_, _, _, _, _, _, rfl, ⟨_, _, rfl, Rx.nil _ _, [⟨⟨#[109, 97, 105, 110]⟩, 0, 0, .slice (some ⟨w.heap.size + 1, 0, none⟩) 2 2, .slice none 0 0⟩], rfl, Rx.of_ro B2, fun i f x hf hx => ?_⟩, HBW⟩
  have h1 := List.mem_of_getElem? hf
  have h2 := List.mem_of_getElem? hx
  simp only [smP, List.mem_singleton] at h1 h2
  subst h1 h2
  exact ⟨rfl, rfl, rfl, Rx.of_ro B1, Rx.nil _ _⟩
end Go.Proofs.YtlogmdldjmkkjaaGreatDoor
