/-
  writeList of functions; Len.
-/
import Derived.Test.YtpfogphpeegfdaaGreatDoorECl
import Derived.Test.YtpfogphpeegfdaaGreatDoorEnc
namespace Go.Proofs.YtpfogphpeegfdaaGreatDoor
open Go.RowKit
set_option linter.unusedVariables false
set_option linter.unusedSimpArgs false

/-- The form of a function. -/
def ffm (f : Fc) : List Int := (Wm.uform 9 f.name.size ++ strI f.name) ++ (ufm f.params ++ (ufm f.locals ++ (ufm (encB f.code).length ++ (encB f.code ++ lfm hfm f.hs))))
def NnF (f : Fc) : Prop := f.name.size ≤ 32 ∧ (0 ≤ f.params ∧ f.params ≤ 9223372036854775807) ∧ (0 ≤ f.locals ∧ f.locals ≤ 9223372036854775807) ∧ f.code.length ≤ 2000 ∧ (∀ q ∈ f.code, I64 q.1 ∧ I64 q.2) ∧ (∀ x ∈ f.hs, NnH x) ∧ f.hs.length ≤ 32 ∧ 0 < (encB f.code).length
theorem RtV.of_rx {w : World} {v : Value} {l : List (Int × Int)} (h : Rx w 2 v l.length (flt enI l)) : RtV w v l := by
  obtain ⟨a, cap, e, h1, h2⟩ : ∃ a cap, v = .slice a l.length cap ∧ l.length ≤ cap ∧ cap ≤ maxLen := by obtain ⟨_, a, cap, e, h1, h2, _⟩ := h; exact ⟨a, cap, e, h1, h2⟩
  refine ⟨a, cap, e, h1, h2, fun i q hq => ?_⟩
  obtain ⟨b, off, cap', e', _, _, hb, hc⟩ := Rx.elem zI h hq
  rw [e] at e'
  cases e'
  exact ⟨b, off, rfl, hb, by have := hc 0 _ rfl; rwa [Nat.add_zero] at this, hc 1 _ rfl⟩
theorem encB_lenW (l : List (Int × Int)) : (encB l).length ≤ 22000 := by
  unfold encB
  split
  · rename_i h
    have hl : l.length ≤ 2000 := by
      unfold encE at h
      split at h
      · simp at h
      · omega
    have := fm_len ifm 11 l (fun x _ => by have := opF_len (kd x.1.toNat) x.2; unfold ifm; simp only [List.length_cons]; omega)
    show (l.flatMap ifm).length ≤ _
    omega
  · simp
set_option maxRecDepth 100000 in
set_option maxHeartbeats 3200000 in
theorem wFn_any {w0 w : World} {p : Nat} {v : Value} {bs : List Int} {f : Fc} (h : Wtr w p v bs) (hi : Hi w0 p v) (hB : Below w0.heap.size w0 w) (hb : bs.length ≤ 500000000000) (nm : ByteArray) (pa lo : Int) (ca ha : Option Addr) (cn cc hn hc : Nat) (hF : FnV w0 f ⟨nm, pa, lo, .slice ca cn cc, .slice ha hn hc⟩) (hk : NnF f) : Calls Tryz.prog 31 #[.pointer (some ⟨p, 0, none⟩), .agg #[.string nm, .int .i64 pa, .int .i64 lo, .slice ca cn cc, .slice ha hn hc]] w fun e w' => WQ p v w (bs ++ ffm f) e w' := by
  obtain ⟨e1, e2, e3, hcv, hhv⟩ := hF
  simp only at e1 e2 e3 hcv hhv
  subst e1
  subst e2
  subst e3
  obtain ⟨k1, ⟨k2, k3⟩, ⟨k4, k5⟩, k6, k7, k8, k9, k10⟩ := hk
  obtain ⟨W1, eW1⟩ : ∃ W1, Hid (W1 = w.alloc (.cells #[.string f.name, .int .i64 f.params, .int .i64 f.locals, .slice ca cn cc, .slice ha hn hc] 54)) := ⟨_, rfl⟩
  have HBx : Hid (Bx W1 5 w.heap.size [.string f.name, .int .i64 f.params, .int .i64 f.locals, .slice ca cn cc, .slice ha hn hc]) := by rw [unhide eW1]; exact Bx.new rfl rfl
  have HT : Hid (Wtr W1 p v bs) := by rw [unhide eW1]; exact h.al _
  have HS : Hid (WStep p w v W1 v) := by rw [unhide eW1]; exact WStep.al _
  have HP : Hid (w.heap.size ≠ p) := by have := h.lt; unfold Hid; omega
  have HV : Hid (v.ownBlock ≠ some w.heap.size) := fun e => by have := h.row_lt _ e; omega
  have HI := hide hi
  have HBl : Hid (Below w0.heap.size w0 W1) := by rw [unhide eW1]; exact hB.alloc hB.size _
  have HCV := hide hcv
  have HHV := hide hhv
  have u1 := ufm_len f.params
  have u2 := ufm_len f.locals
  have u3 : (Wm.uform 9 f.name.size).length ≤ 10 := ufm_len (f.name.size : Int)
  have u4 := strI_length f.name
  have u5 : (encB f.code).length ≤ 22000 := encB_lenW _
  have u6 := ufm_len ((encB f.code).length : Int)
  have H1 := hide (text_any p v bs f.name W1 (unhide HT) (by omega))
  have H2 := hide (fun (wx : World) (vx : Value) (bx : List Int) (hx : Wtr wx p vx bx) (hl : bx.length + 10 ≤ 140737488355328) => wCnt_any hx hl f.params k2 k3)
  have H3 := hide (fun (wx : World) (vx : Value) (bx : List Int) (hx : Wtr wx p vx bx) (hl : bx.length + 10 ≤ 140737488355328) => wCnt_any hx hl f.locals k4 k5)
  have K6 := hide k6
  have K7 := hide k7
  have K8 := hide k8
  have K9 := hide k9
  have K10 := hide k10
  clear h hi hB hcv hhv k2 k3 k4 k5 k6 k7 k8 k9 k10
  go_enter Tryz.func31, Tryz.ntmps31
  go_wp2_with fail
  rw [← unhide eW1]
  clear eW1
  refine (unhide H1).mono ?_
  rintro e W2 ⟨rfl, v1, ht, hst⟩
  have HV0 := HV
  have HV : Hid (v1.ownBlock ≠ some w.heap.size) := hst.off (unhide HBx).lt (unhide HV)
  have HBx : Hid (Bx W2 5 w.heap.size [.string f.name, .int .i64 f.params, .int .i64 f.locals, .slice ca cn cc, .slice ha hn hc]) := (unhide HBx).wstep hst (unhide HP) (unhide HV0)
  have HT := hide ht
  have HS : Hid (WStep p w v W2 v1) := (unhide HS).trans hst
  obtain ⟨hi', hb'⟩ := (unhide HI).step hst (unhide HBl).size
  have HI := hide hi'
  have HBl : Hid (Below w0.heap.size w0 W2) := (unhide HBl).trans hb'
  have c1 := (unhide HBx).cell (j := 1) rfl
  clear ht hst hi' hb'
  go_wp2_with fail
  clear c1
  refine (unhide H2 W2 v1 _ (unhide HT) (by simp only [List.length_append]; omega)).mono ?_
  rintro e W3 ⟨rfl, v2, ht, hst⟩
  have HV0 := HV
  have HV : Hid (v2.ownBlock ≠ some w.heap.size) := hst.off (unhide HBx).lt (unhide HV)
  have HBx : Hid (Bx W3 5 w.heap.size [.string f.name, .int .i64 f.params, .int .i64 f.locals, .slice ca cn cc, .slice ha hn hc]) := (unhide HBx).wstep hst (unhide HP) (unhide HV0)
  have HT := hide ht
  have HS : Hid (WStep p w v W3 v2) := (unhide HS).trans hst
  obtain ⟨hi', hb'⟩ := (unhide HI).step hst (unhide HBl).size
  have HI := hide hi'
  have HBl : Hid (Below w0.heap.size w0 W3) := (unhide HBl).trans hb'
  have c2 := (unhide HBx).cell (j := 2) rfl
  clear ht hst hi' hb'
  go_wp2_with fail
  clear c2
  refine (unhide H3 W3 v2 _ (unhide HT) (by simp only [List.length_append]; omega)).mono ?_
  rintro e W4 ⟨rfl, v3, ht, hst⟩
  have HV0 := HV
  have HV : Hid (v3.ownBlock ≠ some w.heap.size) := hst.off (unhide HBx).lt (unhide HV)
  have HBx : Hid (Bx W4 5 w.heap.size [.string f.name, .int .i64 f.params, .int .i64 f.locals, .slice ca cn cc, .slice ha hn hc]) := (unhide HBx).wstep hst (unhide HP) (unhide HV0)
  have HT := hide ht
  have HS : Hid (WStep p w v W4 v3) := (unhide HS).trans hst
  obtain ⟨hi', hb'⟩ := (unhide HI).step hst (unhide HBl).size
  have HI := hide hi'
  have HBl : Hid (Below w0.heap.size w0 W4) := (unhide HBl).trans hb'
  have c3 := (unhide HBx).cell (j := 3) rfl
  clear ht hst hi' hb'
  go_wp2_with fail
  clear c3
  refine (encode_any (RtV.of_rx ((unhide HCV).below (unhide HBl) (Nat.le_refl _))) (by have := unhide K6; omega) (unhide K7)).mono ?_
  rintro e W5 ⟨cv, rfl, how, hb5⟩
  have f5 : Fr (fun _ => False) W4 W5 := Fr.of_below hb5
  obtain ⟨g, xc, ecv, hgl, hgc⟩ : ∃ g cap, cv = .slice (some ⟨g, 0, none⟩) (encB f.code).length cap ∧ W4.heap.size ≤ g ∧ ∀ (j : Nat) (u : Value), ((encB f.code).map By)[j]? = some u → W5.cell? ⟨g, j, none⟩ = some u := by
    rcases how.2 with ⟨e, h0⟩ | ⟨g, cap, cu, e, hg, hh, _, _, hs5, ht5⟩
    · have := unhide K10; omega
    · refine ⟨g, cap, e, hg, fun j u hu => ?_⟩
      simp only [World.cell?, hh]
      have hj := (List.getElem?_eq_some_iff.1 hu).1
      rw [← ht5, List.getElem?_take, if_pos (by simp at hj ⊢; omega)] at hu
      simpa using hu
  subst ecv
  have hpg : p < W4.heap.size := (unhide HT).lt
  have hvg : v3.ownBlock ≠ some g := fun e => by have := (unhide HT).row_lt _ e; omega
  have hgs : g < W5.heap.size := by
    obtain ⟨u, hu⟩ : ∃ u, ((encB f.code).map By)[0]? = some u := ⟨_, List.getElem?_eq_getElem (by rw [List.length_map]; exact unhide K10)⟩
    exact World.block_lt_of_cell? _ _ (hgc 0 u hu)
  have HG := hide (show g ≠ p ∧ v3.ownBlock ≠ some g ∧ g < W5.heap.size from ⟨by omega, hvg, hgs⟩)
  have HGC := hide hgc
  have HT : Hid (Wtr W5 p v3 _) := (unhide HT).keep f5 (fun e => e) (fun _ _ e => e)
  have HS : Hid (WStep p w v W5 v3) := (unhide HS).trans ⟨Fr.of_below hb5, .inl rfl⟩
  have HBl : Hid (Below w0.heap.size w0 W5) := (unhide HBl).trans (hb5.mono (unhide HBl).size)
  have HBx : Hid (Bx W5 5 w.heap.size [.string f.name, .int .i64 f.params, .int .i64 f.locals, .slice ca cn cc, .slice ha hn hc]) := (unhide HBx).fr f5 (fun e => e)
  clear how hb5 f5 hgl hgc hpg hvg hgs
  go_wp2_with fail
  refine (wCnt_any (unhide HT) (by simp only [List.length_append]; omega) ((encB f.code).length : Int) (by omega) (by omega)).mono ?_
  rintro e W6 ⟨rfl, v5, ht, hst⟩
  have HV0 := HV
  have HV : Hid (v5.ownBlock ≠ some w.heap.size) := hst.off (unhide HBx).lt (unhide HV)
  have HBx : Hid (Bx W6 5 w.heap.size [.string f.name, .int .i64 f.params, .int .i64 f.locals, .slice ca cn cc, .slice ha hn hc]) := (unhide HBx).wstep hst (unhide HP) (unhide HV0)
  have HT := hide ht
  have HS : Hid (WStep p w v W6 v5) := (unhide HS).trans hst
  obtain ⟨hi', hb'⟩ := (unhide HI).step hst (unhide HBl).size
  have HI := hide hi'
  have HBl : Hid (Below w0.heap.size w0 W6) := (unhide HBl).trans hb'
  have hgc6 : ∀ (j : Nat) (u : Value), ((encB f.code).map By)[j]? = some u → W6.cell? ((⟨g, 0, none⟩ : Addr).add j) = some u := fun j u hu => by
    rw [Go.WideShapes.add_plain, Nat.zero_add]
    exact (hst.fr.cell (a := ⟨g, j, none⟩) (unhide HG).2.2 (fun q => by rcases q with q | q; exact (unhide HG).1 q; exact (unhide HG).2.1 q)).trans (unhide HGC j u hu)
  have HGC6 := hide hgc6
  clear ht hst hi' hb' hgc6
  go_wp2_with fail
  refine (raw_any p v5 _ ⟨g, 0, none⟩ xc (encB f.code) W6 (unhide HT) (by simp only [List.length_append]; omega) (unhide HGC6)).mono ?_
  rintro e W7 ⟨rfl, v6, ht, hst⟩
  have HV0 := HV
  have HV : Hid (v6.ownBlock ≠ some w.heap.size) := hst.off (unhide HBx).lt (unhide HV)
  have HBx : Hid (Bx W7 5 w.heap.size [.string f.name, .int .i64 f.params, .int .i64 f.locals, .slice ca cn cc, .slice ha hn hc]) := (unhide HBx).wstep hst (unhide HP) (unhide HV0)
  have HT := hide ht
  have HS : Hid (WStep p w v W7 v6) := (unhide HS).trans hst
  obtain ⟨hi', hb'⟩ := (unhide HI).step hst (unhide HBl).size
  have HI := hide hi'
  have HBl : Hid (Below w0.heap.size w0 W7) := (unhide HBl).trans hb'
  have c4 := (unhide HBx).cell (j := 4) rfl
  clear ht hst hi' hb'
  go_wp2_with fail
  clear c4
  refine (wLH_any (unhide HT) (unhide HI) (unhide HBl) (unhide HHV) (unhide K8) (by have := unhide K9; omega) (by simp only [List.length_append]; omega)).mono ?_
  rintro e W8 ⟨rfl, v7, ht, hst⟩
  go_wp2_with fail
  go_end0
  refine ⟨rfl, v7, ?_, (unhide HS).trans hst⟩
  simpa [ffm, List.append_assoc] using ht

set_option linter.unusedVariables false
set_option linter.unusedSimpArgs false

theorem lfm_len {T : Type} (f : T → List Int) (m : Nat) (l : List T) (h : ∀ x ∈ l, (f x).length ≤ m) : (lfm f l).length ≤ 10 + l.length * m := by
  unfold lfm
  have h1 := ufm_len (l.length : Int)
  have h2 := fm_len f m l h
  rw [List.length_append]; omega
theorem ffm_len {f : Fc} (h : NnF f) : (ffm f).length ≤ 24000 := by
  unfold ffm
  have u1 := ufm_len f.params
  have u2 := ufm_len f.locals
  have u3 : (Wm.uform 9 f.name.size).length ≤ 10 := ufm_len (f.name.size : Int)
  have u4 := strI_length f.name
  have u5 := encB_lenW f.code
  have u6 := ufm_len ((encB f.code).length : Int)
  have u7 := lfm_len hfm 40 f.hs (fun x _ => hfm_len x)
  obtain ⟨k1, _, _, _, _, _, k9, _⟩ := h
  simp only [List.length_append]
  omega
set_option maxRecDepth 100000 in
theorem wLen_any {w : World} {p : Nat} {v : Value} {bs : List Int} (h : Wtr w p v bs) : Calls Tryz.prog 32 #[.pointer (some ⟨p, 0, none⟩)] w fun e w' => e = .returned (.int .i64 (bs.length : Int)) ∧ w' = w := by
  have hc := h.cell
  obtain ⟨a, cap, rfl⟩ : ∃ a cap, v = .slice a bs.length cap := by
    rcases h.own.2 with ⟨e, h0⟩ | ⟨g, cap, cu, e, _⟩
    · exact ⟨none, 0, by rw [e, h0]⟩
    · exact ⟨_, cap, e⟩
  clear h
  go_enter Tryz.func32, Tryz.ntmps32
  go_wp2
  go_ret
  exact ⟨rfl, rfl⟩

set_option maxRecDepth 100000 in
set_option maxHeartbeats 3200000 in
theorem wLF_any {w0 w : World} {p : Nat} {v lv : Value} {bs : List Int} {l : List Fc} (h : Wtr w p v bs) (hi : Hi w0 p v) (hB : Below w0.heap.size w0 w) (hr : Rfs w0 lv l) (hok : ∀ x ∈ l, NnF x) (hn : l.length ≤ 100000) (hb : bs.length ≤ 100000000000) : Calls Tryz.prog 30 #[.pointer (some ⟨p, 0, none⟩), lv, .func (Fn.func 31) #[] #[]] w fun e w' => WQ p v w (bs ++ lfm ffm l) e w' := by
  obtain ⟨xs, hxl, hl, hfn⟩ := hr
  have HC := hide (fun i x (hx : xs[i]? = some x) => Rx.elem zF hl hx)
  obtain ⟨la, lc, rfl⟩ : ∃ la lc, lv = .slice la xs.length lc := by obtain ⟨_, a, c, e, _⟩ := hl; exact ⟨a, c, e⟩
  obtain ⟨n, hN⟩ : ∃ n, Hid (xs.length = n) := ⟨_, rfl⟩
  have hNl : Hid (l.length = n) := hxl.symm.trans (unhide hN)
  rw [unhide hNl] at hn
  rw [unhide hN] at HC ⊢
  have H1 := hide (wCnt_any h (by omega) (n : Int) (by omega) (by omega))
  have HOK := hide hok
  have HFN := hide hfn
  have HS0 : Hid (w0.heap.size ≤ w.heap.size) := hB.size
  have HB := hide hB
  have HI := hide hi
  have u0 := ufm_len (n : Int)
  clear h hi hB hl hok hfn hxl
  go_enter Tryz.func30, Tryz.ntmps30
  go_wp2_with fail
  refine (unhide H1).mono ?_
  rintro e W1 ⟨rfl, v1, ht, hst⟩
  obtain ⟨hi1, hb1⟩ := (unhide HI).step hst (unhide HS0)
  have HT1 : Hid (Wtr W1 p v1 (bs ++ (ufm n ++ (l.take 0).flatMap ffm))) := by unfold Hid; simpa using ht
  have HS1 := hide hst
  have HI1 := hide hi1
  have HB1 : Hid (Below w0.heap.size w0 W1) := (unhide HB).trans hb1
  clear ht hst hi1 hb1
  go_wp2_with fail
  go_loopg [14] n (fun gg t14 wr => ∃ (i : Nat) (vr : Value), Hid (i + gg = n) ∧ t14 = .int .i64 (i : Int) ∧ Hid (Wtr wr p vr (bs ++ (ufm n ++ (l.take i).flatMap ffm))) ∧ Hid (WStep p w v wr vr) ∧ Hid (Hi w0 p vr) ∧ Hid (Below w0.heap.size w0 wr))
  case atStart => exact ⟨0, v1, by unfold Hid; omega, rfl, HT1, HS1, HI1, HB1⟩
  case round =>
    obtain ⟨i, vr, hi, rfl, hT, hS, hH, hBl⟩ := hrel
    by_cases hlt : i < n
    · obtain ⟨x, hx⟩ : ∃ x, xs[i]? = some x := ⟨_, List.getElem?_eq_getElem (by rw [unhide hN]; exact hlt)⟩
      obtain ⟨f, hf⟩ : ∃ f, l[i]? = some f := ⟨_, List.getElem?_eq_getElem (by rw [unhide hNl]; exact hlt)⟩
      obtain ⟨b, off, cap, e, _, _, hbl, hcs⟩ := unhide HC i x hx
      simp only [Value.slice.injEq] at e
      obtain ⟨e1, -, e2⟩ := e
      subst e1
      subst e2
      have hkx := unhide HOK f (List.mem_of_getElem? hf)
      have hfx := unhide HFN i f x hf hx
      obtain ⟨nm, pa, lo, cv, hv⟩ := x
      obtain ⟨ca, cn, cc, rfl⟩ : ∃ ca cn cc, cv = .slice ca cn cc := by obtain ⟨_, _, _, ⟨_, a, c, e, _⟩, _⟩ := hfx; exact ⟨a, _, c, e⟩
      obtain ⟨ha, hm, hc, rfl⟩ : ∃ ca cn cc, hv = .slice ca cn cc := by obtain ⟨_, _, _, _, ⟨_, a, c, e, _⟩⟩ := hfx; exact ⟨a, _, c, e⟩
      have c0 := Below.heldInW (unhide hBl) hbl (hcs 0 _ rfl)
      have c1 := Below.heldInW (unhide hBl) hbl (hcs 1 _ rfl)
      have c2 := Below.heldInW (unhide hBl) hbl (hcs 2 _ rfl)
      have c3 := Below.heldInW (unhide hBl) hbl (hcs 3 _ rfl)
      have c4 := Below.heldInW (unhide hBl) hbl (hcs 4 _ rfl)
      simp only [Nat.add_zero] at c0
      have hwr : b < wr.heap.size := Nat.lt_of_lt_of_le hbl (unhide hBl).size
      have hfl : ((l.take i).flatMap ffm).length ≤ i * 24000 := by
        have := fm_len ffm 24000 (l.take i) (fun x hx => ffm_len (unhide HOK _ (List.mem_of_mem_take hx)))
        rw [List.length_take, unhide hNl, Nat.min_eq_left (by omega)] at this
        exact this
      have HTA : Hid (Wtr (wr.alloc (.cells #[.string nm, .int .i64 pa, .int .i64 lo, .slice ca cn cc, .slice ha hm hc] 54)) p vr (bs ++ (ufm n ++ (l.take i).flatMap ffm))) := (unhide hT).al _
      have HBA : Hid (Below w0.heap.size w0 (wr.alloc (.cells #[.string nm, .int .i64 pa, .int .i64 lo, .slice ca cn cc, .slice ha hm hc] 54))) := (unhide hBl).alloc (unhide hBl).size _
      have HH := hide (wFn_any (unhide HTA) (unhide hH) (unhide HBA) (by simp only [List.length_append]; omega) nm pa lo ca ha cn cc hm hc hfx hkx)
      have HX := hide hf
      have i1 : (0 : Int) ≤ (i : Int) := by omega
      have i2 : (i : Int) < (n : Int) := by omega
      clear hcs hx hkx hfl hfx hf
      go_wp2_with fail
      refine (unhide HH).mono ?_
      rintro e X ⟨rfl, v2, ht, hst⟩
      obtain ⟨hi2, hb2⟩ := (unhide hH).step hst (unhide HBA).size
      have HT2 : Hid (Wtr X p v2 (bs ++ (ufm n ++ (l.take (i + 1)).flatMap ffm))) := by
        rw [Hid, fm_take ffm (unhide HX)]
        simpa [List.append_assoc] using ht
      have HS2 : Hid (WStep p w v X v2) := ((unhide hS).trans (WStep.al _)).trans hst
      have HI2 := hide hi2
      have HB2 : Hid (Below w0.heap.size w0 X) := (unhide HBA).trans hb2
      clear ht hst hi2 hb2
      go_wp2_with fail
      go_roundg (gk - 1)
      case measure => have := unhide hi; omega
      case rel => exact ⟨i + 1, v2, by have := unhide hi; unfold Hid; omega, by go_num, HT2, HS2, HI2, HB2⟩
    · have hin : n = i := by have := unhide hi; omega
      subst hin
      have HTf : Hid (Wtr wr p vr (bs ++ lfm ffm l)) := by
        have := unhide hT
        rw [List.take_of_length_le (by rw [unhide hNl]; exact Nat.le_refl _)] at this
        unfold Hid lfm
        rw [unhide hNl]
        exact this
      have i2 : ¬ (n : Int) < (n : Int) := by omega
      go_wp2_with fail
      go_end0
      exact ⟨rfl, vr, unhide HTf, unhide hS⟩
end Go.Proofs.YtpfogphpeegfdaaGreatDoor
