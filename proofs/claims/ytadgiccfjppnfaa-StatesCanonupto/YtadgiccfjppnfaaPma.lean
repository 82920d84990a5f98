/-
  All that a state leads to is met.
-/
import Derived.Test.YtadgiccfjppnfaaPmi
namespace Go.Proofs.Ytadgiccfjppnfaa
open Go.RowKit
set_option linter.unusedVariables false
set_option linter.unusedSimpArgs false
/-- A state's values are values of Go. -/
structure StI (s : St) : Prop where
  o : ∀ o ∈ s.objs, (∀ v ∈ o.its, OkV v) ∧ ∀ k ∈ o.keys, OkV (4, k)
  b : ∀ b ∈ s.fibs, ∀ f ∈ b, ∀ v ∈ f.sl, OkV v
def MaP (w0 w : World) (T : List ByteArray) (O : List Ob) (X : List Obv) (m : List Nat × List Nat) (e : Ending) (w' : World) : Prop :=
  ∃ ob mb tv ov, e = .returned (.pointer (some ⟨ob, 0, none⟩)) ∧ OrM w0.heap.size T O X ob mb tv ov w' m ∧ (∀ k, orb tv ov ob mb k → w.heap.size ≤ k) ∧ Below w.heap.size w w'
theorem four_new (w : World) (o1 o2 o3 o4 : Obj) :
    ((((w.alloc o1).alloc o2).alloc o3).alloc o4).heap[w.heap.size]? = some o1 ∧ ((((w.alloc o1).alloc o2).alloc o3).alloc o4).heap[w.heap.size + 1]? = some o2 ∧ ((((w.alloc o1).alloc o2).alloc o3).alloc o4).heap[w.heap.size + 1 + 1]? = some o3 ∧ ((((w.alloc o1).alloc o2).alloc o3).alloc o4).heap[w.heap.size + 1 + 1 + 1]? = some o4 := by
  have e1 : (w.alloc o1).heap.size = w.heap.size + 1 := by simp
  have e2 : ((w.alloc o1).alloc o2).heap.size = w.heap.size + 1 + 1 := by simp
  have e3 : (((w.alloc o1).alloc o2).alloc o3).heap.size = w.heap.size + 1 + 1 + 1 := by simp
  refine ⟨?_, ?_, ?_, ?_⟩
  · rw [Below.heap_alloc _ _ _ (by omega), Below.heap_alloc _ _ _ (by omega), Below.heap_alloc _ _ _ (by omega)]; exact heap_alloc_new w o1
  · rw [Below.heap_alloc _ _ _ (by omega), Below.heap_alloc _ _ _ (by omega)]; have := heap_alloc_new (w.alloc o1) o2; rw [e1] at this; exact this
  · rw [Below.heap_alloc _ _ _ (by omega)]; have := heap_alloc_new ((w.alloc o1).alloc o2) o3; rw [e2] at this; exact this
  · have := heap_alloc_new (((w.alloc o1).alloc o2).alloc o3) o4; rw [e3] at this; exact this
theorem size_four (w : World) (o1 o2 o3 o4 : Obj) : ((((w.alloc o1).alloc o2).alloc o3).alloc o4).heap.size = w.heap.size + 1 + 1 + 1 + 1 := by simp
theorem bl_fourP (w : World) (o1 o2 o3 o4 : Obj) : Below w.heap.size w ((((w.alloc o1).alloc o2).alloc o3).alloc o4) := (bl_three w o1 o2 o3).alloc (by simp only [World.size_alloc]; omega) o4
set_option maxRecDepth 100000 in
set_option maxHeartbeats 6400000 in
theorem meetAll_any {w0 w : World} {v : Value} {s : St} (hs : StV w0 v s) (hw : Below w0.heap.size w0 w) (hb : StB s) (hi : StI s) : ∃ X : List Obv, X.length = s.objs.length ∧ (∀ (i : Nat) (o : Ob) (x : Obv), s.objs[i]? = some o → X[i]? = some x → ObV w0 o x) ∧ Calls Try.prog 30 #[v] w (MaP w0 w s.texts s.objs X (metA s)) := by
  obtain ⟨ta, tc, oa, oc, ba, bc, rfl, rt, ⟨X, hXl, hXr, hXe⟩, rb, t1, t2, o1, o2, b1, b2⟩ := hs.shape
  refine ⟨X, hXl, hXe, ?_⟩
  obtain ⟨sv, hsv⟩ : ∃ sv : Array Value, Hid (sv = #[.slice ta s.texts.length tc, .slice oa s.objs.length oc, .slice ba s.fibs.length bc, .int .i64 s.cur, .int .i64 s.steps, .int .i64 s.spent, .int .i64 s.read]) := ⟨_, hide rfl⟩
  have s0 : sv[0]? = some (.slice ta s.texts.length tc) := by rw [unhide hsv]; rfl
  have s1 : sv[1]? = some (.slice oa s.objs.length oc) := by rw [unhide hsv]; rfl
  have hS : SIn w0 s.texts s.objs X ta oa tc oc := ⟨rt, by rw [hXl] at hXr; exact hXr, hXl, hXe⟩
  obtain ⟨W4, hW4⟩ : ∃ W, Hid (((((w.alloc (.cells sv 26)).alloc (.map #[] 0)).alloc (.cells #[.slice none 0 0, .slice none 0 0, .map (some (w.heap.size + 1))] 73)).alloc (.cells #[.pointer (some ⟨w.heap.size + 1 + 1, 0, none⟩)] 68)) = W) := ⟨_, hide rfl⟩
  have n4 := four_new w (.cells sv 26) (.map #[] 0) (.cells #[.slice none 0 0, .slice none 0 0, .map (some (w.heap.size + 1))] 73) (.cells #[.pointer (some ⟨w.heap.size + 1 + 1, 0, none⟩)] 68)
  have f4 := bl_fourP w (.cells sv 26) (.map #[] 0) (.cells #[.slice none 0 0, .slice none 0 0, .map (some (w.heap.size + 1))] 73) (.cells #[.pointer (some ⟨w.heap.size + 1 + 1, 0, none⟩)] 68)
  rw [unhide hW4] at n4 f4
  have f4w := f4
  have hws := hw.size
  have f4 : Below w0.heap.size w0 W4 := hw.trans (f4w.mono hw.size)
  have hmp : MfV W4 (w.heap.size + 1) 0 (mpF s.objs ([], [])) := by
    have h0 := MfV.made (w.alloc (.cells sv 26))
    rw [World.size_alloc] at h0
    refine (h0.keep ?_).congr (fun v => (mpF_nil s.objs v).symm)
    rw [n4.2.1]
    have := heap_alloc_new (w.alloc (.cells sv 26)) (.map #[] 0)
    rw [World.size_alloc] at this
    exact this.symm
  have hPW : PW w0 s.texts s.objs X sv w.heap.size (w.heap.size + 1 + 1 + 1) (w.heap.size + 1 + 1) (w.heap.size + 1) (.slice none 0 0) (.slice none 0 0) W4 ([], []) := by
    refine ⟨⟨n4.2.2.1, by simpa [flt] using Ro.nil W4 1, by simpa [flt] using Ro.nil W4 6, hmp, by omega, ⟨by omega, by omega⟩, by simp [Value.ownBlock], by simp [Value.ownBlock]⟩, n4.1, n4.2.2.2, ?_, ?_, f4⟩
    · intro e
      rcases e with e | e | e | e
      · omega
      · omega
      · simp [Value.ownBlock] at e
      · simp [Value.ownBlock] at e
    · intro e
      rcases e with e | e | e | e
      · omega
      · omega
      · simp [Value.ownBlock] at e
      · simp [Value.ownBlock] at e
  have hnt := hb.tl
  have hno := hb.ol
  have HSL := hide (meetSlots_any hS s0 s1 hPW (MOk.nil _ _) hnt hno rb hb.bl hb.bs hi.b)
  have HIN : Hid (∀ (tv ov : Value) (W : World) (m : List Nat × List Nat) (v : Value) (o : Ob), o ∈ s.objs → ObA w0 v o → PW w0 s.texts s.objs X sv w.heap.size (w.heap.size + 1 + 1 + 1) (w.heap.size + 1 + 1) (w.heap.size + 1) tv ov W m → MOk s.texts.length s.objs.length m → Calls Try.prog 63 #[v, fM w.heap.size (w.heap.size + 1 + 1 + 1)] W fun e w' => (∃ r, e = .returned r) ∧ MeP w0 s.texts s.objs X sv w.heap.size (w.heap.size + 1 + 1 + 1) (w.heap.size + 1 + 1) (w.heap.size + 1) tv ov W (metO s.texts.length s.objs m o) w') := fun tv ov W m v o ho hA hP hM => meetInside_any hS s0 s1 hP hM hnt hno hA (hb.os o ho).1 (hb.os o ho).2 (hi.o o ho).1 (hi.o o ho).2
  have HXL := hide hXl
  have HXE := hide hXe
  have HN4 := hide n4
  obtain ⟨M0, hM0⟩ : ∃ M, Hid (metF s.texts.length s.objs ([], []) s.fibs = M) := ⟨_, hide rfl⟩
  rw [unhide hM0] at HSL
  have hMk0 : Hid (MOk s.texts.length s.objs.length M0) := by rw [← unhide hM0]; exact hide (MOk.fs _ (MOk.nil _ _))
  obtain ⟨NO, hNO⟩ : ∃ n, Hid (s.objs.length = n) := ⟨_, hide rfl⟩
  have HFIN : Hid (∀ (W : World) (i : Nat), MeP w0 s.texts s.objs X sv w.heap.size (w.heap.size + 1 + 1 + 1) (w.heap.size + 1 + 1) (w.heap.size + 1) (.slice none 0 0) (.slice none 0 0) W4 (wl s.texts.length s.objs M0 i).1 W → (wl s.texts.length s.objs M0 i).1.2.length = i → MaP w0 w s.texts s.objs X (metA s) (.returned (.pointer (some ⟨w.heap.size + 1 + 1, 0, none⟩))) W) := fun W i h hl => by
    obtain ⟨tv1, ov1, h1, h2⟩ := h
    have h0 : ∀ k, orb (.slice none 0 0) (.slice none 0 0) (w.heap.size + 1 + 1) (w.heap.size + 1) k → w.heap.size ≤ k := fun k hk => by
      rcases hk with q | q | q | q
      · omega
      · omega
      · simp [Value.ownBlock] at q
      · simp [Value.ownBlock] at q
    refine ⟨w.heap.size + 1 + 1, w.heap.size + 1, tv1, ov1, rfl, ?_, fun k hk => ?_, f4w.trans (h2.below f4w.size h0)⟩
    · have := metA_stop s (L := i) (by rw [unhide hM0]; exact hl)
      rw [this, unhide hM0]
      exact h1.or
    · rcases h2.2 k hk with q | q
      · exact h0 k q
      · exact Nat.le_trans f4w.size q
  have q0 := (blk_cells n4.2.2.2).1 0
  have bb := (blk_cells n4.1).1 2
  have hl4 := (blk_cells n4.2.2.2).2.2
  simp at q0
  rw [unhide hsv] at bb
  simp at bb
  have hW4' := hW4
  rw [unhide hsv] at hW4'
  have hmm := @run_makeMap Try.prog
  clear hs hb hi rt rb hXr hXe hXl s0 s1 hS n4 f4 f4w hmp hPW hW4
  go_enter Try.func30, Try.ntmps30
  go_wp2_with fail
  rw [unhide hW4']
  clear hmm
  go_wp2_with fail
  refine (unhide HSL).mono ?_
  rintro e w1 ⟨⟨r, rfl⟩, hK1⟩
  have HK0 : Hid (MeP w0 s.texts s.objs X sv w.heap.size (w.heap.size + 1 + 1 + 1) (w.heap.size + 1 + 1) (w.heap.size + 1) (.slice none 0 0) (.slice none 0 0) W4 (wl s.texts.length s.objs M0 0).1 w1) := hide hK1
  clear hK1 HSL q0 bb
  go_wp2_with fail
  go_loopg [5] NO (fun g t5 wr => ∃ (i : Nat), Hid (i + g = NO) ∧ t5 = .int .i64 (i : Int) ∧ Hid (i ≤ (wl s.texts.length s.objs M0 i).1.2.length) ∧ Hid (MeP w0 s.texts s.objs X sv w.heap.size (w.heap.size + 1 + 1 + 1) (w.heap.size + 1 + 1) (w.heap.size + 1) (.slice none 0 0) (.slice none 0 0) W4 (wl s.texts.length s.objs M0 i).1 wr))
  case atStart => exact ⟨0, by unfold Hid; omega, rfl, by unfold Hid; omega, HK0⟩
  case round =>
    clear HK0
    obtain ⟨i, hi, rfl, hil, hK⟩ := hrel
    obtain ⟨tv1, ov1, hP, hgo⟩ := (unhide hK).go
    have HGO := hide hgo
    have hMk := MOk.wl (unhide hMk0) i
    have hle := pigeon _ _ hMk.d2 hMk.b2
    obtain ⟨L, hL⟩ : ∃ n, Hid ((wl s.texts.length s.objs M0 i).1.2.length = n) := ⟨_, hide rfl⟩
    rw [unhide hL, unhide hNO] at hle
    obtain ⟨la, lc, elv, l1, l2⟩ := hP.or.ro.shape
    rw [unhide hL] at elv l1
    have q0 := (blk_cells hP.bo).1 0
    have c1 := (blk_cells hP.or.box).1 1
    have lq := (blk_cells hP.bo).2.2
    have lo := (blk_cells hP.or.box).2.2
    simp at q0 c1
    rw [elv] at c1
    have HP := hide hP
    have HELV := hide elv
    have HMk := hide hMk
    have hiL : i ≤ L := by rw [← unhide hL]; exact unhide hil
    unfold maxLen at l2
    rw [unhide hNO] at hno
    by_cases hlt : i < L
    · obtain ⟨j, hj⟩ : ∃ j, (wl s.texts.length s.objs M0 i).1.2[i]? = some j := ⟨_, List.getElem?_eq_getElem (by rw [unhide hL]; exact hlt)⟩
      have hjl : j < s.objs.length := hMk.b2 j (List.mem_of_getElem? hj)
      obtain ⟨o, ho⟩ : ∃ o, s.objs[j]? = some o := ⟨_, List.getElem?_eq_getElem hjl⟩
      have hxj : X[j]? = some (X.getD j nobv) := by rw [List.getD_eq_getElem?_getD, List.getElem?_eq_getElem (by rw [unhide HXL]; exact hjl)]; rfl
      have hOV := unhide HXE j o _ ho hxj
      obtain ⟨ia, ic, ka, kc, exo, -, -, -, -, hr1, hr2⟩ := hOV.parts
      obtain ⟨eb, eo, ecap, ee, -, -, hebl, hc0⟩ := Rx.elem zO (l := (wl s.texts.length s.objs M0 i).1.2.map fun j => X.getD j nobv) (by rw [List.length_map]; exact Rx.of_ro hP.or.ro) (i := i) (p := X.getD j nobv) (by rw [List.getElem?_map, hj]; rfl)
      rw [List.length_map, unhide hL, elv] at ee
      cases ee
      have HA : ObA w0 (.agg #[.int .i64 o.kind, .slice ia o.its.length ic, .slice ka o.keys.length kc, .int .i64 o.fn, .int .i64 o.cap, .bool o.shut]) o := ⟨_, _, rfl, hr1, hr2⟩
      have HCC := hide ((unhide HIN _ _ _ _ _ o (List.mem_of_getElem? ho) HA hP hMk).mono (fun e w' hh => (⟨hh.1, hgo _ _ _ (Below.refl _ _) hh.2⟩ : (∃ r, e = .returned r) ∧ MeP w0 s.texts s.objs X sv w.heap.size (w.heap.size + 1 + 1 + 1) (w.heap.size + 1 + 1) (w.heap.size + 1) (.slice none 0 0) (.slice none 0 0) W4 (metO s.texts.length s.objs (wl s.texts.length s.objs M0 i).1 o) w')))
      have hnx : Hid ((wl s.texts.length s.objs M0 (i + 1)).1 = metO s.texts.length s.objs (wl s.texts.length s.objs M0 i).1 o) := by rw [wl_some hj ho]; exact hide rfl
      have hnl : Hid (i + 1 ≤ (wl s.texts.length s.objs M0 (i + 1)).1.2.length) := by
        have := (Ext.wl s.texts.length s.objs M0 i).o.length_le
        rw [unhide hL] at this
        unfold Hid
        omega
      rw [exo] at hc0
      have z0 := hc0 0 _ rfl
      have z1 := hc0 1 _ rfl
      have z2 := hc0 2 _ rfl
      have z3 := hc0 3 _ rfl
      have z4 := hc0 4 _ rfl
      have z5 := hc0 5 _ rfl
      rw [Nat.add_zero] at z0
      simp only at z0 z1 z2 z3 z4 z5
      have i0' : (0 : Int) ≤ (i : Int) := by omega
      have i1' : (i : Int) < (L : Int) := by omega
      obtain ⟨il, hil'⟩ : ∃ l, Hid (o.its.length = l) := ⟨_, hide rfl⟩
      obtain ⟨kl, hkl⟩ : ∃ l, Hid (o.keys.length = l) := ⟨_, hide rfl⟩
      rw [unhide hil'] at z1 HCC
      rw [unhide hkl] at z2 HCC
      clear hP hgo hMk hj ho hxj hOV exo hr1 hr2 hc0 HA elv hK
      go_wp2_with fail
      refine (unhide HCC).mono ?_
      rintro e w2 ⟨⟨r2, rfl⟩, hK2⟩
      have HK2 : Hid (MeP w0 s.texts s.objs X sv w.heap.size (w.heap.size + 1 + 1 + 1) (w.heap.size + 1 + 1) (w.heap.size + 1) (.slice none 0 0) (.slice none 0 0) W4 (wl s.texts.length s.objs M0 (i + 1)).1 w2) := by rw [unhide hnx]; exact hide hK2
      clear hK2 HCC z0 z1 z2 z3 z4 z5 q0 c1
      go_wp2_with fail
      go_roundg (gk - 1)
      case measure => have := unhide hi; omega
      case rel => exact ⟨i + 1, by have := unhide hi; unfold Hid; omega, by go_num, hnl, HK2⟩
    · have hiN : L = i := by omega
      have HE := hide (unhide HFIN _ _ (unhide hK) (by rw [unhide hL]; exact hiN))
      subst hiN
      clear hP hgo hMk elv hK
      go_wp2_with fail
      go_ret
      exact unhide HE
end Go.Proofs.Ytadgiccfjppnfaa
