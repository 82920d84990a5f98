/-
  What of a block's instructions is kept.
-/
import Derived.Test.YtpbdmbmafjkinaaDoorKp0
namespace Go.Proofs.YtpbdmbmafjkinaaDoor
open Go.RowKit Go.Shelf
set_option linter.unusedVariables false
set_option linter.unusedSimpArgs false
attribute [local go_sem] Oper.semAt_some
theorem set2 {w : World} {p : Nat} {c0 c1 c2 c3 c4 c5 c6 c7 u v : Value} {t : TypeId} (h : w.heap[p]? = some (.cells #[c0, c1, c2, c3, c4, c5, c6, c7] t)) :
    ((w.setCell ⟨p, 3, none⟩ u).setCell ⟨p, 7, none⟩ v).heap[p]? = some (.cells #[c0, c1, c2, u, c4, c5, c6, v] t) := by
  have h1 := setCell_block (g := p) (o := 3) h u
  have h2 := setCell_block (g := p) (o := 7) h1 v
  rw [h2]
  simp
theorem fltT (ts : List TI) : flt enIn (ts.map Prod.fst) = flt enT ts := by simp only [flt, List.flatMap_map]; rfl
def moN (N : Nat) : Obj := .cells (madeCells (Value.agg #[.int .i64 0, .int .i64 0, .int .i64 0, .slice none 0 0, .int .i64 0, .int .i64 0, .int .i64 0, .slice none 0 0]).cells (N * 8)) 51
theorem mk36 {N : Nat} (hN : N ≤ 1048576) (W : World) : (Instr.makeSlice 45 (.int .i64 0) (.int .i64 (N : Int))).run Tryd.prog W = .ok (.slice (some ⟨W.heap.size, 0, none⟩) 0 N) (W.alloc (moN N)) := by
  obtain ⟨i3, hi3, hz3, hs3, hb3⟩ := info_parts infIn
  have := run_make (P := Tryd.prog) W 45 51 i3 _ Tryd.underlying45 hi3 hz3 .i64 .i64 0 (N : Int) (by omega) (by omega) (by rw [hb3]; omega) (by omega)
  rw [hs3] at this
  simpa [moN] using this
theorem KI.start {w W0 : World} {A : Wd} (hA : OkW A) (l : List RIn) (lv : Value) (hN : l.length ≤ 1048576) (h0 : W0 = (((w.alloc (.cells (wdA A) 62)).alloc (moN l.length)).alloc (.cells #[.slice (some ⟨w.heap.size + 1, 0, none⟩) 0 l.length] 45)).alloc (.cells #[lv] 45)) : KI w (sS A) l lv 0 W0 ∧ W0.heap.size = w.heap.size + 4 := by
  have hz : W0.heap.size = w.heap.size + 4 := by rw [h0]; simp
  have hb1 := box1n w (.cells (wdA A) 62)
  have hb2 := box1n (w.alloc (.cells (wdA A) 62)) (moN l.length)
  have hb3 := box1n ((w.alloc (.cells (wdA A) 62)).alloc (moN l.length)) (.cells #[.slice (some ⟨w.heap.size + 1, 0, none⟩) 0 l.length] 45)
  have hb4 := box1n (((w.alloc (.cells (wdA A) 62)).alloc (moN l.length)).alloc (.cells #[.slice (some ⟨w.heap.size + 1, 0, none⟩) 0 l.length] 45)) (.cells #[lv] 45)
  have hm := made_ro enIn (⟨0, 0, 0, .slice none 0 0, 0, 0, 0, .slice none 0 0⟩ : InR) (Value.agg #[.int .i64 0, .int .i64 0, .int .i64 0, .slice none 0 0, .int .i64 0, .int .i64 0, .int .i64 0, .slice none 0 0]).cells 8 zIn (by decide) rfl (w.alloc (.cells (wdA A) 62)) 51 l.length (by unfold maxLen; omega)
  rw [World.size_alloc] at hm
  have hm0 := hm.upto rfl (k := 0) (Nat.zero_le _)
  have hm1 := (hm0.fr (Fr.of_below (S := fun _ => False) hb3) (fun _ _ e => e)).fr (Fr.of_below (S := fun _ => False) hb4) (fun _ _ e => e)
  have e0 : (kepL (sS A) (l.drop (l.length - 0))).reverse = [] := by rw [Nat.sub_zero, List.drop_length]; rfl
  have eb : backL (sS A) (l.drop (l.length - 0)) = sS A := by rw [Nat.sub_zero, List.drop_length]; rfl
  have s0 : W0.heap[w.heap.size]? = some (.cells (wdA A) 62) := by
    rw [h0, Below.heap_alloc _ _ _ (by simp only [World.size_alloc]; omega), Below.heap_alloc _ _ _ (by simp only [World.size_alloc]; omega), Below.heap_alloc _ _ _ (by simp only [World.size_alloc]; omega)]
    exact heap_alloc_new w _
  have s2 : W0.heap[w.heap.size + 2]? = some (.cells #[.slice (some ⟨w.heap.size + 1, 0, none⟩) 0 l.length] 45) := by
    rw [h0, Below.heap_alloc _ _ _ (by simp only [World.size_alloc]; omega)]
    have := heap_alloc_new ((w.alloc (.cells (wdA A) 62)).alloc (moN l.length)) (.cells #[.slice (some ⟨w.heap.size + 1, 0, none⟩) 0 l.length] 45)
    simpa using this
  have s3 : W0.heap[w.heap.size + 3]? = some (.cells #[lv] 45) := by
    rw [h0]
    have := heap_alloc_new (((w.alloc (.cells (wdA A) 62)).alloc (moN l.length)).alloc (.cells #[.slice (some ⟨w.heap.size + 1, 0, none⟩) 0 l.length] 45)) (.cells #[lv] 45)
    simpa using this
  refine ⟨⟨.slice (some ⟨w.heap.size + 1, 0, none⟩) 0 l.length, [], ?_, ?_, Nat.zero_le _⟩, hz⟩
  · rw [e0]
    refine ⟨?_, s2, s3, ⟨rfl, ?_, fun k hk => ?_, fun i u x hu => by simp at hu, fun i x k hx => by simp at hx, fun i j x y k _ hx => by simp at hx⟩⟩
    · rw [h0]; exact hb1.trans ((hb2.mono (by simp only [World.size_alloc]; omega)).trans ((hb3.mono (by simp only [World.size_alloc]; omega)).trans (hb4.mono (by simp only [World.size_alloc]; omega))))
    · rw [h0]; simpa [flt] using hm1
    · have hk2 : w.heap.size + 1 = k := by { simpa [Value.ownBlock] using hk }
      subst hk2; unfold KZ; omega
  · rw [eb]; exact ⟨A, hA, s0, rfl⟩
set_option maxRecDepth 100000 in
set_option maxHeartbeats 12800000 in
theorem kept_any {w : World} {D0 : Nat → Prop} {l : List RIn} {lv : Value} {A : Wd} (h : InsV D0 w l lv) (hA : OkW A) (hL : l.length ≤ 1048576)
    (hM : ∀ x ∈ l, x.args.length ≤ 1048576 ∧ x.ex.length ≤ 1048576 ∧ ∀ s ∈ x.ex, s.sl.length ≤ 1048576) :
    Calls Tryd.prog 32 #[lv, stV A] w fun e w' => ∃ v ts, e = .returned v ∧ Below w.heap.size w w' ∧ OW enT 8 InT blT (fun q => w.heap.size ≤ q) w' v (kepL (sS A) l) ts := by
  obtain ⟨D, hDD⟩ : ∃ D : Nat → Prop, Hid (D = fun k => k < w.heap.size) := ⟨_, hide rfl⟩
  have hD : ∀ k, D k → k < w.heap.size := fun k hk => by rw [unhide hDD] at hk; exact hk
  have h : InsV D w l lv := InsV.mv D0 D (fun _ => False) w w l lv h (Fr.refl _ w) (fun k hk _ => ⟨fun q => q, by rw [unhide hDD]; exact hk⟩)
  obtain ⟨n, hn⟩ : ∃ n : Nat, 4 ≤ n := ⟨4, Nat.le_refl _⟩
  refine (callsIn_wide (n := n)).1 ?_
  obtain ⟨rs, hrl, hrd, hre⟩ := h
  obtain ⟨a, cap, rfl, hlc, hcm⟩ := hrd.1.shape
  obtain ⟨N, hN⟩ : ∃ N, Hid (l.length = N) := ⟨_, hide rfl⟩
  have HST := hide (fun (W0 : World) (hw : W0 = _) => KI.start (w := w) hA l (.slice a N cap) hL hw)
  rw [unhide hN] at hL hlc hrl hrd HST ⊢
  unfold maxLen at hcm
  have HA := hide hA
  have HRD := hide hrd
  have HRE := hide hre
  have HD := hide hD
  have HRL := hide hrl
  have HM := hide hM
  have hmk := mk36 hL
  obtain ⟨MO, hMO⟩ : ∃ z, Hid (moN N = z) := ⟨_, hide rfl⟩
  rw [unhide hMO] at hmk HST
  clear hA hrd hre hD hrl hM hDD
  have n0 : (0 : Int) ≤ (N : Int) := by omega
  unfold stV
  refine callsIn_of_wp_marks Tryd.func32 rfl trivial ?_ rfl
  simp only [Tryd.ntmps32, List.size_toArray, List.length_cons, List.length_nil, Nat.reduceAdd, Nat.reduceSub, Array.replicate_succ, Array.replicate_zero, List.push_toArray, List.append_toArray, List.nil_append, List.cons_append]
  gi_wp2_with fail
  refine ⟨trivial, (fun q => by cases q), (callsIn_wide.2 (back_box _ _ _ _)).mono ?_⟩
  rintro e w1 ⟨rfl, ew⟩
  rw [ew]
  clear ew w1 hmk
  gi_wp2_with fail
  obtain ⟨W0, eW⟩ : ∃ W0, Hid (((((w.alloc (.cells (wdA A) 62)).alloc MO).alloc (.cells #[.slice (some ⟨w.heap.size + 1, 0, none⟩) 0 N] 45)).alloc (.cells #[.slice a N cap] 45)) = W0) := ⟨_, hide rfl⟩
  obtain ⟨hG, hs0⟩ := unhide HST W0 (unhide eW).symm
  rw [unhide eW]
  clear eW HST
  have hseq := back1_hands (n - 1) (w.heap.size + 3) (.slice a N cap) rs (by rw [unhide HRL]; exact hL)
  refine wpIn_hands3 rfl (by omega) (gf := 63) (lb := #[.pointer (some ⟨w.heap.size + 3, 0, none⟩)]) (by first | rfl | (simp [go_sem]; done)) trivial (enters_of Tryd.func63 (by kernel_rfl) rfl) hseq (fun _ => rfl)
    (KI w (sS A) l (.slice a N cap)) (fun _ _ _ => False) (fun k X q => ?hV)
    (fun k X Y q f => q.frZ f (fun b e => by unfold two2 at e; omega)) (fun c k X Y q f => q) hG ?round ?done ?stop
  case hV =>
    obtain ⟨ov, ts, q1, _⟩ := q
    exact ⟨(blk_cells q1.b1).1 0, by rw [unhide HRL]; exact ((unhide HRD).mv (D' := D) (Fr.of_below (S := fun _ => False) q1.bel) (fun k hk hd => ⟨fun e => e, hd⟩)).1⟩
  case round =>
    rintro l2 k X hG hk hXl
    have hkN : k < N := by rw [unhide HRL] at hk; exact hk
    obtain ⟨M, hM⟩ : ∃ M, Hid (N - 1 - k = M) := ⟨_, hide rfl⟩
    have hM' := unhide hM
    obtain ⟨y, hy⟩ : ∃ y, rs[M]? = some y := ⟨_, List.getElem?_eq_getElem (by rw [unhide HRL]; omega)⟩
    obtain ⟨x, hx⟩ : ∃ x, l[M]? = some x := ⟨_, List.getElem?_eq_getElem (by rw [unhide hN]; omega)⟩
    simp only [encB, unhide HRL, List.getD_eq_getElem?_getD, hM', hy, Option.getD_some]
    have hP := unhide HRE M x y hx hy
    have HP := hide hP
    have HY := hide hy
    have HX := hide hx
    obtain ⟨ov, ts, hKO, hSB, hkl⟩ := hG
    have HNQ : Hid (∀ z, X.heap.size ≤ z → ov.ownBlock ≠ some z ∧ ∀ y ∈ ts, ¬ blT y z) := fun z hz => ⟨fun e => by have := (hKO.ow.in (.inl e)).2; omega, fun y hy e => by have := (hKO.ow.in (.inr ⟨y, hy, e⟩)).2; omega⟩
    have HKO := hide hKO
    have HSB := hide hSB
    clear hk hP hy hx hKO hSB
    obtain ⟨ih, hih⟩ : ∃ z, Hid (backL (sS A) (l.drop (M + 1)) = z) := ⟨_, hide rfl⟩
    have eNk : l.length - k = M + 1 := by rw [unhide hN]; omega
    rw [eNk] at HKO HSB
    rw [unhide hih] at HSB
    unfold inV
    obtain ⟨yop, ycode, ydst, yav, yn, ypc, yneed, yev⟩ := y
    obtain ⟨aa, ac, ea1, _, _⟩ := (unhide HP).2.2.2.2.2.2.1.1.shape
    obtain ⟨ea, ec, ea2, _, _⟩ := NV.shape (unhide HP).2.2.2.2.2.2.2
    simp only at ea1 ea2
    subst ea1 ea2
    obtain ⟨AL, hAL⟩ : ∃ z, Hid (x.args.length = z) := ⟨_, hide rfl⟩
    obtain ⟨EL, hEL⟩ : ∃ z, Hid (x.ex.length = z) := ⟨_, hide rfl⟩
    rw [unhide hAL, unhide hEL] at HP HY ⊢
    simp only
    gi_wp2_with fail
    obtain ⟨X1, hX1⟩ : ∃ X1, Hid (X.alloc (Obj.cells #[Value.int IntKind.i64 yop, Value.int IntKind.i64 ycode, Value.int IntKind.i64 ydst, Value.slice aa AL ac, Value.int IntKind.i64 yn, Value.int IntKind.i64 ypc, Value.int IntKind.i64 yneed, Value.slice ea EL ec] 51) = X1) := ⟨_, hide rfl⟩
    obtain ⟨q, hq⟩ : ∃ q, Hid (X.heap.size = q) := ⟨_, hide rfl⟩
    have hqX : w.heap.size + 6 ≤ q := by have := unhide hq; omega
    have HX1 : Hid (Fr (fun _ => False) X X1 ∧ X1.heap[q]? = some (Obj.cells #[Value.int IntKind.i64 yop, Value.int IntKind.i64 ycode, Value.int IntKind.i64 ydst, Value.slice aa AL ac, Value.int IntKind.i64 yn, Value.int IntKind.i64 ypc, Value.int IntKind.i64 yneed, Value.slice ea EL ec] 51)) := by
      rw [← unhide hX1, ← unhide hq]
      exact ⟨(Fr.refl _ _).alloc _, heap_alloc_new X _⟩
    rw [unhide hX1, unhide hq]
    refine ⟨⟨(unhide HX1).1.block _ (by omega) (fun e => e), (unhide HX1).1.block _ (by omega) (fun e => e)⟩, fun Y hXY hYs => ?_⟩
    have hFY : Fr (two2 W0.heap.size) X Y := ((unhide HX1).1.mono (fun _ _ e => e.elim)).trans hXY
    have hKY := (unhide HKO).frZ hFY (fun b e => by unfold two2 at e; omega)
    have hSY := (unhide HSB).fr hFY (by unfold two2; omega)
    have hBQ : Y.heap[q]? = some (Obj.cells #[Value.int IntKind.i64 yop, Value.int IntKind.i64 ycode, Value.int IntKind.i64 ydst, Value.slice aa AL ac, Value.int IntKind.i64 yn, Value.int IntKind.i64 ypc, Value.int IntKind.i64 yneed, Value.slice ea EL ec] 51) := (hXY.block q (Array.getElem?_eq_some_iff.1 (unhide HX1).2).1 (by unfold two2; omega)).trans (unhide HX1).2
    obtain ⟨cq, _, lq⟩ := blk_cells hBQ
    have e0 := cq 0
    have e1 := cq 1
    have e2 := cq 2
    have e3 := cq 3
    have e4 := cq 4
    have e5 := cq 5
    have e6 := cq 6
    have e7 := cq 7
    simp at e0 e1 e2 e3 e4 e5 e6 e7
    have HIY : Hid (InP D Y x ⟨yop, ycode, ydst, .slice aa AL ac, yn, ypc, yneed, .slice ea EL ec⟩) := InP.mv D D (fun _ => False) w Y x _ (unhide HP) (Fr.of_below hKY.bel) (fun k hk hd => ⟨fun e => e, hd⟩)
    have HC := hide (idle_any (x := x) (op := yop) (code := ycode) (dst := ydst) (n := yn) (pc := ypc) (need := yneed) (aa := aa) (ea := ea) (al := AL) (ac := ac) (el := EL) (ec := ec) hSY (unhide HP).1 (unhide HP).2.2.1)
    have HKY := hide hKY
    have HSY := hide hSY
    have HYS := hide hYs
    have HBQ := hide hBQ
    have HQX : Hid (q = X.heap.size) := (unhide hq).symm
    clear hKY hSY hBQ cq hFY hXY hYs HX1 hX1 HKO HSB hq
    cases hid : idle ih x with
    | true =>
      rw [hid] at HC
      have HID := hide hid
      clear hid
      gi_wp2_with fail
      refine ⟨trivial, (fun q => by cases q), (CallsIn.inRound l2 (callsIn_wide.2 (unhide HC))).mono ?_⟩
      rintro e Y2 ⟨rfl, b2⟩
      have HG2 : Hid (Stay W0.heap.size Y Y2 ∧ KI w (sS A) l (.slice a N cap) (k + 1) Y2) := by
        have hys := unhide HYS
        refine ⟨⟨b2.block _ (by omega), b2.block _ (by omega)⟩, ov, ts, ?_, ?_, by rw [unhide hN]; omega⟩
        · rw [show l.length - (k + 1) = M by rw [unhide hN]; omega, kepL_drop _ _ (unhide HX), unhide hih, if_pos (unhide HID)]
          exact (unhide HKY).on b2
        · rw [show l.length - (k + 1) = M by rw [unhide hN]; omega, backL_drop _ _ (unhide HX), unhide hih]
          have hbk : backS ih x = ih := by funext r; unfold backS; rw [if_pos (unhide HID)]
          rw [hbk]
          exact (unhide HSY).below b2
      clear b2 HC
      gi_wp2_with fail
      exact unhide HG2
    | false =>
      rw [hid] at HC
      have HID := hide hid
      clear hid
      gi_wp2_with fail
      refine ⟨trivial, (fun q => by cases q), (CallsIn.inRound l2 (callsIn_wide.2 (unhide HC))).mono ?_⟩
      rintro e Y2 ⟨rfl, b2⟩
      clear e0 e1 e2 e3 e4 e5 e6 e7 lq
      have HB2 := hide b2
      have hBQ : Y2.heap[q]? = some (Obj.cells #[Value.int IntKind.i64 yop, Value.int IntKind.i64 ycode, Value.int IntKind.i64 ydst, Value.slice aa AL ac, Value.int IntKind.i64 yn, Value.int IntKind.i64 ypc, Value.int IntKind.i64 yneed, Value.slice ea EL ec] 51) := (b2.block _ (Array.getElem?_eq_some_iff.1 (unhide HBQ)).1).trans (unhide HBQ)
      obtain ⟨cq, _, lq⟩ := blk_cells hBQ
      have e0 := cq 0
      have e1 := cq 1
      have e2 := cq 2
      have e3 := cq 3
      have e4 := cq 4
      have e5 := cq 5
      have e6 := cq 6
      have e7 := cq 7
      simp at e0 e1 e2 e3 e4 e5 e6 e7
      have HC2 := hide (back_any (D := D) (InP.mv D D (fun _ => False) Y Y2 x _ (unhide HIY) (Fr.of_below b2) (fun k hk hd => ⟨fun e => e, hd⟩)) (fun k hk => by have := unhide HD k hk; omega) ((unhide HSY).below b2))
      unfold inV at HC2
      have HBQ2 := hide hBQ
      clear b2 HC hBQ cq
      gi_wp2_with fail
      refine ⟨trivial, (fun q => by cases q), (CallsIn.inRound l2 (callsIn_wide.2 (unhide HC2))).mono ?_⟩
      rintro e Y3 ⟨⟨v3, rfl⟩, f3, s3⟩
      have HF3 := hide f3
      have HS3' := hide s3
      have HQ3 : Hid (Y3.heap[q]? = some (.cells #[Value.int IntKind.i64 yop, Value.int IntKind.i64 ycode, Value.int IntKind.i64 ydst, Value.slice aa AL ac, Value.int IntKind.i64 yn, Value.int IntKind.i64 ypc, Value.int IntKind.i64 yneed, Value.slice ea EL ec] 51)) := (f3.block _ (Array.getElem?_eq_some_iff.1 (unhide HBQ2)).1 (by omega)).trans (unhide HBQ2)
      have HI3 : Hid (InP D Y3 x ⟨yop, ycode, ydst, .slice aa AL ac, yn, ypc, yneed, .slice ea EL ec⟩) := InP.mv D D (fun q => q = w.heap.size) Y2 Y3 x _ (InP.mv D D (fun _ => False) Y Y2 x _ (unhide HIY) (Fr.of_below (unhide HB2)) (fun k hk hd => ⟨fun e => e, hd⟩)) f3 (fun k hk hd => ⟨fun e => by have := unhide HD k hd; omega, hd⟩)
      have HK3 : Hid (KO w (.slice a N cap) ov (kepL (sS A) (l.drop (M + 1))).reverse ts Y3) := ((unhide HKY).on (unhide HB2)).frZ f3 (fun z e => .inl e)
      have hqY3 : q < Y3.heap.size := (Array.getElem?_eq_some_iff.1 (unhide HQ3)).1
      clear f3 s3 HC2 e0 e1 e2 e3 e4 e5 e6 e7 lq
      gi_wp2_with fail
      have HS0 : Hid (Y3.drew.cell? ⟨q, 3, none⟩ = some (.slice aa AL ac) ∧ Y3.drew.cell? ⟨q, 7, none⟩ = some (.slice ea EL ec)) := ⟨(blk_cells (unhide HQ3)).1 3, (blk_cells (unhide HQ3)).1 7⟩
      have hsV : Hid (Below Y3.heap.size Y3 Y3.drew) := bl_drew Y3
      have HPV : Hid (Y3.drew.heap[q]? = some (.cells #[Value.int IntKind.i64 yop, Value.int IntKind.i64 ycode, Value.int IntKind.i64 ydst, Value.slice aa AL ac, Value.int IntKind.i64 yn, Value.int IntKind.i64 ypc, Value.int IntKind.i64 yneed, Value.slice ea EL ec] 51)) := unhide HQ3
      have HIV : Hid (InP D Y3.drew x ⟨yop, ycode, ydst, .slice aa AL ac, yn, ypc, yneed, .slice ea EL ec⟩) := InP.mv D D (fun _ => False) Y3 Y3.drew x _ (unhide HI3) (Fr.of_below (bl_drew Y3)) (fun k hk hd => ⟨fun e => e, hd⟩)
      refine wpIn_region_roundL (S := fun W => W.cell? ⟨q, 3, none⟩ = some (.slice aa AL ac) ∧ W.cell? ⟨q, 7, none⟩ = some (.slice ea EL ec)) (m := 7) (fun ⟨_, _, h⟩ => h) (by kernel_rfl) (by kernel_rfl) ?_
      obtain ⟨V, hV⟩ : ∃ V, Hid (Y3.drew = V) := ⟨_, hide rfl⟩
      have HBV : Hid (Below Y3.heap.size Y3 V) := by rw [← unhide hV]; exact unhide hsV
      rw [unhide hV] at HS0 HPV HIV ⊢
      clear hsV hV
      refine wpAnyL_takeU (i := 0) (oi := _) (v := .pointer (some ⟨q, 3, none⟩)) rfl (by kernel_rfl) (by kernel_rfl) (by kernel_rfl) (by decide) (fun _ _ _ h => h) (Or.inl ⟨by rfl, (by intro w' _; go_simp)⟩) (fun _ => unhide HS0) ?_
      go_simp
      refine wpAnyL_take (i := 1) (oi := _) (om := _) (v := .slice aa AL ac) rfl rfl (by kernel_rfl) (by kernel_rfl) (by kernel_rfl) (by kernel_rfl) (by decide) (by kernel_rfl) (fun _ _ _ h => h) (Or.inl ⟨by rfl, (by intro w' hSw; obtain ⟨s3, s7⟩ := hSw; go_simp)⟩) (unhide HS0) ?_
      go_simp
      refine wpAnyL_takeU (i := 3) (oi := _) (v := .pointer (some ⟨q, 7, none⟩)) rfl (by kernel_rfl) (by kernel_rfl) (by kernel_rfl) (by decide) (fun _ _ _ h => h) (Or.inl ⟨by rfl, (by intro w' _; go_simp)⟩) (fun _ => unhide HS0) ?_
      go_simp
      refine wpAnyL_take (i := 4) (oi := _) (om := _) (v := .slice ea EL ec) rfl rfl (by kernel_rfl) (by kernel_rfl) (by kernel_rfl) (by kernel_rfl) (by decide) (by kernel_rfl) (fun _ _ _ h => h) (Or.inl ⟨by rfl, (by intro w' hSw; obtain ⟨s3, s7⟩ := hSw; go_simp)⟩) (unhide HS0) ?_
      go_simp
      have HC3 := hide (cloneO_any (l := x.args) (unhide HIV).2.2.2.2.2.2.1.1 (oneO _) (unhide HM x (List.mem_of_getElem? (unhide HX))).1)
      refine wpAnyL_one (i := 2) (o := _) (by kernel_rfl) rfl (fun K hK => ?_)
      go_simp
      refine (unhide HC3).mono ?_
      rintro e w3 ⟨ua, rfl, hG3⟩
      have HG3 := hide hG3
      have HB3 := hide hG3.2.1
      obtain ⟨uaa, uac, eua, -, -⟩ := hG3.1.shape
      rw [unhide hAL] at eua
      subst eua
      have HP3 : Hid (w3.heap[q]? = some (.cells #[Value.int IntKind.i64 yop, Value.int IntKind.i64 ycode, Value.int IntKind.i64 ydst, Value.slice aa AL ac, Value.int IntKind.i64 yn, Value.int IntKind.i64 ypc, Value.int IntKind.i64 yneed, Value.slice ea EL ec] 51)) := ((unhide HB3).block q (Array.getElem?_eq_some_iff.1 (unhide HPV)).1).trans (unhide HPV)
      have HS3 : Hid (w3.cell? ⟨q, 3, none⟩ = some (.slice aa AL ac) ∧ w3.cell? ⟨q, 7, none⟩ = some (.slice ea EL ec)) := ⟨(blk_cells (unhide HP3)).1 3, (blk_cells (unhide HP3)).1 7⟩
      clear hG3 HC3
      refine hK _ _ (fun _ => unhide HS3) ?_
      clear hK K
      go_simp
      have HC7 := hide (copied_any (unhide (hide (InP.mv D D (fun _ => False) V w3 x _ (unhide HIV) (Fr.of_below (unhide HB3)) (fun k hk hd => ⟨fun e => e, hd⟩)))).2.2.2.2.2.2.2 (unhide HM x (List.mem_of_getElem? (unhide HX))).2.1 (unhide HM x (List.mem_of_getElem? (unhide HX))).2.2)
      refine wpAnyL_takeU (i := 6) (oi := _) (v := .pointer (some ⟨q, 3, none⟩)) rfl (by kernel_rfl) (by kernel_rfl) (by kernel_rfl) (by decide) (fun _ _ _ h => h) (Or.inl ⟨by rfl, (by intro w' _; go_simp)⟩) (fun _ => unhide HS3) ?_
      go_simp
      refine wpAnyL_one (i := 5) (o := _) (by kernel_rfl) rfl (fun K hK => ?_)
      go_simp
      refine (unhide HC7).mono ?_
      rintro e w4 ⟨ue, rs0, rs2, rfl, hG4⟩
      have HG4 := hide hG4
      have HB4 := hide hG4.bl
      obtain ⟨uea, uec, eue, -, -⟩ := hG4.row.shape
      rw [unhide hEL] at eue
      subst eue
      have HP4 : Hid (w4.heap[q]? = some (.cells #[Value.int IntKind.i64 yop, Value.int IntKind.i64 ycode, Value.int IntKind.i64 ydst, Value.slice aa AL ac, Value.int IntKind.i64 yn, Value.int IntKind.i64 ypc, Value.int IntKind.i64 yneed, Value.slice ea EL ec] 51)) := ((unhide HB4).block q (Array.getElem?_eq_some_iff.1 (unhide HP3)).1).trans (unhide HP3)
      have HS4 : Hid (w4.cell? ⟨q, 3, none⟩ = some (.slice aa AL ac) ∧ w4.cell? ⟨q, 7, none⟩ = some (.slice ea EL ec)) := ⟨(blk_cells (unhide HP4)).1 3, (blk_cells (unhide HP4)).1 7⟩
      clear hG4 HC7
      refine hK _ _ (fun _ => unhide HS4) ?_
      clear hK K
      go_simp
      have s3 := (unhide HS4).1
      have s3f : w4.frozen? ⟨q, 3, none⟩ = false := (blk_cells (unhide HP4)).2.1 3
      refine wpAnyL_one (i := 7) (o := _) (by kernel_rfl) rfl (fun K hK => ?_)
      go_simp
      refine hK _ _ (fun h => absurd h (by decide)) ?_
      clear hK K
      go_simp
      refine wpAnyL_takeU (i := 8) (oi := _) (v := .pointer (some ⟨q, 7, none⟩)) rfl (by kernel_rfl) (by kernel_rfl) (by kernel_rfl) (by decide) (fun _ _ _ h => h) (Or.inl ⟨by rfl, (by intro w' _; go_simp)⟩) (fun h => absurd h (by decide)) ?_
      go_simp
      have h7 := setCell_block (g := q) (o := 3) (unhide HP4) (.slice uaa AL uac)
      have s7 : (w4.setCell ⟨q, 3, none⟩ (.slice uaa AL uac)).cell? ⟨q, 7, none⟩ = some (.slice ea EL ec) := by
        obtain ⟨q1, q2, q3⟩ := blk_cells h7
        rw [q1]
        simp
      have s7f : (w4.setCell ⟨q, 3, none⟩ (.slice uaa AL uac)).frozen? ⟨q, 7, none⟩ = false := (blk_cells h7).2.1 7
      clear h7 s3 s3f
      refine wpAnyL_one (i := 9) (o := _) (by kernel_rfl) rfl (fun K hK => ?_)
      go_simp
      refine hK _ _ (fun h => absurd h (by decide)) ?_
      clear hK K
      go_simp
      refine wpAnyL_done (by kernel_rfl) ?_ _
      clear s7 s7f
      obtain ⟨W5, hW5⟩ : ∃ W, Hid ((w4.setCell ⟨q, 3, none⟩ (.slice uaa AL uac)).setCell ⟨q, 7, none⟩ (.slice uea EL uec) = W) := ⟨_, hide rfl⟩
      have HP5 : Hid (W5.heap[q]? = some (.cells #[Value.int IntKind.i64 yop, Value.int IntKind.i64 ycode, Value.int IntKind.i64 ydst, Value.slice uaa AL uac, Value.int IntKind.i64 yn, Value.int IntKind.i64 ypc, Value.int IntKind.i64 yneed, Value.slice uea EL uec] 51)) := by rw [← unhide hW5]; exact set2 (unhide HP4)
      have F45 : Hid (Fr (fun z => z = q) w4 W5) := by rw [← unhide hW5]; exact Fr.setCell (S := fun z => z = q) (Fr.setCell (S := fun z => z = q) (Fr.refl _ w4) ⟨q, 3, none⟩ (.inr rfl) _) ⟨q, 7, none⟩ (.inr rfl) _
      have HT4 := CpS.inT (u := x) (x := ⟨yop, ycode, ydst, .slice uaa AL uac, yn, ypc, yneed, .slice uea EL uec⟩) (unhide HG3) (unhide HG4) ⟨(unhide HI3).1, (unhide HI3).2.1, (unhide HI3).2.2.1, (unhide HI3).2.2.2.1, (unhide HI3).2.2.2.2.1, (unhide HI3).2.2.2.2.2.1⟩ rfl rfl
      have F35 : Hid (Fr (fun z => z = q) Y3 W5) := ((Fr.of_below (S := fun z => z = q) (bl_past (bl_past (unhide HBV) (unhide HB3)) (unhide HB4)))).trans (unhide F45)
      have HN5 : Hid (∀ z, blT (⟨yop, ycode, ydst, .slice uaa AL uac, yn, ypc, yneed, .slice uea EL uec⟩, rs2) z → Y3.heap.size ≤ z ∧ z < W5.heap.size) := fun z hz => ⟨Nat.le_trans (unhide HBV).size (HT4.2 z hz).1, Nat.lt_of_lt_of_le (HT4.2 z hz).2 (unhide F45).size⟩
      have HT5 : Hid (InT W5 x (⟨yop, ycode, ydst, .slice uaa AL uac, yn, ypc, yneed, .slice uea EL uec⟩, rs2)) := stayT _ _ _ _ _ HT4.1 (unhide F45) (fun z hz e => by have := (unhide HN5 z hz).1; have := (Array.getElem?_eq_some_iff.1 (unhide HQ3)).1; have e2 : z = q := e; omega)
      clear HT4 HG3 HG4 HP4 HP3 HPV HS0 HS3 HS4 F45 HB3 HB4 HBV HIV
      rw [unhide hW5]
      clear hW5
      have hKW := (unhide HK3).frx (unhide F35) (fun z hz e => by have e2 : z = q := e; subst e2; exact ⟨by omega, by omega, by omega, unhide HNQ z (by rw [unhide HQX]; exact Nat.le_refl _)⟩)
      have hsl : w.heap.size + 5 < W5.heap.size := by have := (unhide F35).size; omega
      have hlen : (kepL (sS A) (l.drop (M + 1))).reverse.length ≤ 1048576 := by
        rw [List.length_reverse]
        have := kepL_len (sS A) (l.drop (M + 1))
        rw [List.length_drop, unhide hN] at this
        omega
      obtain ⟨oa, oc, ya, yc, w1, a1, a2, a3, a4, a5, a6⟩ := hKW.app (unhide HT5) (fun z hz => by
        have h1 := unhide HN5 z hz
        have h2 : X.heap.size ≤ z := by have := unhide HQX; omega
        exact ⟨by unfold KZ; omega, h1.2, unhide HNQ z h2⟩) hlen hsl
      obtain ⟨KL, hKL⟩ : ∃ z, Hid ((kepL (sS A) (l.drop (M + 1))).reverse.length = z) := ⟨_, hide rfl⟩
      rw [unhide hKL] at a1 a2 a5 a6
      have hbo := hKW.bo
      rw [a1] at hbo a2 a3 a6
      have c2 : W5.cell? ⟨w.heap.size + 1 + 1, 0, none⟩ = some (.slice oa KL oc) := (blk_cells hbo).1 0
      have l2' : w.heap.size + 1 + 1 < W5.heap.size := (blk_cells hbo).2.2
      have a3' : w1.cell? ⟨w.heap.size + 1 + 1, 0, none⟩ = some (.slice oa KL oc) := a3
      have a4' : w1.frozen? ⟨w.heap.size + 1 + 1, 0, none⟩ = false := a4
      obtain ⟨cq, _, lq⟩ := blk_cells (unhide HP5)
      have e0 := cq 0
      have e1 := cq 1
      have e2 := cq 2
      have e3 := cq 3
      have e4 := cq 4
      have e5 := cq 5
      have e6 := cq 6
      have e7 := cq 7
      simp at e0 e1 e2 e3 e4 e5 e6 e7
      have HRUN := hide a2
      have HG2 : Hid (Stay W0.heap.size Y (w1.setCell ⟨w.heap.size + 1 + 1, 0, none⟩ (.slice ya (KL + 1) yc)) ∧ KI w (sS A) l (.slice a N cap) (k + 1) (w1.setCell ⟨w.heap.size + 1 + 1, 0, none⟩ (.slice ya (KL + 1) yc))) := by
        have hys := unhide HYS
        have g1 : W5.heap[W0.heap.size]? = Y.heap[W0.heap.size]? := ((unhide F35).block _ (by have := (unhide HF3).size; have := (unhide HB2).size; omega) (by omega)).trans (((unhide HF3).block _ (by have := (unhide HB2).size; omega) (by omega)).trans ((unhide HB2).block _ (by omega)))
        have g2 : W5.heap[W0.heap.size + 1]? = Y.heap[W0.heap.size + 1]? := ((unhide F35).block _ (by have := (unhide HF3).size; have := (unhide HB2).size; omega) (by omega)).trans (((unhide HF3).block _ (by have := (unhide HB2).size; omega) (by omega)).trans ((unhide HB2).block _ (by omega)))
        have hk : ∀ z, (Value.slice oa KL oc).ownBlock = some z → KZ w z := fun z hz => hKW.ow.rb z (by rw [a1]; exact hz)
        refine ⟨⟨(a6.block _ (by omega) (fun e => ?_)).trans g1, (a6.block _ (by omega) (fun e => ?_)).trans g2⟩, .slice ya (KL + 1) yc, ts ++ [((⟨yop, ycode, ydst, .slice uaa AL uac, yn, ypc, yneed, .slice uea EL uec⟩ : InR), rs2)], ?_, ?_, by rw [unhide hN]; omega⟩
        · rcases e with e | e
          · omega
          · have := hk _ e; unfold KZ at this; omega
        · rcases e with e | e
          · omega
          · have := hk _ e; unfold KZ at this; omega
        · rw [show l.length - (k + 1) = M by rw [unhide hN]; omega, kepL_drop _ _ (unhide HX), unhide hih, if_neg (by rw [unhide HID]; decide), List.reverse_cons]
          exact a5
        · rw [show l.length - (k + 1) = M by rw [unhide hN]; omega, backL_drop _ _ (unhide HX), unhide hih]
          refine ((unhide HS3').fr (unhide F35) (by omega)).fr a6 (fun e => ?_)
          rcases e with e | e
          · omega
          · have := hk _ e; unfold KZ at this; omega
      clear a2 a3 a4 a5 a6 hbo cq hKW
      gi_wp2_with (first | (gi_at_builtin; refine wpListIn_appRun rfl _ _ rfl rfl rfl (unhide HRUN) ?_))
      first | exact unhide HG2 | (rw [hs0] at HG2; exact unhide HG2)
  case done =>
    rintro k X hE hG hK
    have ek : k = N := by rw [unhide HRL] at hE; exact hE
    subst ek
    obtain ⟨ov, ts, hKO, hSB, hkl⟩ := hG
    rw [unhide hN, Nat.sub_self, List.drop_zero] at hKO
    obtain ⟨oa, oc, ev, ho1, ho2⟩ := hKO.ow.row.shape
    have HKO := hide hKO
    have hbo := hKO.bo
    obtain ⟨KL, hKL⟩ : ∃ z, Hid ((kepL (sS A) l).reverse.length = z) := ⟨_, hide rfl⟩
    rw [unhide hKL] at ev
    rw [ev] at hbo
    have hrow := hKO.ow.row
    rw [← hKO.ow.len, ← fltT] at hrow
    have htl : (ts.map Prod.fst).length = ts.length := by simp
    rw [← htl] at hrow
    have hRV := reverse_any hrow (fun r hr => by
      obtain ⟨t, ht, rfl⟩ := List.mem_map.1 hr
      obtain ⟨i, hi, rfl⟩ := List.getElem_of_mem ht
      obtain ⟨u, hu⟩ : ∃ u, (kepL (sS A) l).reverse[i]? = some u := ⟨_, List.getElem?_eq_getElem (by rw [← hKO.ow.len]; exact hi)⟩
      have hT := hKO.ow.el i u _ hu (List.getElem?_eq_getElem hi)
      obtain ⟨_, _, e1, _⟩ := hT.a.shape
      obtain ⟨_, _, e2, _⟩ := hT.e.shape
      exact ⟨⟨_, _, _, e1⟩, _, _, _, e2⟩) (by rw [htl, hKO.ow.len, List.length_reverse]; have := kepL_len (sS A) l; rw [unhide hN] at this; omega)
    have HRV := hide hRV
    have c2 : X.cell? ⟨w.heap.size + 1 + 1, 0, none⟩ = some (.slice oa KL oc) := (blk_cells hbo).1 0
    have l2' : w.heap.size + 1 + 1 < X.heap.size := (blk_cells hbo).2.2
    have HBO := hide hbo
    rw [ev] at HRV
    have HEV := hide ev
    have hkl2 := (Array.getElem?_eq_some_iff.1 hK).1
    have HK := hide hK
    clear hRV hrow hKO hSB hbo ev hK
    gi_wp2_with fail
    refine ⟨trivial, (fun q => by cases q), (callsIn_wide.2 (unhide HRV)).mono ?_⟩
    rintro e X2 ⟨⟨v2, rfl⟩, r2, f2⟩
    have hkz : ∀ z, (Value.slice oa KL oc).ownBlock = some z → KZ w z := fun z hz => (unhide HKO).ow.rb z (by rw [unhide HEV]; exact hz)
    have hOW : OW enT 8 InT blT (KZ w) X2 (.slice oa KL oc) (kepL (sS A) l) ts.reverse := by
      have h1 := (unhide HKO).ow
      rw [unhide HEV] at h1
      have h2 := h1.rev stayT f2 (by
        rw [htl, h1.len, ← List.map_reverse, fltT] at r2
        exact r2)
      rw [List.reverse_reverse] at h2
      exact h2
    have b2 : X2.heap[w.heap.size + 2]? = some (.cells #[.slice oa KL oc] 45) := (f2.block _ l2' (fun e => by have := hkz _ e; unfold KZ at this; omega)).trans (unhide HBO)
    have c3 : X2.cell? ⟨w.heap.size + 1 + 1, 0, none⟩ = some (.slice oa KL oc) := (blk_cells b2).1 0
    have l3' : w.heap.size + 1 + 1 < X2.heap.size := (blk_cells b2).2.2
    have hK2 : X2.heap[W0.heap.size]? = some (.deferred (some [])) := (f2.block _ hkl2 (fun e => by have := hkz _ e; unfold KZ at this; omega)).trans (unhide HK)
    have hBel : Below w.heap.size w X2 := (unhide HKO).bel.trans (f2.below (unhide HKO).bel.size (fun z hz e => by have := hkz z e; unfold KZ at this; omega))
    have HOW := hide hOW
    have HBel := hide hBel
    have HK2 := hide hK2
    clear hOW hBel hK2 r2 f2 HRV c2 b2
    gi_wp2_with fail
    rw [hs0] at HK2
    have f : Fr (fun z => z = w.heap.size + 4) X2 (X2.putObj (w.heap.size + 4) (.deferred none)) := ⟨rfl, rfl, rfl, by simp, fun k _ hk => World.putObj_heap_other hk⟩
    refine ⟨by simp, .inl ⟨_, _, rfl, run_takeDeferred (unhide HK2), .slice oa KL oc, ?_, .slice oa KL oc, ts.reverse, rfl, (unhide HBel).trans (f.below (unhide HBel).size (fun z hz e => by have e2 : z = w.heap.size + 4 := e; omega)), ?_⟩⟩
    · simp [results, Tryd.f32, go_sem]
    · exact ((unhide HOW).frZ stayT f (fun z _ hz e => by have e2 : z = w.heap.size + 4 := e; unfold KZ at hz; omega)).mono (fun z _ hz => by unfold KZ at hz; omega)
  case stop =>
    rintro c k X hG hK
    exact hG.elim
end Go.Proofs.YtpbdmbmafjkinaaDoor
