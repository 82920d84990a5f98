/-
  Who waits.
-/
import Derived.Test.YtadgiccfjppnfaaCh
namespace Go.Proofs.Ytadgiccfjppnfaa
open Go.RowKit
set_option linter.unusedVariables false
set_option linter.unusedSimpArgs false
theorem bkeep {w w' : World} {b : Nat} {o : Obj} (h : w.heap[b]? = some o) (k : Below w.heap.size w w') : w'.heap[b]? = some o := (k.block b (Array.getElem?_eq_some_iff.1 h).1).trans h
theorem balloc {w : World} {b : Nat} {o : Obj} (o2 : Obj) (h : w.heap[b]? = some o) : (w.alloc o2).heap[b]? = some o := (Below.heap_alloc _ _ _ (Array.getElem?_eq_some_iff.1 h).1).trans h
theorem blk2 (w : World) (o1 o2 : Obj) : ((w.alloc o1).alloc o2).heap[w.heap.size]? = some o1 ∧ ((w.alloc o1).alloc o2).heap[w.heap.size + 1]? = some o2 := by
  refine ⟨?_, ?_⟩
  · rw [Below.heap_alloc _ _ _ (by simp only [World.size_alloc]; omega)]; exact heap_alloc_new w o1
  · have := heap_alloc_new (w.alloc o1) o2
    simpa only [World.size_alloc] using this
/-- What next answers. -/
def NxP (w : World) (r : Option (Int × Int)) (e : Ending) (w' : World) : Prop := ∃ x b, e = .returned (.tuple #[.agg #[.int .i64 x.1, .int .i64 x.2], .bool b]) ∧ x = r.getD (0, 0) ∧ b = r.isSome ∧ Below w.heap.size w w'
theorem next_any {w : World} {pv : Value} {p : Pg} (h : PgV w pv p) (fn pc : Int) (sa : Option Addr) (SL sc : Nat) : Calls Try.prog 52 #[pv, .agg #[.int .i64 fn, .int .i64 pc, .slice sa SL sc]] w (NxP w (insF p fn pc)) := by
  by_cases hf : 0 ≤ fn ∧ fn < p.funcs.length
  · obtain ⟨i, rfl⟩ : ∃ i : Nat, fn = i := ⟨fn.toNat, by omega⟩
    obtain ⟨f, hfi⟩ : ∃ f, p.funcs[i]? = some f := ⟨_, List.getElem?_eq_getElem (by omega)⟩
    by_cases hc : 0 ≤ pc ∧ pc < f.code.length
    · obtain ⟨j, rfl⟩ : ∃ j : Nat, pc = j := ⟨pc.toNat, by omega⟩
      obtain ⟨x, hx⟩ : ∃ x, f.code[j]? = some x := ⟨_, List.getElem?_eq_getElem (by omega)⟩
      have e : insF p i j = some x := by unfold insF; rw [if_pos hf, Int.toNat_natCast, hfi]; simp only [Option.bind_some]; rw [if_pos hc, Int.toNat_natCast, hx]
      rw [e]
      exact (next_yes h i j sa SL sc hfi hx).mono (fun _ _ q => ⟨x, true, q.1, rfl, rfl, q.2⟩)
    · have e : insF p i pc = none := by unfold insF; rw [if_pos hf, Int.toNat_natCast, hfi]; simp only [Option.bind_some]; rw [if_neg hc]
      rw [e]
      exact (next_past h i pc sa SL sc hfi hc).mono (fun _ _ q => ⟨(0, 0), false, q.1, rfl, rfl, q.2⟩)
  · have e : insF p fn pc = none := by unfold insF; rw [if_neg hf]
    rw [e]
    exact (next_out h fn pc sa SL sc hf).mono (fun _ _ q => ⟨(0, 0), false, q.1, rfl, rfl, q.2⟩)
/-- Full, empty: a channel, if it is one. -/
def fulB (r : Option Ob) : Bool := r.isSome && !(r.getD ⟨0, [], [], 0, 0, false⟩).shut && decide ((r.getD ⟨0, [], [], 0, 0, false⟩).cap ≤ ((r.getD ⟨0, [], [], 0, 0, false⟩).its.length : Int))
def empB (r : Option Ob) : Bool := r.isSome && !(r.getD ⟨0, [], [], 0, 0, false⟩).shut && decide ((r.getD ⟨0, [], [], 0, 0, false⟩).its.length = 0)
/-- Does a fiber that stands in this frame wait? -/
def wtB (p : Pg) (s : St) (f : Fm) : Bool :=
  if ((insF p f.fn f.pc).getD (0, 0)).1 = 63 then fulB (chF s.objs f.sl 1) else if ((insF p f.fn f.pc).getD (0, 0)).1 = 64 then empB (chF s.objs f.sl 0) else false
set_option maxRecDepth 100000 in
set_option maxHeartbeats 6400000 in
theorem blocked_yes {w : World} {pv v : Value} {p : Pg} {s : St} (hp : PgV w pv p) (h : StV w v s) (i : Nat) {fs : List Fm} {f : Fm} (hi : s.fibs[i]? = some fs) (n : Nat) (hn : fs.length = n + 1) (hf : fs[n]? = some f) (hN : n < 1048576) (hM : f.sl.length ≤ 1048576) :
    Calls Try.prog 18 #[pv, v, .int .i64 i] w fun e w' => e = .returned (.bool (wtB p s f)) ∧ Below w.heap.size w w' := by
  have HR := hide (fun O1 O2 => running_yes (h.below (bl_two w O1 O2) (Nat.le_refl _)) i hi n hn hf hN)
  have HX := hide (fun (w' : World) (hb : Below w.heap.size w w') (sa : Option Addr) (SL sc : Nat) => next_any (hp.below hb (Nat.le_refl _)) f.fn f.pc sa SL sc)
  have HCh := hide (fun (w' : World) (hb : Below w.heap.size w w') (lv : Value) (hl : Rx w' 2 lv f.sl.length (flt enI f.sl)) (up : Nat) (hup : up ≤ 1) => channel_any (h.below hb (Nat.le_refl _)) hl up hup hM)
  obtain ⟨ta, tc, oa, oc, ba, bc, rfl, -, -, -, t1, t2, o1, o2, b1, b2⟩ := h.shape
  unfold maxLen at t2 o2 b2
  obtain ⟨ca, cc, pa, pc, rfl, hr, f1, f2⟩ := hp.shape
  unfold maxLen at f2
  obtain ⟨NT, hNT⟩ : ∃ n, Hid (s.texts.length = n) := ⟨_, hide rfl⟩
  obtain ⟨NO, hNO⟩ : ∃ n, Hid (s.objs.length = n) := ⟨_, hide rfl⟩
  obtain ⟨NB, hNB⟩ : ∃ n, Hid (s.fibs.length = n) := ⟨_, hide rfl⟩
  obtain ⟨NC, hNC⟩ : ∃ n, Hid (p.consts.length = n) := ⟨_, hide rfl⟩
  obtain ⟨NF, hNF⟩ : ∃ n, Hid (p.funcs.length = n) := ⟨_, hide rfl⟩
  rw [unhide hNT, unhide hNO, unhide hNB] at HR HCh ⊢
  rw [unhide hNC, unhide hNF] at HX ⊢
  obtain ⟨fn, qc, sl⟩ := f
  simp only at HR HX HCh hM ⊢
  obtain ⟨SL, hSL⟩ : ∃ n, Hid (sl.length = n) := ⟨_, hide rfl⟩
  obtain ⟨p1, p2⟩ := blk2 w (.cells #[.slice ca NC cc, .slice pa NF pc] 48) (.cells #[.slice ta NT tc, .slice oa NO oc, .slice ba NB bc, .int .i64 s.cur, .int .i64 s.steps, .int .i64 s.spent, .int .i64 s.read] 26)
  have HP1 := hide p1
  have HP2 := hide p2
  have HB0 := hide (bl_two w)
  obtain ⟨ix, hix⟩ : ∃ x, Hid ((insF p fn qc).getD (0, 0) = x) := ⟨_, hide rfl⟩
  obtain ⟨x1, x2⟩ := ix
  have hwt : Hid (wtB p s ⟨fn, qc, sl⟩ = if x1 = 63 then fulB (chF s.objs sl 1) else if x1 = 64 then empB (chF s.objs sl 0) else false) := by unfold wtB; rw [show (insF p fn qc).getD (0, 0) = (x1, x2) from unhide hix]; exact hide rfl
  rw [unhide hwt]
  clear h hp hr p1 p2 hi hn hf hN hwt
  by_cases e63 : x1 = 63
  · subst e63
    rw [if_pos rfl]
    go_enter Try.func18, Try.ntmps18
    go_wp2_with fail
    refine (unhide HR _ _).mono ?_
    rintro e w1 ⟨sa, sc, rfl, hx1, hsl, hsm, hb1⟩
    simp only at hx1 hsl
    have q1 := bkeep (unhide HP1) hb1
    have q2 := bkeep (unhide HP2) hb1
    have hbw1 := bl_past (unhide HB0 _ _) hb1
    have HQ1 := hide q1
    have HQ2 := hide q2
    have HX1 := hide hx1
    have HB1 := hide hbw1
    unfold maxLen at hsm
    rw [unhide hSL] at hsl
    rw [unhide hSL]
    obtain ⟨za, _⟩ := blk_cells q1
    have za0 := za 0
    have za1 := za 1
    simp at za0 za1
    have hlt1 : w.heap.size < w1.heap.size := (blk_cells q1).2.2
    have K2 := hide (fun O => unhide HX (w1.alloc O) (bl_past (unhide HB1) ((Below.refl _ w1).alloc (Nat.le_refl _) O)) sa SL sc)
    clear hx1 hb1 q1 q2 hbw1 za HR HX
    go_wp2_with fail
    refine (unhide K2 _).mono ?_
    rintro e w2 ⟨y, yb, rfl, hy, hyb, hb2⟩
    obtain ⟨y1, y2⟩ := y
    have hyx := hy.trans (unhide hix)
    simp only [Prod.mk.injEq] at hyx
    obtain ⟨rfl, rfl⟩ := hyx
    have q2 := bkeep (balloc (.cells #[.int .i64 fn, .int .i64 qc, .slice sa SL sc] 38) (unhide HQ2)) hb2
    have q3 := bkeep (heap_alloc_new w1 (.cells #[.int .i64 fn, .int .i64 qc, .slice sa SL sc] 38)) hb2
    have hbw2 := bl_past (bl_past (unhide HB1) ((Below.refl _ w1).alloc (Nat.le_refl _) (.cells #[.int .i64 fn, .int .i64 qc, .slice sa SL sc] 38))) hb2
    have HB2 := hide hbw2
    have HX2 := hide ((unhide HX1).below (B := w1.heap.size) (((Below.refl _ w1).alloc (Nat.le_refl _) (.cells #[.int .i64 fn, .int .i64 qc, .slice sa SL sc] 38)).trans (hb2.mono (by simp))) (Nat.le_refl _))
    obtain ⟨za, _, hl2⟩ := blk_cells q2
    obtain ⟨zc, _, hl3⟩ := blk_cells q3
    have s0 := za 0
    have s1 := za 1
    have s2 := za 2
    have s3 := za 3
    have s4 := za 4
    have s5 := za 5
    have s6 := za 6
    have c2 := zc 2
    simp at s0 s1 s2 s3 s4 s5 s6 c2
    clear hb2 q2 q3 hbw2 za zc K2 hy hyb hix za0 za1 HQ1 HQ2 HX1
    have K3 := hide (fun O => unhide HCh (w2.alloc O) (bl_past (unhide HB2) ((Below.refl _ w2).alloc (Nat.le_refl _) O)) (.slice sa SL sc) (by rw [unhide hSL] at HX2 ⊢; exact (unhide HX2).below ((Below.refl _ w2).alloc (Nat.le_refl _) O) (Nat.le_refl _)) 1 (by omega))
    obtain ⟨rr, hrr⟩ : ∃ r, Hid (chF s.objs sl 1 = r) := ⟨_, hide rfl⟩
    rw [unhide hrr] at K3
    clear HCh HX2
    go_wp2_with fail
    refine (unhide K3 _).mono ?_
    rintro e w3 ⟨o, ia, ic, ka, kc, rfl, ho, hb3⟩
    have HB3 := hide (bl_past (bl_past (unhide HB2) ((Below.refl _ w2).alloc (Nat.le_refl _) _)) hb3)
    have HV : Hid (fulB (chF s.objs sl 1) = (rr.isSome && !o.shut && decide (o.cap ≤ (o.its.length : Int)))) := by rw [unhide hrr]; unfold fulB; rw [ho]; exact hide rfl
    obtain ⟨okk, hok⟩ : ∃ b, Hid (rr.isSome = b) := ⟨_, hide rfl⟩
    rw [unhide hok] at HV ⊢
    obtain ⟨kd, its, ks, gn, cp, sh⟩ := o
    simp only at HV ⊢
    clear hb3 K3 ho s0 s1 s2 s3 s4 s5 s6 c2 hrr
    cases okk
    · go_wp2_with fail
      go_ret
      exact ⟨by rw [unhide HV]; rfl, (unhide HB3).alloc (unhide HB3).size _⟩
    · cases sh
      · by_cases hcp : cp ≤ (its.length : Int)
        · have g : decide (cp ≤ (its.length : Int)) = true := decide_eq_true hcp
          go_wp2_with fail
          go_ret
          exact ⟨by rw [unhide HV, g]; rfl, (unhide HB3).alloc (unhide HB3).size _⟩
        · have g : decide (cp ≤ (its.length : Int)) = false := decide_eq_false hcp
          go_wp2_with fail
          go_ret
          exact ⟨by rw [unhide HV, g]; rfl, (unhide HB3).alloc (unhide HB3).size _⟩
      · go_wp2_with fail
        go_ret
        exact ⟨by rw [unhide HV]; rfl, (unhide HB3).alloc (unhide HB3).size _⟩

  · rw [if_neg e63]
    have d63 : (x1 == 63) = false := by simpa using e63
    by_cases e64 : x1 = 64
    · subst e64
      rw [if_pos rfl]
      go_enter Try.func18, Try.ntmps18
      go_wp2_with fail
      refine (unhide HR _ _).mono ?_
      rintro e w1 ⟨sa, sc, rfl, hx1, hsl, hsm, hb1⟩
      simp only at hx1 hsl
      have q1 := bkeep (unhide HP1) hb1
      have q2 := bkeep (unhide HP2) hb1
      have hbw1 := bl_past (unhide HB0 _ _) hb1
      have HQ1 := hide q1
      have HQ2 := hide q2
      have HX1 := hide hx1
      have HB1 := hide hbw1
      unfold maxLen at hsm
      rw [unhide hSL] at hsl
      rw [unhide hSL]
      obtain ⟨za, _⟩ := blk_cells q1
      have za0 := za 0
      have za1 := za 1
      simp at za0 za1
      have hlt1 : w.heap.size < w1.heap.size := (blk_cells q1).2.2
      have K2 := hide (fun O => unhide HX (w1.alloc O) (bl_past (unhide HB1) ((Below.refl _ w1).alloc (Nat.le_refl _) O)) sa SL sc)
      clear hx1 hb1 q1 q2 hbw1 za HR HX
      go_wp2_with fail
      refine (unhide K2 _).mono ?_
      rintro e w2 ⟨y, yb, rfl, hy, hyb, hb2⟩
      obtain ⟨y1, y2⟩ := y
      have hyx := hy.trans (unhide hix)
      simp only [Prod.mk.injEq] at hyx
      obtain ⟨rfl, rfl⟩ := hyx
      have q2 := bkeep (balloc (.cells #[.int .i64 fn, .int .i64 qc, .slice sa SL sc] 38) (unhide HQ2)) hb2
      have q3 := bkeep (heap_alloc_new w1 (.cells #[.int .i64 fn, .int .i64 qc, .slice sa SL sc] 38)) hb2
      have hbw2 := bl_past (bl_past (unhide HB1) ((Below.refl _ w1).alloc (Nat.le_refl _) (.cells #[.int .i64 fn, .int .i64 qc, .slice sa SL sc] 38))) hb2
      have HB2 := hide hbw2
      have HX2 := hide ((unhide HX1).below (B := w1.heap.size) (((Below.refl _ w1).alloc (Nat.le_refl _) (.cells #[.int .i64 fn, .int .i64 qc, .slice sa SL sc] 38)).trans (hb2.mono (by simp))) (Nat.le_refl _))
      obtain ⟨za, _, hl2⟩ := blk_cells q2
      obtain ⟨zc, _, hl3⟩ := blk_cells q3
      have s0 := za 0
      have s1 := za 1
      have s2 := za 2
      have s3 := za 3
      have s4 := za 4
      have s5 := za 5
      have s6 := za 6
      have c2 := zc 2
      simp at s0 s1 s2 s3 s4 s5 s6 c2
      clear hb2 q2 q3 hbw2 za zc K2 hy hyb hix za0 za1 HQ1 HQ2 HX1
      have K3 := hide (fun O => unhide HCh (w2.alloc O) (bl_past (unhide HB2) ((Below.refl _ w2).alloc (Nat.le_refl _) O)) (.slice sa SL sc) (by rw [unhide hSL] at HX2 ⊢; exact (unhide HX2).below ((Below.refl _ w2).alloc (Nat.le_refl _) O) (Nat.le_refl _)) 0 (by omega))
      obtain ⟨rr, hrr⟩ : ∃ r, Hid (chF s.objs sl 0 = r) := ⟨_, hide rfl⟩
      rw [unhide hrr] at K3
      clear HCh HX2
      go_wp2_with fail
      refine (unhide K3 _).mono ?_
      rintro e w3 ⟨o, ia, ic, ka, kc, rfl, ho, hb3⟩
      have HB3 := hide (bl_past (bl_past (unhide HB2) ((Below.refl _ w2).alloc (Nat.le_refl _) _)) hb3)
      have HV : Hid (empB (chF s.objs sl 0) = (rr.isSome && !o.shut && decide (o.its.length = 0))) := by rw [unhide hrr]; unfold empB; rw [ho]; exact hide rfl
      obtain ⟨okk, hok⟩ : ∃ b, Hid (rr.isSome = b) := ⟨_, hide rfl⟩
      rw [unhide hok] at HV ⊢
      obtain ⟨kd, its, ks, gn, cp, sh⟩ := o
      simp only at HV ⊢
      clear hb3 K3 ho s0 s1 s2 s3 s4 s5 s6 c2 hrr
      obtain ⟨IL, hIL⟩ : ∃ n, Hid (its.length = n) := ⟨_, hide rfl⟩
      rw [unhide hIL] at HV ⊢
      cases okk
      · go_wp2_with fail
        go_ret
        exact ⟨by rw [unhide HV]; rfl, (unhide HB3).alloc (unhide HB3).size _⟩
      · cases sh
        · by_cases hcp : IL = 0
          · subst hcp
            go_wp2_with fail
            go_ret
            exact ⟨by rw [unhide HV]; rfl, (unhide HB3).alloc (unhide HB3).size _⟩
          · have g : decide (IL = 0) = false := decide_eq_false hcp
            have g2 : ((IL : Int) == 0) = false := by simp; omega
            go_wp2_with fail
            go_ret
            exact ⟨by rw [unhide HV, g]; rfl, (unhide HB3).alloc (unhide HB3).size _⟩
        · go_wp2_with fail
          go_ret
          exact ⟨by rw [unhide HV]; rfl, (unhide HB3).alloc (unhide HB3).size _⟩

    · rw [if_neg e64]
      have d64 : (x1 == 64) = false := by simpa using e64
      clear e63 e64
      go_enter Try.func18, Try.ntmps18
      go_wp2_with fail
      refine (unhide HR _ _).mono ?_
      rintro e w1 ⟨sa, sc, rfl, hx1, hsl, hsm, hb1⟩
      simp only at hx1 hsl
      have q1 := bkeep (unhide HP1) hb1
      have q2 := bkeep (unhide HP2) hb1
      have hbw1 := bl_past (unhide HB0 _ _) hb1
      have HQ1 := hide q1
      have HQ2 := hide q2
      have HX1 := hide hx1
      have HB1 := hide hbw1
      unfold maxLen at hsm
      rw [unhide hSL] at hsl
      rw [unhide hSL]
      obtain ⟨za, _⟩ := blk_cells q1
      have za0 := za 0
      have za1 := za 1
      simp at za0 za1
      have hlt1 : w.heap.size < w1.heap.size := (blk_cells q1).2.2
      have K2 := hide (fun O => unhide HX (w1.alloc O) (bl_past (unhide HB1) ((Below.refl _ w1).alloc (Nat.le_refl _) O)) sa SL sc)
      clear hx1 hb1 q1 q2 hbw1 za HR HX
      go_wp2_with fail
      refine (unhide K2 _).mono ?_
      rintro e w2 ⟨y, yb, rfl, hy, hyb, hb2⟩
      obtain ⟨y1, y2⟩ := y
      have hyx := hy.trans (unhide hix)
      simp only [Prod.mk.injEq] at hyx
      obtain ⟨rfl, rfl⟩ := hyx
      have q2 := bkeep (balloc (.cells #[.int .i64 fn, .int .i64 qc, .slice sa SL sc] 38) (unhide HQ2)) hb2
      have q3 := bkeep (heap_alloc_new w1 (.cells #[.int .i64 fn, .int .i64 qc, .slice sa SL sc] 38)) hb2
      have hbw2 := bl_past (bl_past (unhide HB1) ((Below.refl _ w1).alloc (Nat.le_refl _) (.cells #[.int .i64 fn, .int .i64 qc, .slice sa SL sc] 38))) hb2
      have HB2 := hide hbw2
      have HX2 := hide ((unhide HX1).below (B := w1.heap.size) (((Below.refl _ w1).alloc (Nat.le_refl _) (.cells #[.int .i64 fn, .int .i64 qc, .slice sa SL sc] 38)).trans (hb2.mono (by simp))) (Nat.le_refl _))
      obtain ⟨za, _, hl2⟩ := blk_cells q2
      obtain ⟨zc, _, hl3⟩ := blk_cells q3
      have s0 := za 0
      have s1 := za 1
      have s2 := za 2
      have s3 := za 3
      have s4 := za 4
      have s5 := za 5
      have s6 := za 6
      have c2 := zc 2
      simp at s0 s1 s2 s3 s4 s5 s6 c2
      clear hb2 q2 q3 hbw2 za zc K2 hy hyb hix za0 za1 HQ1 HQ2 HX1

      go_wp2_with fail
      go_ret
      exact ⟨rfl, (unhide HB2).alloc (unhide HB2).size _⟩
set_option maxRecDepth 100000 in
set_option maxHeartbeats 6400000 in
theorem blocked_no {w : World} {pv v : Value} {p : Pg} {s : St} (hp : PgV w pv p) (h : StV w v s) (k : Int) (b : Bool) (hb : b = decide (0 ≤ k ∧ k < (s.fibs.length : Int))) (hR : ∀ w', Below w.heap.size w w' → Calls Try.prog 47 #[v, .int .i64 k] w' (RnN w')) :
    Calls Try.prog 18 #[pv, v, .int .i64 k] w fun e w' => e = .returned (.bool b) ∧ Below w.heap.size w w' := by
  have HR := hide (fun O1 O2 => hR _ (bl_two w O1 O2))
  obtain ⟨ta, tc, oa, oc, ba, bc, rfl, -, -, -, t1, t2, o1, o2, b1, b2⟩ := h.shape
  unfold maxLen at t2 o2 b2
  obtain ⟨ca, cc, pa, pc, rfl, hr, f1, f2⟩ := hp.shape
  unfold maxLen at f2
  obtain ⟨NT, hNT⟩ : ∃ n, Hid (s.texts.length = n) := ⟨_, hide rfl⟩
  obtain ⟨NO, hNO⟩ : ∃ n, Hid (s.objs.length = n) := ⟨_, hide rfl⟩
  obtain ⟨NB, hNB⟩ : ∃ n, Hid (s.fibs.length = n) := ⟨_, hide rfl⟩
  obtain ⟨NC, hNC⟩ : ∃ n, Hid (p.consts.length = n) := ⟨_, hide rfl⟩
  obtain ⟨NF, hNF⟩ : ∃ n, Hid (p.funcs.length = n) := ⟨_, hide rfl⟩
  rw [unhide hNT, unhide hNO, unhide hNB] at HR ⊢
  rw [unhide hNC, unhide hNF]
  rw [unhide hNB] at hb
  have HW := hide (fun w => within_any w k NB)
  rw [← hb] at HW
  obtain ⟨p1, p2⟩ := blk2 w (.cells #[.slice ca NC cc, .slice pa NF pc] 48) (.cells #[.slice ta NT tc, .slice oa NO oc, .slice ba NB bc, .int .i64 s.cur, .int .i64 s.steps, .int .i64 s.spent, .int .i64 s.read] 26)
  have HP2 := hide p2
  have HB0 := hide (bl_two w)
  clear h hp hr p1 p2 hR hb
  go_enter Try.func18, Try.ntmps18
  go_wp2_with fail
  refine (unhide HR _ _).mono ?_
  rintro e w1 ⟨rfl, hb1⟩
  obtain ⟨za, _, hl1⟩ := blk_cells (bkeep (unhide HP2) hb1)
  have z2 := za 2
  simp at z2
  have HB1 := hide (bl_past (unhide HB0 _ _) hb1)
  clear hb1 za HR
  go_wp2_with fail
  refine (unhide HW _).mono ?_
  rintro e w2 ⟨rfl, rfl⟩
  go_wp2_with fail
  go_ret
  exact ⟨rfl, (unhide HB1).alloc (unhide HB1).size _⟩
/-- Does a fiber wait, or has it ended? -/
def blkB (p : Pg) (s : St) (k : Int) : Bool :=
  if 0 ≤ k ∧ k < (s.fibs.length : Int) then (match (s.fibs[k.toNat]?).bind (fun fs => fs.getLast?) with | none => true | some f => wtB p s f) else false
theorem blocked_any {w : World} {pv v : Value} {p : Pg} {s : St} (hp : PgV w pv p) (h : StV w v s) (hs : StB s) (k : Int) :
    Calls Try.prog 18 #[pv, v, .int .i64 k] w fun e w' => e = .returned (.bool (blkB p s k)) ∧ Below w.heap.size w w' := by
  by_cases hk : 0 ≤ k ∧ k < (s.fibs.length : Int)
  · obtain ⟨i, rfl⟩ : ∃ i : Nat, k = i := ⟨k.toNat, by omega⟩
    obtain ⟨fs, hi⟩ : ∃ fs, s.fibs[i]? = some fs := ⟨_, List.getElem?_eq_getElem (by omega)⟩
    obtain ⟨b1, b2⟩ := hs.bs fs (List.mem_of_getElem? hi)
    rcases List.eq_nil_or_concat fs with rfl | ⟨l, f, rfl⟩
    · have e : blkB p s i = true := by unfold blkB; rw [if_pos hk, Int.toNat_natCast, hi]; rfl
      rw [e]
      exact blocked_no hp h i true (by rw [decide_eq_true hk]) (fun w' hb => running_end (h.below hb (Nat.le_refl _)) i hi)
    · have e : blkB p s i = wtB p s f := by unfold blkB; rw [if_pos hk, Int.toNat_natCast, hi]; simp
      rw [e]
      simp only [List.concat_eq_append, List.length_append, List.length_singleton] at b1
      exact blocked_yes hp h i hi l.length (by simp) (by simp) (by omega) (b2 f (by simp))
  · have e : blkB p s k = false := by unfold blkB; rw [if_neg hk]
    rw [e]
    exact blocked_no hp h k false (by rw [decide_eq_false hk]) (fun w' hb => running_out (h.below hb (Nat.le_refl _)) k hk)
end Go.Proofs.Ytadgiccfjppnfaa
