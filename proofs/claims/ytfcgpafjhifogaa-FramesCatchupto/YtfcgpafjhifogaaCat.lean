/-
  Catch.
-/
import Derived.Test.YtfcgpafjhifogaaRes
import Derived.Test.YtfcgpafjhifogaaRng3
import Derived.Test.YtfcgpafjhifogaaRound
namespace Go.Proofs.Ytfcgpafjhifogaa
open Go.RowKit Go.Shelf
set_option linter.unusedVariables false
set_option linter.unusedSimpArgs false
attribute [local go_sem] Oper.semAt_some
/-- The frames that are left when a value was thrown in the one below n. -/
def ctN (p : Pg) (fs : List Fm) (x : Int × Int) : Nat → Option (List Fm)
  | 0 => none
  | n + 1 => match fs[n]? with
    | none => none
    | some f => match tk p f with
      | some (k, t) => some (fs.take n ++ [⟨f.fn, t, f.sl.take k ++ [x]⟩])
      | none => ctN p fs x n
def ct (p : Pg) (fs : List Fm) (x : Int × Int) : Option (List Fm) := ctN p fs x fs.length
theorem ctN_none {p : Pg} {fs : List Fm} {x : Int × Int} {n : Nat} {f : Fm} (hf : fs[n]? = some f) (h : tk p f = none) : ctN p fs x (n + 1) = ctN p fs x n := by
  rw [ctN, hf]; simp only [h]
theorem ctN_some {p : Pg} {fs : List Fm} {x : Int × Int} {n k : Nat} {t : Int} {f : Fm} (hf : fs[n]? = some f) (h : tk p f = some (k, t)) : ctN p fs x (n + 1) = some (fs.take n ++ [⟨f.fn, t, f.sl.take k ++ [x]⟩]) := by
  rw [ctN, hf]; simp only [h]
/-- What is handed over: the frames from the last one on. -/
def encB (xs : List Fmv) (N k : Nat) : Array Value := #[.int .i64 ((N - 1 - k : Nat) : Int), .agg #[.int .i64 (xs.getD (N - 1 - k) fv0).fn, .int .i64 (xs.getD (N - 1 - k) fv0).pc, (xs.getD (N - 1 - k) fv0).sv]]
/-- The box holds the list. -/
def Vb (Bl : Nat) (lv : Value) (xs : List Fmv) (_ : Nat) (X : World) : Prop := X.cell? ⟨Bl, 0, none⟩ = some lv ∧ Rx X 3 lv xs.length (flt enM xs)
set_option maxRecDepth 100000 in
set_option maxHeartbeats 1600000 in
theorem back1_hands (n : Nat) (Bl : Nat) (lv : Value) (xs : List Fmv) (hXN : xs.length ≤ 1048576) : Hands Fence.wide n Try.prog 63 #[.pointer (some ⟨Bl, 0, none⟩)] (encB xs xs.length) (fun k => k < xs.length) (fun k => k = xs.length) (Vb Bl lv xs) := by
  intro lp J Jx W hV hB hBx hY h0
  have HY := hide hY
  have HV := hide hV
  clear hV hB hBx hY
  obtain ⟨c0, r0⟩ := unhide HV 0 W h0
  obtain ⟨a, cap, rfl, hlc, hcm⟩ : ∃ a cap, lv = .slice a xs.length cap ∧ xs.length ≤ cap ∧ cap ≤ maxLen := by obtain ⟨_, a, c, e, h1, h2, _⟩ := r0; exact ⟨a, c, e, h1, h2⟩
  obtain ⟨N, hN⟩ : ∃ N, Hid (xs.length = N) := ⟨_, hide rfl⟩
  unfold maxLen at hcm
  rw [unhide hN] at c0 HV HY hXN hlc ⊢
  have hw1 : IntKind.i64.wrap ((N : Int) - 1) = (N : Int) - 1 := by go_arith
  have H0 := hide h0
  clear r0 h0
  refine callsIn_of_wp Try.func63 rfl trivial ?_ rfl
  simp only [Try.ntmps63, List.size_toArray, List.length_cons, List.length_nil, Nat.reduceAdd, Nat.reduceSub, Array.replicate_succ, Array.replicate_zero, List.push_toArray, List.append_toArray, List.nil_append, List.cons_append]
  gi_wp2_with fail
  gi_loopw [3] (fun i wr => ∃ k : Nat, Hid (k ≤ N) ∧ i = .int .i64 ((N : Int) - 1 - (k : Int)) ∧ Hid (J k wr)) (fun i _ => (intOf i + 1).toNat)
  case atStart => exact ⟨0, Nat.zero_le _, by simp, H0⟩
  case round =>
    obtain ⟨k, hk, rfl, HJ⟩ := hrel
    clear c0 H0
    by_cases hlt : k < N
    · obtain ⟨c1, r1⟩ := unhide HV k wr (unhide HJ)
      obtain ⟨M, hM⟩ : ∃ M, Hid (N - 1 - k = M) := ⟨_, hide rfl⟩
      have hM' := unhide hM
      have eM : (N : Int) - 1 - (k : Int) = (M : Int) := by omega
      obtain ⟨x, hx⟩ : ∃ x, xs[M]? = some x := ⟨_, List.getElem?_eq_getElem (by rw [unhide hN]; omega)⟩
      obtain ⟨b, off, c', e, _, _, hb, hcs⟩ := Rx.elem zM r1 hx
      rw [unhide hN] at e
      cases e
      have q0 : wr.cell? ⟨b, off + M * 3, none⟩ = some (.int .i64 x.fn) := hcs 0 _ rfl
      have q1 : wr.cell? ⟨b, off + M * 3 + 1, none⟩ = some (.int .i64 x.pc) := hcs 1 _ rfl
      have q2 : wr.cell? ⟨b, off + M * 3 + 2, none⟩ = some x.sv := hcs 2 _ rfl
      obtain ⟨fn, tmps, assign, body, hy, hR⟩ := unhide HY k wr (unhide HJ) hlt
      unfold encB at hy
      rw [List.getD_eq_getElem?_getD, hM', hx, Option.getD_some] at hy
      have i0 : (0 : Int) ≤ (M : Int) := by omega
      have i1 : (M : Int) < (N : Int) := by omega
      have hw2 : IntKind.i64.wrap ((M : Int) - 1) = (M : Int) - 1 := by go_arith
      have HR := hide hR
      rw [eM]
      clear r1 hx hR hcs
      gi_wp2_with fail
      refine ⟨(fun q => by cases q), (unhide HR).mono ?_⟩
      rintro e W3 (⟨rfl, hJ3⟩ | ⟨rfl, hJx3⟩)
      · have HJ3 := hide hJ3
        clear hJ3 HR hy q0 q1 q2 c1
        gi_wp2_with fail
        go_roundw
        case rel => exact ⟨k + 1, hlt, by rw [show ((N : Int) - 1 - ((k + 1 : Nat) : Int)) = (M : Int) - 1 by omega], HJ3⟩
        case measure => simp [intOf] <;> omega
      · have HJ3 := hide hJx3
        clear hJx3 HR hy q0 q1 q2 c1
        gi_wp2_with fail
        refine bodyPost_ret (results_none rfl _ _ _) rfl ?_
        exact ⟨⟨_, rfl⟩, .inr ⟨k + 1, unhide HJ3⟩⟩
    · have hkN : k = N := by have := unhide hk; omega
      have i0 : ¬ ((0 : Int) ≤ (N : Int) - 1 - (k : Int)) := by omega
      gi_wp2_with fail
      go_end0
      exact ⟨⟨_, rfl⟩, .inl (by have := unhide HJ; rw [hkN] at this; exact this)⟩
theorem back_any (w : World) (a : Option Addr) (n c : Nat) : Calls Try.prog 53 #[.slice a n c] w fun e w' => e = .returned (.func (.func 63) #[] #[.pointer (some ⟨w.heap.size, 0, none⟩)]) ∧ w' = w.alloc (.cells #[.slice a n c] 39) := by
  go_enter Try.func53, Try.ntmps53
  go_wp2
  go_ret
  exact ⟨rfl, rfl⟩
/-- Catch's state behind k rounds. -/
structure CI (w : World) (p : Pg) (fs : List Fm) (pa pb lv : Value) (x : Int × Int) (k : Nat) (X : World) : Prop where
  bel : Below w.heap.size w X
  bp : X.heap[w.heap.size]? = some (.cells #[pa, pb] 25)
  bl : X.heap[w.heap.size + 1]? = some (.cells #[lv] 39)
  bv : X.heap[w.heap.size + 2]? = some (.cells #[.int .i64 x.1, .int .i64 x.2] 41)
  b6 : X.heap[w.heap.size + 3]? = some (.cells #[.slice none 0 0] 39)
  b7 : X.heap[w.heap.size + 4]? = some (.cells #[.bool false] 4)
  bb : X.heap[w.heap.size + 5]? = some (.cells #[lv] 39)
  kl : k ≤ fs.length
  no : ct p fs x = ctN p fs x (fs.length - k)
theorem CI.keep {w : World} {p : Pg} {fs : List Fm} {pa pb lv : Value} {x : Int × Int} {k : Nat} {X Y : World} {S : Nat → Prop} (h : CI w p fs pa pb lv x k X) (f : Fr S X Y) (hS : ∀ b, b < w.heap.size + 6 → ¬ S b) : CI w p fs pa pb lv x k Y := by
  have hk : ∀ b o, b < w.heap.size + 6 → X.heap[b]? = some o → Y.heap[b]? = some o := fun b o hb ho => (f.block b (Array.getElem?_eq_some_iff.1 ho).1 (hS b hb)).trans ho
  exact ⟨h.bel.trans (f.below h.bel.size (fun b hb => hS b (by omega))), hk _ _ (by omega) h.bp, hk _ _ (by omega) h.bl, hk _ _ (by omega) h.bv, hk _ _ (by omega) h.b6, hk _ _ (by omega) h.b7, hk _ _ (by omega) h.bb, h.kl, h.no⟩
/-- It was taken. -/
structure CX (w : World) (o : Option (List Fm)) (c : Code) (k : Nat) (X : World) : Prop where
  isret : c = .ret
  bel : Below w.heap.size w X
  res : ∃ v' gs ys, o = some gs ∧ X.heap[w.heap.size + 3]? = some (.cells #[v'] 39) ∧ X.heap[w.heap.size + 4]? = some (.cells #[.bool true] 4) ∧ OF (w.heap.size + 8) X v' gs ys
theorem CX.keep {w : World} {o : Option (List Fm)} {c : Code} {k : Nat} {X Y : World} {S : Nat → Prop} (h : CX w o c k X) (f : Fr S X Y) (hS : ∀ b, S b → b = w.heap.size + 6 ∨ b = w.heap.size + 7) : CX w o c k Y := by
  obtain ⟨h1, h2, v', gs, ys, h3, h4, h5, h6⟩ := h
  have hk : ∀ b o, b < w.heap.size + 6 → X.heap[b]? = some o → Y.heap[b]? = some o := fun b o hb ho => (f.block b (Array.getElem?_eq_some_iff.1 ho).1 (fun e => by have := hS b e; omega)).trans ho
  exact ⟨h1, h2.trans (f.below h2.size (fun b hb e => by have := hS b e; omega)), v', gs, ys, h3, hk _ _ (by omega) h4, hk _ _ (by omega) h5, h6.fr f (fun b hb _ e => by have := hS b e; omega)⟩
theorem OF.low {B B' : Nat} {w : World} {v : Value} {fs : List Fm} {xs : List Fmv} (h : OF B w v fs xs) (hB : B' ≤ B) : OF B' w v fs xs :=
  ⟨h.len, h.row, fun k hk => Nat.le_trans hB (h.rb k hk), h.el, fun i x k hx hk => ⟨Nat.le_trans hB (h.eb i x k hx hk).1, (h.eb i x k hx hk).2⟩, h.ap⟩
/-- What Catch and Return answer. -/
def ClP (w : World) (o : Option (List Fm)) (e : Ending) (w' : World) : Prop := ∃ v' xs, e = .returned (.tuple #[v', .bool o.isSome]) ∧ OF w.heap.size w' v' (o.getD []) xs ∧ Below w.heap.size w w'
theorem blk6 (w : World) (o1 o2 o3 o4 o5 o6 : Obj) : let W := (((((w.alloc o1).alloc o2).alloc o3).alloc o4).alloc o5).alloc o6
    W.heap[w.heap.size]? = some o1 ∧ W.heap[w.heap.size + 1]? = some o2 ∧ W.heap[w.heap.size + 2]? = some o3 ∧ W.heap[w.heap.size + 3]? = some o4 ∧ W.heap[w.heap.size + 4]? = some o5 ∧ W.heap[w.heap.size + 5]? = some o6 ∧ W.heap.size = w.heap.size + 6 ∧ Below w.heap.size w W := by
  intro W
  have hz : W.heap.size = w.heap.size + 6 := by simp [W]
  have hb : Below w.heap.size w W := (((((Below.refl _ _).alloc (Nat.le_refl _) _).alloc (by simp) _).alloc (by simp; omega) _).alloc (by simp; omega) _).alloc (by simp; omega) _ |>.alloc (by simp; omega) _
  have keep : ∀ (V : World) (o : Obj) (b : Nat) (y : Obj), V.heap[b]? = some y → (V.alloc o).heap[b]? = some y := fun V o b y h => (Below.heap_alloc V o b (Array.getElem?_eq_some_iff.1 h).1).trans h
  have new : ∀ (V : World) (o : Obj) (b : Nat), V.heap.size = b → (V.alloc o).heap[b]? = some o := fun V o b h => by rw [← h]; exact heap_alloc_new V o
  exact ⟨keep _ _ _ _ (keep _ _ _ _ (keep _ _ _ _ (keep _ _ _ _ (keep _ _ _ _ (new _ _ _ rfl))))), keep _ _ _ _ (keep _ _ _ _ (keep _ _ _ _ (keep _ _ _ _ (new _ _ _ (by simp))))), keep _ _ _ _ (keep _ _ _ _ (keep _ _ _ _ (new _ _ _ (by simp)))), keep _ _ _ _ (keep _ _ _ _ (new _ _ _ (by simp))), keep _ _ _ _ (new _ _ _ (by simp)), new _ _ _ (by simp), hz, hb⟩
set_option maxRecDepth 100000 in
set_option maxHeartbeats 6400000 in
theorem catch_any {w : World} {pv lv : Value} {p : Pg} {fs : List Fm} (x : Int × Int) (h : PgV w pv p) (hl : FsV w lv fs) (hN : p.funcs.length ≤ 1048576) (hO : ∀ k g, fnAt p k = some g → g.hs.length ≤ 1048576 ∧ g.locals < 9223372036854775808) (hL : fs.length ≤ 1048576) (hS : ∀ f ∈ fs, f.sl.length ≤ 1048576) :
    Calls Try.prog 19 #[pv, lv, .agg #[.int .i64 x.1, .int .i64 x.2]] w (ClP w (ct p fs x)) := by
  obtain ⟨n, hn⟩ : ∃ n : Nat, 4 ≤ n := ⟨4, Nat.le_refl _⟩
  refine (callsIn_wide (n := n)).1 ?_
  obtain ⟨pa, pb, rfl⟩ : ∃ a b, pv = .agg #[a, b] := by obtain ⟨a, b, e, _⟩ := h; exact ⟨a, b, e⟩
  obtain ⟨a, cap, rfl, hlc, hcm⟩ := hl.shape
  have HP := hide h
  have HL := hide hl
  obtain ⟨xs, hxl, hxr, hxe⟩ := hl
  obtain ⟨o, ho⟩ : ∃ o, Hid (ct p fs x = o) := ⟨_, hide rfl⟩
  obtain ⟨N, hNN⟩ : ∃ N, Hid (fs.length = N) := ⟨_, hide rfl⟩
  have hxN : xs.length = N := by rw [hxl, unhide hNN]
  rw [unhide ho]
  rw [unhide hNN] at hL hlc HL hxr ⊢
  have HXR : Hid (Rx w 3 (.slice a N cap) N (flt enM xs)) := by rw [hxN] at hxr; exact hxr
  have HXE := hide hxe
  have HXN := hide hxN
  have HO := hide hO
  have HS := hide hS
  clear h hxr hxe hO hS hxN hxl
  refine callsIn_of_wp_marks Try.func19 rfl trivial ?_ rfl
  simp only [Try.ntmps19, List.size_toArray, List.length_cons, List.length_nil, Nat.reduceAdd, Nat.reduceSub, Array.replicate_succ, Array.replicate_zero, List.push_toArray, List.append_toArray, List.nil_append, List.cons_append]
  gi_wp2_with fail
  refine ⟨trivial, (fun q => by cases q), (callsIn_wide.2 (back_any _ _ _ _)).mono ?_⟩
  rintro e w1 ⟨rfl, ew⟩
  rw [ew]
  clear ew w1
  gi_wp2_with fail
  obtain ⟨W0, eW⟩ : ∃ W0, Hid (((((((w.alloc (Obj.cells #[pa, pb] 25)).alloc (Obj.cells #[Value.slice a N cap] 39)).alloc (Obj.cells #[Value.int IntKind.i64 x.fst, Value.int IntKind.i64 x.snd] 41)).alloc (Obj.cells #[Value.slice none 0 0] 39)).alloc (Obj.cells #[Value.bool false] 4)).alloc (Obj.cells #[Value.slice a N cap] 39)) = W0) := ⟨_, hide rfl⟩
  obtain ⟨q1, q2, q3, q4, q5, q6, q7, q8⟩ := blk6 w (Obj.cells #[pa, pb] 25) (Obj.cells #[Value.slice a N cap] 39) (Obj.cells #[Value.int IntKind.i64 x.fst, Value.int IntKind.i64 x.snd] 41) (Obj.cells #[Value.slice none 0 0] 39) (Obj.cells #[Value.bool false] 4) (Obj.cells #[Value.slice a N cap] 39)
  rw [unhide eW] at q1 q2 q3 q4 q5 q6 q7 q8
  have hG : CI w p fs pa pb (.slice a N cap) x 0 W0 := ⟨q8, q1, q2, q3, q4, q5, q6, Nat.zero_le _, by rw [Nat.sub_zero]; rfl⟩
  have hs0 : W0.heap.size = w.heap.size + 6 := q7
  rw [unhide eW]
  clear eW q1 q2 q3 q4 q5 q6 q7 q8
  have hseq := back1_hands (n - 1) (w.heap.size + 5) (.slice a N cap) xs (by rw [unhide HXN]; exact hL)
  refine wpIn_hands3 rfl (by omega) (gf := 63) (lb := #[.pointer (some ⟨w.heap.size + 5, 0, none⟩)]) rfl trivial (enters_of Try.func63 (by kernel_rfl) rfl) hseq (fun _ => rfl)
    (CI w p fs pa pb (.slice a N cap) x) (CX w o) (fun k X q => ⟨(blk_cells q.bb).1 0, by rw [unhide HXN]; exact (unhide HXR).below q.bel (Nat.le_refl _)⟩)
    (fun k X Y q f => q.keep f (fun b hb e => by unfold two2 at e; omega)) (fun c k X Y q f => q.keep f (fun b e => by unfold two2 at e; omega)) hG ?round ?done ?stop
  case round =>
    rintro l k X hG hk hXl
    have hkN : k < N := by rw [unhide HXN] at hk; exact hk
    obtain ⟨M, hM⟩ : ∃ M, Hid (N - 1 - k = M) := ⟨_, hide rfl⟩
    have hM' := unhide hM
    have hMx : M < xs.length := by rw [unhide HXN]; omega
    obtain ⟨y, hy⟩ : ∃ y, xs[M]? = some y := ⟨_, List.getElem?_eq_getElem hMx⟩
    obtain ⟨f, hf⟩ : ∃ f, fs[M]? = some f := ⟨_, List.getElem?_eq_getElem (by rw [unhide hNN]; omega)⟩
    obtain ⟨sa, sc, rfl, hsl, hsm⟩ := (unhide HXE M f y hf hy).parts
    have hfv := unhide HXE M f _ hf hy
    simp only [encB, unhide HXN, List.getD_eq_getElem?_getD, hM', hy, Option.getD_some]
    have HG := hide hG
    have HF := hide hf
    have HFV : Hid (Rx w 2 (.slice sa f.sl.length sc) f.sl.length (flt enI f.sl)) := hfv.2.2
    unfold maxLen at hsm
    clear hG hf hy hfv hk
    gi_wp2_with fail
    obtain ⟨X1, hX1⟩ : ∃ X1, Hid (X.alloc (Obj.cells #[Value.int IntKind.i64 f.fn, Value.int IntKind.i64 f.pc, Value.slice sa f.sl.length sc] 30) = X1) := ⟨_, hide rfl⟩
    obtain ⟨q, hq⟩ : ∃ q, Hid (X.heap.size = q) := ⟨_, hide rfl⟩
    have hqX : w.heap.size + 8 ≤ q := by have := unhide hq; omega
    have HX1 : Hid (Fr (fun _ => False) X X1 ∧ X1.heap[q]? = some (Obj.cells #[Value.int IntKind.i64 f.fn, Value.int IntKind.i64 f.pc, Value.slice sa f.sl.length sc] 30)) := by
      rw [← unhide hX1, ← unhide hq]
      exact ⟨(Fr.refl _ _).alloc _, heap_alloc_new X _⟩
    rw [unhide hX1, unhide hq]
    refine ⟨⟨(unhide HX1).1.block _ (by omega) (fun e => e), (unhide HX1).1.block _ (by omega) (fun e => e)⟩, fun Y hXY hYs => ?_⟩
    have hFY : Fr (two2 W0.heap.size) X Y := ((unhide HX1).1.mono (fun _ _ e => e.elim)).trans hXY
    have hG := (unhide HG).keep hFY (fun b hb e => by unfold two2 at e; omega)
    have hBQ : Y.heap[q]? = some (Obj.cells #[Value.int IntKind.i64 f.fn, Value.int IntKind.i64 f.pc, Value.slice sa f.sl.length sc] 30) := (hXY.block q (Array.getElem?_eq_some_iff.1 (unhide HX1).2).1 (by unfold two2; omega)).trans (unhide HX1).2
    obtain ⟨cq, _, lq⟩ := blk_cells hBQ
    obtain ⟨cp, _, lp⟩ := blk_cells hG.bp
    have d0 := cp 0
    have d1 := cp 1
    have e0 := cq 0
    have e1 := cq 1
    have e2 := cq 2
    have hfs := unhide HS f (List.mem_of_getElem? (unhide HF))
    have HT := hide (takes_any ((unhide HP).below hG.bel (Nat.le_refl _)) (FmA.of ((unhide HFV).below hG.bel (Nat.le_refl _))) hN (fun g hg => unhide HO _ g hg) hfs)
    have HGY := hide hG
    have HYS := hide hYs
    clear hG hBQ cq cp HG hFY hXY hYs
    cases htk : tk p f with
    | none =>
      rw [htk] at HT
      simp only [tkV] at HT
      have HTK := hide htk
      clear htk
      gi_wp2_with fail
      refine ⟨trivial, (fun q => by cases q), (CallsIn.inRound l (callsIn_wide.2 (unhide HT))).mono ?_⟩
      rintro e Y2 ⟨rfl, hb2⟩
      have HG2 : Hid (Stay W0.heap.size Y Y2 ∧ CI w p fs pa pb (.slice a N cap) x (k + 1) Y2) := by
        have hys := unhide HYS
        refine ⟨⟨hb2.block _ (by omega), hb2.block _ (by omega)⟩, ?_⟩
        have g := (unhide HGY).keep (Fr.of_below (S := fun _ => False) hb2) (fun _ _ e => e)
        refine ⟨g.bel, g.bp, g.bl, g.bv, g.b6, g.b7, g.bb, by rw [unhide hNN]; omega, ?_⟩
        rw [g.no, unhide hNN, show N - k = M + 1 by omega, show N - (k + 1) = M by omega]
        exact ctN_none (unhide HF) (unhide HTK)
      clear hb2 HT
      gi_wp2_with fail
      exact unhide HG2
    | some kt =>
      obtain ⟨kp, tg⟩ := kt
      rw [htk] at HT
      simp only [tkV] at HT
      have hkp := tk_le htk
      have HTK := hide htk
      clear htk
      gi_wp2_with fail
      refine ⟨trivial, (fun q => by cases q), (CallsIn.inRound l (callsIn_wide.2 (unhide HT))).mono ?_⟩
      rintro e Y2 ⟨rfl, hb2⟩
      have hys := unhide HYS
      have g := (unhide HGY).keep (Fr.of_below (S := fun _ => False) hb2) (fun _ _ e => e)
      have hst : Stay W0.heap.size Y Y2 := ⟨hb2.block _ (by omega), hb2.block _ (by omega)⟩
      have hys2 : W0.heap.size + 1 < Y2.heap.size := Nat.lt_of_lt_of_le hys hb2.size
      obtain ⟨c1, f1, l1⟩ := blk_cells g.bl
      obtain ⟨c2, f2, l2⟩ := blk_cells g.bv
      obtain ⟨c3, f3, l3⟩ := blk_cells g.b6
      obtain ⟨c4, f4, l4⟩ := blk_cells g.b7
      have r1 : Y2.cell? ⟨w.heap.size + 1, 0, none⟩ = some (.slice a N cap) := c1 0
      have r20 : Y2.cell? ⟨w.heap.size + 1 + 1, 0, none⟩ = some (.int .i64 x.1) := c2 0
      have r21 : Y2.cell? ⟨w.heap.size + 1 + 1, 1, none⟩ = some (.int .i64 x.2) := c2 1
      have l2' : w.heap.size + 1 + 1 < Y2.heap.size := l2
      have hdr : Below Y2.heap.size Y2 Y2.drew := ⟨rfl, rfl, rfl, Nat.le_refl _, fun _ _ => rfl⟩
      have hMl : M + 1 ≤ fs.length := by rw [unhide hNN]; omega
      have HR := hide (resumed_any (g := f) (n := M) (k := kp) tg x ((((unhide HL).below g.bel (Nat.le_refl _)).below hdr (Nat.le_refl _)).upto (k := M + 1) hMl) (by rw [List.length_take]; omega) (by rw [List.getElem?_take, if_pos (by omega)]; exact unhide HF) hkp (by rw [List.length_take]; omega) (fun z hz => unhide HS z (List.mem_of_mem_take hz)))
      rw [List.take_take, Nat.min_eq_left (by omega)] at HR
      have HCT : Hid (o = some (fs.take M ++ [⟨f.fn, tg, f.sl.take kp ++ [x]⟩])) := by
        unfold Hid
        rw [← unhide ho, g.no, unhide hNN, show N - k = M + 1 by omega]
        exact ctN_some (unhide HF) (unhide HTK)
      have HG2 := hide (And.intro g hst)
      -- what the stores want
      have HST : Hid (∀ w3, Below Y2.heap.size Y2.drew w3 → (w3.cell? ⟨w.heap.size + 1 + 1 + 1, 0, none⟩ = some (.slice none 0 0) ∧ w3.frozen? ⟨w.heap.size + 1 + 1 + 1, 0, none⟩ = false ∧ w3.cell? ⟨w.heap.size + 1 + 1 + 1 + 1, 0, none⟩ = some (.bool false) ∧ w3.frozen? ⟨w.heap.size + 1 + 1 + 1 + 1, 0, none⟩ = false ∧ w.heap.size + 1 + 1 + 1 + 1 < w3.heap.size)) := fun w3 hb3 =>
        ⟨(hb3.cell (p := ⟨w.heap.size + 3, 0, none⟩) l3).trans (c3 0), ((Fr.of_below (S := fun _ => False) (show Below Y2.drew.heap.size Y2.drew w3 from hb3)).frozen (a := ⟨w.heap.size + 3, 0, none⟩) l3 (fun e => e)).trans (f3 0), (hb3.cell (p := ⟨w.heap.size + 4, 0, none⟩) l4).trans (c4 0), ((Fr.of_below (S := fun _ => False) (show Below Y2.drew.heap.size Y2.drew w3 from hb3)).frozen (a := ⟨w.heap.size + 4, 0, none⟩) l4 (fun e => e)).trans (f4 0), by have := hb3.size; simp at this; omega⟩
      have HLEN : Hid ((fs.take M ++ [(⟨f.fn, tg, f.sl.take kp ++ [x]⟩ : Fm)]).length = M + 1) := by unfold Hid; simp; omega
      have m0 : (0 : Int) ≤ (M : Int) + 1 := by omega
      have m1 : (M : Int) + 1 ≤ (cap : Int) := by omega
      have hMw : IntKind.i64.wrap ((M : Int) + 1) = (M : Int) + 1 := by go_arith
      clear hb2 HT g hst c1 c2 c3 c4 f1 f2 f3 f4 hdr d0 d1 e0 e1 e2 hys
      gi_wp2_with fail
      refine wpIn_region_round (S := fun wx => Fr (fun k => k = w.heap.size + 3 ∨ k = w.heap.size + 4) Y2 wx) (fun ⟨_, _, h⟩ => h) (by kernel_rfl) (by kernel_rfl) ((Fr.refl _ Y2).drew) (fun hHeld => ?_)
      refine wpAnyH_take (i := 0) (oi := _) (v := .slice a N cap) rfl (by kernel_rfl) (by kernel_rfl) (by kernel_rfl) (fun _ _ _ h => h) (Or.inl ⟨by rfl, (by intro wz hSw; have s0 := (hSw.cell (a := ⟨w.heap.size + 1, 0, none⟩) l1 (by show ¬ (w.heap.size + 1 = w.heap.size + 3 ∨ w.heap.size + 1 = w.heap.size + 4); omega)).trans r1; have t0 := Nat.lt_of_lt_of_le l1 hSw.size; go_simp)⟩) (by assumption) ?_
      go_simp
      refine wpAnyH_take (i := 1) (oi := _) (v := .int .i64 (M : Int)) rfl (by kernel_rfl) (by kernel_rfl) (by kernel_rfl) (fun _ _ _ h => h) (Or.inl ⟨by rfl, (by intro wz hSw; go_simp)⟩) (by assumption) ?_
      go_simp
      refine wpAnyH_take (i := 2) (oi := _) (v := .int .i64 ((M : Int) + 1)) rfl (by kernel_rfl) (by kernel_rfl) (by kernel_rfl) (fun _ _ _ h => h) (Or.inl ⟨by rfl, (by intro wz hSw; go_simp)⟩) (by assumption) ?_
      go_simp
      refine wpAnyH_take (i := 3) (oi := _) (v := .slice a (M + 1) cap) rfl (by kernel_rfl) (by kernel_rfl) (by kernel_rfl) (fun _ _ _ h => h) (Or.inl ⟨by rfl, (by intro wz hSw; go_simp)⟩) (by assumption) ?_
      go_simp
      refine wpAnyH_take (i := 4) (oi := _) (v := .int .i64 (kp : Int)) rfl (by kernel_rfl) (by kernel_rfl) (by kernel_rfl) (fun _ _ _ h => h) (Or.inl ⟨by rfl, (by intro wz hSw; go_simp)⟩) (by assumption) ?_
      go_simp
      refine wpAnyH_take (i := 5) (oi := _) (v := .int .i64 tg) rfl (by kernel_rfl) (by kernel_rfl) (by kernel_rfl) (fun _ _ _ h => h) (Or.inl ⟨by rfl, (by intro wz hSw; go_simp)⟩) (by assumption) ?_
      go_simp
      refine wpAnyH_take (i := 6) (oi := _) (v := .agg #[.int .i64 x.1, .int .i64 x.2]) rfl (by kernel_rfl) (by kernel_rfl) (by kernel_rfl) (fun _ _ _ h => h) (Or.inl ⟨by rfl, (by intro wz hSw; have s0 := (hSw.cell (a := ⟨w.heap.size + 1 + 1, 0, none⟩) l2' (by show ¬ (w.heap.size + 1 + 1 = w.heap.size + 3 ∨ w.heap.size + 1 + 1 = w.heap.size + 4); omega)).trans r20; have t0 := Nat.lt_of_lt_of_le l2' hSw.size; have s1 := (hSw.cell (a := ⟨w.heap.size + 1 + 1, 1, none⟩) l2' (by show ¬ (w.heap.size + 1 + 1 = w.heap.size + 3 ∨ w.heap.size + 1 + 1 = w.heap.size + 4); omega)).trans r21; have t1 := Nat.lt_of_lt_of_le l2' hSw.size; go_simp)⟩) (by assumption) ?_
      go_simp
      refine wpAnyH_ready (rs := [7]) (by kernel_rfl) (by simp) ?_
      refine AllReadyH.cons (o := _) rfl (fun K hK => ?_) AllReadyH.nil
      go_simp
      refine (unhide HR).mono ?_
      rintro e w3 ⟨v3, ys, rfl, hof, hb3⟩
      obtain ⟨s1, s2, s3, s4, s5⟩ := unhide HST w3 hb3
      obtain ⟨va, vc, ev3, _⟩ := hof.row.shape
      rw [unhide HLEN] at ev3
      subst ev3
      have F3 : Fr (fun k => k = w.heap.size + 3 ∨ k = w.heap.size + 4) Y2 w3 := ((Fr.refl _ Y2).drew).trans (Fr.of_below hb3)
      have F4 : Fr (fun k => k = w.heap.size + 3 ∨ k = w.heap.size + 4) Y2 (w3.setCell ⟨w.heap.size + 1 + 1 + 1, 0, none⟩ (.slice va (M + 1) vc)) := F3.setCell _ (.inr (.inl rfl)) _
      have F5 : Fr (fun k => k = w.heap.size + 3 ∨ k = w.heap.size + 4) Y2 ((w3.setCell ⟨w.heap.size + 1 + 1 + 1, 0, none⟩ (.slice va (M + 1) vc)).setCell ⟨w.heap.size + 1 + 1 + 1 + 1, 0, none⟩ (.bool true)) := F4.setCell _ (.inr (.inr rfl)) _
      have HOF := hide hof
      have HB3 := hide hb3
      have HF5 := hide F5
      clear hof hb3
      refine hK.out _ _ F3 (fun hHeld3 => ?_)
      clear hK K
      go_simp
      refine wpAnyH_ready (rs := [8]) (by kernel_rfl) (by simp) ?_
      refine AllReadyH.cons (o := _) rfl (fun K hK => ?_) AllReadyH.nil
      go_simp
      refine hK.out _ _ F4 (fun hHeld4 => ?_)
      clear hK K
      go_simp
      refine wpAnyH_ready (rs := [9]) (by kernel_rfl) (by simp) ?_
      refine AllReadyH.cons (o := _) rfl (fun K hK => ?_) AllReadyH.nil
      go_simp
      refine hK.out _ _ F5 (fun hHeld5 => ?_)
      clear hK K
      refine wpAnyH_done (by kernel_rfl) ?_ _
      clear hHeld hHeld3 hHeld4 hHeld5 F3 F4 F5 s1 s2 s3 s4 r1 r20 r21
      gi_wp2_with fail
      have hof := unhide HOF
      have hb3 := unhide HB3
      have hdz : Y2.drew.heap.size = Y2.heap.size := rfl
      refine ⟨?_, rfl, (unhide HG2).1.bel.trans ((unhide HF5).below (unhide HG2).1.bel.size (fun k hk e => by have e' : k = w.heap.size + 3 ∨ k = w.heap.size + 4 := e; omega)), .slice va (M + 1) vc, _, ys, unhide HCT, ?_, ?_, ?_⟩
      · have f := unhide HF5
        exact ⟨(f.block _ (by omega) (by omega)).trans (unhide HG2).2.1, (f.block _ (by omega) (by omega)).trans (unhide HG2).2.2⟩
      · rw [Below.heap_setCell _ _ _ _ (by show w.heap.size + 3 ≠ w.heap.size + 1 + 1 + 1 + 1; omega)]
        exact setCell_block ((hb3.block (w.heap.size + 3) (by have := blk_cells (unhide HG2).1.b6; simp; omega)).trans (unhide HG2).1.b6) _
      · exact setCell_block ((Below.heap_setCell _ _ _ _ (by show w.heap.size + 4 ≠ w.heap.size + 1 + 1 + 1; omega)).trans ((hb3.block (w.heap.size + 4) (by have := blk_cells (unhide HG2).1.b7; simp; omega)).trans (unhide HG2).1.b7)) _
      · exact (hof.low (by omega)).fr (S := fun k => k = w.heap.size + 3 ∨ k = w.heap.size + 4) (((Fr.refl _ w3).setCell _ (.inr (.inl rfl)) _).setCell _ (.inr (.inr rfl)) _) (fun k hk _ e => by omega)
  case done =>
    rintro k X hE hG hK
    have ek : k = N := by rw [unhide HXN] at hE; exact hE
    have hob : o = none := by
      rw [← unhide ho, hG.no, unhide hNN, ek, Nat.sub_self]
      rfl
    subst hob
    obtain ⟨c3, f3, l3⟩ := blk_cells hG.b6
    obtain ⟨c4, f4, l4⟩ := blk_cells hG.b7
    have r3 : X.cell? ⟨w.heap.size + 1 + 1 + 1, 0, none⟩ = some (.slice none 0 0) := c3 0
    have r4 : X.cell? ⟨w.heap.size + 1 + 1 + 1 + 1, 0, none⟩ = some (.bool false) := c4 0
    have g3 : X.frozen? ⟨w.heap.size + 1 + 1 + 1, 0, none⟩ = false := f3 0
    have g4 : X.frozen? ⟨w.heap.size + 1 + 1 + 1 + 1, 0, none⟩ = false := f4 0
    have l3' : w.heap.size + 1 + 1 + 1 < X.heap.size := l3
    have l4' : w.heap.size + 1 + 1 + 1 + 1 < X.heap.size := l4
    have HG := hide hG
    clear hG c3 f3 c4 f4
    gi_wp2_with fail
    have g := unhide HG
    have fs1 : Fr (fun k => k = w.heap.size + 3 ∨ k = w.heap.size + 4) X ((X.setCell ⟨w.heap.size + 1 + 1 + 1, 0, none⟩ (.slice none 0 0)).setCell ⟨w.heap.size + 1 + 1 + 1 + 1, 0, none⟩ (.bool false)) := ((Fr.refl _ X).setCell _ (.inr (.inl rfl)) _).setCell _ (.inr (.inr rfl)) _
    obtain ⟨XX, hXX⟩ : ∃ XX, Hid ((X.setCell ⟨w.heap.size + 1 + 1 + 1, 0, none⟩ (.slice none 0 0)).setCell ⟨w.heap.size + 1 + 1 + 1 + 1, 0, none⟩ (.bool false) = XX) := ⟨_, hide rfl⟩
    have b3 : XX.heap[w.heap.size + 3]? = some (.cells #[.slice none 0 0] 39) := by
      rw [← unhide hXX, Below.heap_setCell _ _ _ _ (by show w.heap.size + 3 ≠ w.heap.size + 1 + 1 + 1 + 1; omega)]
      exact setCell_block g.b6 _
    have b4 : XX.heap[w.heap.size + 4]? = some (.cells #[.bool false] 4) := by
      rw [← unhide hXX]
      exact setCell_block ((Below.heap_setCell _ _ _ _ (by show w.heap.size + 4 ≠ w.heap.size + 1 + 1 + 1; omega)).trans g.b7) _
    rw [unhide hXX] at fs1 ⊢
    have hK' : XX.heap[W0.heap.size]? = some (.deferred (some [])) := (fs1.block _ (Array.getElem?_eq_some_iff.1 hK).1 (by show ¬ (_ ∨ _); omega)).trans hK
    have f : Fr (fun z => z = W0.heap.size) XX (XX.putObj W0.heap.size (.deferred none)) := ⟨rfl, rfl, rfl, by simp, fun k _ hk => World.putObj_heap_other hk⟩
    obtain ⟨c5, _, _⟩ := blk_cells ((f.block (w.heap.size + 3) (Array.getElem?_eq_some_iff.1 b3).1 (by omega)).trans b3)
    obtain ⟨c6, _, _⟩ := blk_cells ((f.block (w.heap.size + 4) (Array.getElem?_eq_some_iff.1 b4).1 (by omega)).trans b4)
    have hc5 : (XX.putObj W0.heap.size (.deferred none)).cell? ⟨w.heap.size + 1 + 1 + 1, 0, none⟩ = some (.slice none 0 0) := c5 0
    have hc6 : (XX.putObj W0.heap.size (.deferred none)).cell? ⟨w.heap.size + 1 + 1 + 1 + 1, 0, none⟩ = some (.bool false) := c6 0
    refine ⟨by simp, .inl ⟨_, _, rfl, run_takeDeferred hK', .tuple #[.slice none 0 0, .bool false], ?_, .slice none 0 0, [], rfl, OF.nil _ _, (g.bel.trans (fs1.below g.bel.size (fun k hk e => by have e' : k = w.heap.size + 3 ∨ k = w.heap.size + 4 := e; omega))).trans (f.below (by have := fs1.size; have := g.bel.size; omega) (fun k hk e => by omega))⟩⟩
    simp [results, Try.f19, go_sem, hc5, hc6]
  case stop =>
    rintro c k X hG hK
    obtain ⟨rfl, hbel, v', gs, ys, hgs, b3, b4, hof⟩ := hG
    subst hgs
    have HB := hide hbel
    have HB3 := hide b3
    have HB4 := hide b4
    have HOF := hide hof
    clear hbel b3 b4 hof
    gi_wp2_with fail
    have f : Fr (fun z => z = W0.heap.size) X (X.putObj W0.heap.size (.deferred none)) := ⟨rfl, rfl, rfl, by simp, fun k _ hk => World.putObj_heap_other hk⟩
    obtain ⟨c5, _, _⟩ := blk_cells ((f.block (w.heap.size + 3) (Array.getElem?_eq_some_iff.1 (unhide HB3)).1 (by omega)).trans (unhide HB3))
    obtain ⟨c6, _, _⟩ := blk_cells ((f.block (w.heap.size + 4) (Array.getElem?_eq_some_iff.1 (unhide HB4)).1 (by omega)).trans (unhide HB4))
    have hc5 : (X.putObj W0.heap.size (.deferred none)).cell? ⟨w.heap.size + 1 + 1 + 1, 0, none⟩ = some v' := c5 0
    have hc6 : (X.putObj W0.heap.size (.deferred none)).cell? ⟨w.heap.size + 1 + 1 + 1 + 1, 0, none⟩ = some (.bool true) := c6 0
    refine ⟨by simp, .inl ⟨_, _, rfl, run_takeDeferred hK, .tuple #[v', .bool true], ?_, v', ys, rfl, ((unhide HOF).fr f (fun k hk _ e => by omega)).low (by omega), (unhide HB).trans (f.below (unhide HB).size (fun k hk e => by omega))⟩⟩
    simp [results, Try.f19, go_sem, hc5, hc6]
end Go.Proofs.Ytfcgpafjhifogaa
