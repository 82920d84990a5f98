/-
  The law's works.
-/
import Derived.Test.YtpbdpejhjdoleaaSm3
namespace Go.Proofs.Ytpbdpejhjdoleaa
open Go.RowKit
set_option linter.unusedVariables false
set_option linter.unusedSimpArgs false
set_option maxRecDepth 100000 in
theorem reg_any (w : World) (k : Int) :
    Calls Try.prog 18 #[.int .i64 k] w fun e w' => e = .returned (opV (rgO k)) ∧ Below w.heap.size w w' := by
  have hb := box1n w (.cells #[.int .i64 0, .int .i64 k] 52)
  have HB := hide hb
  unfold opV rgO
  clear hb
  go_enter Try.func18, Try.ntmps18
  go_wp2_with fail
  refine bodyPost_ret (v := .agg #[.int .i64 0, .int .i64 k]) ?_ rfl ?_
  · rw [results_cell_one rfl]
    go_simp
  · exact ⟨rfl, unhide HB⟩
theorem Rx.box {W : World} {p : Nat} {arr : Array Value} {t : TypeId} {sz n : Nat} (h : W.heap[p]? = some (.cells arr t)) (hs : arr.size = n * sz) (hn : n ≤ maxLen) : Rx W sz (.slice (some ⟨p, 0, none⟩) n n) n arr.toList := by
  obtain ⟨q1, q2, q3⟩ := blk_cells h
  exact ⟨by rw [Array.length_toList]; exact hs, _, n, rfl, Nat.le_refl _, hn, fun _ => ⟨p, 0, rfl, q3, fun j hj => by rw [Nat.zero_add, q1]; simp⟩⟩
theorem Rd.all {D : Nat → Prop} {w : World} {sz : Nat} {v : Value} {n : Nat} {xs : List Value} (h : Rx w sz v n xs) (hD : ∀ k, D k) : Rd D w sz v n xs := ⟨h, fun _ k _ => hD k⟩
theorem NV.of_ow {T U R : Type} {en : T → List Value} {er : R → List Value} {sz : Nat} {P : World → U → T → Prop} {bl : T → Nat → Prop} {Z D : Nat → Prop} {Q : (Nat → Prop) → World → U → R → Prop} (g : T → R) (hg : ∀ t, en t = er (g t)) {w : World} {v : Value} {us : List U} {xs : List T} (h : OW en sz P bl Z w v us xs) (hD : ∀ k, D k) (hp : ∀ u x, P w u x → Q D w u (g x)) : NV er sz Q D w us v := by
  refine ⟨xs.map g, by rw [List.length_map]; exact h.len, Rd.all ?_ hD, fun i u r hu hr => ?_⟩
  · have e : flt er (xs.map g) = flt en xs := by
      simp only [flt, List.flatMap_map]
      congr 1
      funext t
      exact (hg t).symm
    rw [e]
    exact Rx.of_ro h.row
  · rw [List.getElem?_map] at hr
    cases hx : xs[i]? with
    | none => rw [hx] at hr; cases hr
    | some t =>
      rw [hx] at hr
      cases hr
      exact hp u t (h.el i u t hu hx)
def Tr : Nat → Prop := fun _ => True
theorem InsV.of_ow {Z : Nat → Prop} {w : World} {v : Value} {us : List RIn} {ts : List TI} (h : OW enT 8 InT blT Z w v us ts) : InsV Tr w us v :=
  NV.of_ow (D := Tr) Prod.fst (fun _ => rfl) h (fun _ => trivial) (fun u x hp => InP.mv.wide hp.inP (fun _ _ _ => trivial))
theorem BksV.of_ow {b : Nat} {Z : Nat → Prop} {w : World} {v : Value} {bl : List Bk} {Ts : List TB} (h : OW enTB 3 (PB b) blB Z w v bl Ts) : BksV Tr w bl v :=
  NV.of_ow (D := Tr) Prod.fst (fun _ => rfl) h (fun _ => trivial) (fun u x hp => ⟨hp.pc, InsV.of_ow hp.ow, Rd.all (Rx.of_ro hp.nx) (fun _ => trivial)⟩)
def ex0 : RIn := ⟨1, 0, 1, [⟨0, 0⟩], 0, 0, 0, []⟩
def ex1 : RIn := ⟨1, 0, 2, [⟨0, 1⟩], 0, 0, 0, []⟩
def ex2 : RIn := ⟨1, 0, 2, [⟨0, 0⟩], 0, 0, 0, []⟩
theorem trn_ex : (trn [ex0, ex1]).2 = [ex0, ex2] := by
  simp [trn, stp, inF, srcF, f0, wr0, mvd, updW, rgO, ex0, ex1, ex2, shF, mvO]
theorem i64s : I64 0 ∧ I64 1 ∧ I64 2 := ⟨by show (Lit.int .i64 0).wf = true; decide, by show (Lit.int .i64 1).wf = true; decide, by show (Lit.int .i64 2).wf = true; decide⟩
theorem ex_ok : OkB ⟨0, [ex0, ex1], []⟩ := by
  obtain ⟨z0, z1, z2⟩ := i64s
  refine ⟨fun x hx => ?_, by simp, by simp, fun x hx => ?_⟩
  · simp only [List.mem_cons, List.not_mem_nil, or_false] at hx
    rcases hx with rfl | rfl
    · exact ⟨z1, fun o ho => by simp [ex0] at ho; subst ho; exact ⟨z0, z0⟩, fun s hs => by simp [ex0] at hs⟩
    · exact ⟨z2, fun o ho => by simp [ex1] at ho; subst ho; exact ⟨z0, z1⟩, fun s hs => by simp [ex1] at hs⟩
  · simp only [List.mem_cons, List.not_mem_nil, or_false] at hx
    rcases hx with rfl | rfl <;> simp [ex0, ex1]

set_option linter.unusedVariables false
set_option linter.unusedSimpArgs false
theorem bks_ex {W : World} {p0 p1 p2 p3 : Nat} (h0 : W.heap[p0]? = some (.cells #[.int .i64 0, .int .i64 0] 52)) (h1 : W.heap[p1]? = some (.cells #[.int .i64 0, .int .i64 1] 52)) (h2 : W.heap[p2]? = some (.cells #[.int .i64 1, .int .i64 0, .int .i64 1, .slice (some ⟨p0, 0, none⟩) 1 1, .int .i64 0, .int .i64 0, .int .i64 0, .slice none 0 0, .int .i64 1, .int .i64 0, .int .i64 2, .slice (some ⟨p1, 0, none⟩) 1 1, .int .i64 0, .int .i64 0, .int .i64 0, .slice none 0 0] 50)) (h3 : W.heap[p3]? = some (.cells #[.int .i64 0, .slice (some ⟨p2, 0, none⟩) 2 2, .slice none 0 0] 43)) :
    BksV Tr W [⟨0, [ex0, ex1], []⟩] (.slice (some ⟨p3, 0, none⟩) 1 1) := by
  have r0 : Rx W 2 (.slice (some ⟨p0, 0, none⟩) 1 1) 1 (flt enO [⟨0, 0⟩]) := Rx.box (n := 1) h0 rfl (by unfold maxLen; omega)
  have r1 : Rx W 2 (.slice (some ⟨p1, 0, none⟩) 1 1) 1 (flt enO [⟨0, 1⟩]) := Rx.box (n := 1) h1 rfl (by unfold maxLen; omega)
  have r2 : Rx W 8 (.slice (some ⟨p2, 0, none⟩) 2 2) 2 (flt enIn [⟨1, 0, 1, .slice (some ⟨p0, 0, none⟩) 1 1, 0, 0, 0, .slice none 0 0⟩, ⟨1, 0, 2, .slice (some ⟨p1, 0, none⟩) 1 1, 0, 0, 0, .slice none 0 0⟩]) := Rx.box (n := 2) h2 rfl (by unfold maxLen; omega)
  have r3 : Rx W 3 (.slice (some ⟨p3, 0, none⟩) 1 1) 1 (flt enBk [⟨0, .slice (some ⟨p2, 0, none⟩) 2 2, .slice none 0 0⟩]) := Rx.box (n := 1) h3 rfl (by unfold maxLen; omega)
  have hn : ShsV Tr W [] (.slice none 0 0) := ⟨[], rfl, Rd.nil _ _ _, fun i u r hu => by simp at hu⟩
  refine ⟨[⟨0, .slice (some ⟨p2, 0, none⟩) 2 2, .slice none 0 0⟩], rfl, Rd.all r3 (fun _ => trivial), fun i u r hu hr => ?_⟩
  have hi := (List.getElem?_eq_some_iff.1 hu).1
  obtain rfl : i = 0 := by simp at hi; omega
  cases hu
  cases hr
  refine ⟨rfl, ⟨[⟨1, 0, 1, .slice (some ⟨p0, 0, none⟩) 1 1, 0, 0, 0, .slice none 0 0⟩, ⟨1, 0, 2, .slice (some ⟨p1, 0, none⟩) 1 1, 0, 0, 0, .slice none 0 0⟩], rfl, Rd.all r2 (fun _ => trivial), fun i u r hu hr => ?_⟩, Rd.nil _ _ _⟩
  have hi := (List.getElem?_eq_some_iff.1 hu).1
  obtain rfl | rfl : i = 0 ∨ i = 1 := by simp at hi; omega
  · cases hu
    cases hr
    exact ⟨rfl, rfl, rfl, rfl, rfl, rfl, Rd.all r0 (fun _ => trivial), hn⟩
  · cases hu
    cases hr
    exact ⟨rfl, rfl, rfl, rfl, rfl, rfl, Rd.all r1 (fun _ => trivial), hn⟩
theorem bkT_ex : [(⟨0, [ex0, ex1], []⟩ : Bk)].map bkT = [⟨0, [ex0, ex2], []⟩] := by
  simp only [List.map_cons, List.map_nil, bkT, trn_ex]
set_option maxRecDepth 100000 in
set_option maxHeartbeats 12800000 in
theorem works_any (w : World) : Calls Try.prog 7 #[] w fun e w' => e = .returned (.bool true) ∧ Below w.heap.size w w' := by
  go_enter Try.func7, Try.ntmps7
  go_wp2_with fail
  refine (reg_any w 0).mono ?_
  rintro e w1 ⟨rfl, b1⟩
  unfold opV rgO
  dsimp only
  have H1 := hide (((BX.nil w).go b1).add #[.int .i64 0, .int .i64 0] 52)
  clear b1
  go_wp2_with fail
  refine (reg_any _ 1).mono ?_
  rintro e w2 ⟨rfl, b2⟩
  unfold opV rgO
  dsimp only
  have H2 := hide (((unhide H1).go b2).add #[.int .i64 0, .int .i64 1] 52)
  clear b2 H1
  have H3 := hide (((unhide H2).add #[.int .i64 1, .int .i64 0, .int .i64 1, .slice (some ⟨w1.heap.size, 0, none⟩) 1 1, .int .i64 0, .int .i64 0, .int .i64 0, .slice none 0 0, .int .i64 1, .int .i64 0, .int .i64 2, .slice (some ⟨w2.heap.size, 0, none⟩) 1 1, .int .i64 0, .int .i64 0, .int .i64 0, .slice none 0 0] 50).add #[.int .i64 0, .slice (some ⟨w2.heap.size + 1, 0, none⟩) 2 2, .slice none 0 0] 43)
  simp only [World.size_alloc] at H3
  clear H2
  have HC := hide (run_any (fn := 0) (regs := 3) (bks_ex ((unhide H3).h 0 _ rfl) ((unhide H3).h 1 _ rfl) ((unhide H3).h 2 _ rfl) ((unhide H3).h 3 _ rfl)) (fun b hb => by rw [List.mem_singleton] at hb; subst hb; exact ex_ok) (by simp))
  rw [bkT_ex] at HC
  go_wp2_with fail
  refine (unhide HC).mono ?_
  rintro e w5 ⟨v', Ts, rfl, b5, hO⟩
  have HB5 := hide ((unhide H3).go b5).b
  have hbk := BksV.of_ow hO
  obtain ⟨g, off, cap, r, e1, hgl, _, ⟨f1, f2, f3⟩, gc⟩ := NV.at zBk (show NV enBk 3 BkP Tr w5 _ v' from hbk) (i := 0) rfl
  subst e1
  obtain ⟨q, qo, qc, r0, e2, hql, _, i0, qc0⟩ := NV.at zIn (show NV enIn 8 InP Tr w5 [ex0, ex2] r.iv from f2) (i := 0) rfl
  obtain ⟨q', qo', qc', r1, e3, hql', _, i1, qc1⟩ := NV.at zIn (show NV enIn 8 InP Tr w5 [ex0, ex2] r.iv from f2) (i := 1) rfl
  rw [e2] at e3
  cases e3
  have g0 := gc 0 _ rfl
  have g1 := gc 1 _ rfl
  have g2 := gc 2 _ rfl
  rw [e2] at g1
  obtain ⟨op0, cd0, ds0, av0, n0, pc0, nd0, ev0⟩ := r0
  obtain ⟨op1, cd1, ds1, av1, n1, pc1, nd1, ev1⟩ := r1
  obtain ⟨h1, h2, h3, h4, h5, h6, h7, h8⟩ := i0
  obtain ⟨k1, k2, k3, k4, k5, k6, k7, k8⟩ := i1
  simp only at h1 h2 h3 h4 h5 h6 h7 h8 k1 k2 k3 k4 k5 k6 k7 k8
  subst h1 h2 h3 h4 h5 h6 k1 k2 k3 k4 k5 k6
  obtain ⟨aa, ac, ea1, -, ha2⟩ := h7.1.shape
  obtain ⟨ea, ec, ee1, -, he2⟩ := NV.shape h8
  obtain ⟨ba, bc, ea2, -, hb2⟩ := k7.1.shape
  obtain ⟨fa, fc, ee2, -, hf2⟩ := NV.shape k8
  subst ea1 ee1 ea2 ee2
  have HA7 := hide h7.1
  have HB7 := hide k7.1
  have x0 := qc0 0 _ rfl
  have x1 := qc0 1 _ rfl
  have x2 := qc0 2 _ rfl
  have x3 := qc0 3 _ rfl
  have x4 := qc0 4 _ rfl
  have x5 := qc0 5 _ rfl
  have x6 := qc0 6 _ rfl
  have x7 := qc0 7 _ rfl
  have y0 := qc1 0 _ rfl
  have y1 := qc1 1 _ rfl
  have y2 := qc1 2 _ rfl
  have y3 := qc1 3 _ rfl
  have y4 := qc1 4 _ rfl
  have y5 := qc1 5 _ rfl
  have y6 := qc1 6 _ rfl
  have y7 := qc1 7 _ rfl
  unfold ex0 at HA7 x0 x1 x2 x3 x4 x5 x6 x7
  unfold ex2 at HB7 y0 y1 y2 y3 y4 y5 y6 y7
  simp only [List.length_cons, List.length_nil, Nat.zero_mul, Nat.one_mul, Nat.add_zero, Nat.zero_add] at g0 g1 g2 x0 x1 x2 x3 x4 x5 x6 x7 y0 y1 y2 y3 y4 y5 y6 y7 HA7 HB7
  have l1 : g < w5.heap.size + 1 := by omega
  have l2 : q < w5.heap.size + 1 := by omega
  have l3 : g < w5.heap.size + 1 + 1 := by omega
  have l4 : q < w5.heap.size + 1 + 1 := by omega
  have l5 : w5.heap.size < w5.heap.size + 1 + 1 := by omega
  clear h7 h8 k7 k8 qc0 qc1 gc hbk f1 f2 f3 hO b5 HC H3 e2 hql'
  go_wp2_with fail
  have H6 := hide (BX.three w5 #[.int .i64 0, .int .i64 3, .slice (some ⟨g, off, none⟩) 1 cap] #[.int .i64 1, .int .i64 0, .int .i64 1, .slice aa 1 ac, .int .i64 0, .int .i64 0, .int .i64 0, .slice ea 0 ec] #[.int .i64 1, .int .i64 0, .int .i64 2, .slice ba 1 bc, .int .i64 0, .int .i64 0, .int .i64 0, .slice fa 0 fc] 24 50 50)
  obtain ⟨Y, hY⟩ : ∃ W, Hid ((((w5.alloc (.cells #[.int .i64 0, .int .i64 3, .slice (some ⟨g, off, none⟩) 1 cap] 24)).alloc (.cells #[.int .i64 1, .int .i64 0, .int .i64 1, .slice aa 1 ac, .int .i64 0, .int .i64 0, .int .i64 0, .slice ea 0 ec] 50)).alloc (.cells #[.int .i64 1, .int .i64 0, .int .i64 2, .slice ba 1 bc, .int .i64 0, .int .i64 0, .int .i64 0, .slice fa 0 fc] 50)).drew = W) := ⟨_, hide rfl⟩
  have HYX : Hid (BX w5 [(w5.heap.size, #[.int .i64 0, .int .i64 3, .slice (some ⟨g, off, none⟩) 1 cap], 24), (w5.heap.size + 1, #[.int .i64 1, .int .i64 0, .int .i64 1, .slice aa 1 ac, .int .i64 0, .int .i64 0, .int .i64 0, .slice ea 0 ec], 50), (w5.heap.size + 1 + 1, #[.int .i64 1, .int .i64 0, .int .i64 2, .slice ba 1 bc, .int .i64 0, .int .i64 0, .int .i64 0, .slice fa 0 fc], 50)] Y) := (unhide H6).go (by rw [← unhide hY]; exact ⟨rfl, rfl, rfl, Nat.le_refl _, fun _ _ => rfl⟩)
  have HB6 : Hid (Below w5.heap.size w5 Y) := (unhide HYX).b
  have HCE : Hid (∀ W, Below Y.heap.size Y W → W.cell? ⟨w5.heap.size + 1, 3, none⟩ = some (.slice aa 1 ac) ∧ W.cell? ⟨w5.heap.size + 1, 2, none⟩ = some (.int .i64 1) ∧ W.cell? ⟨w5.heap.size + 1 + 1, 3, none⟩ = some (.slice ba 1 bc) ∧ W.cell? ⟨w5.heap.size + 1 + 1, 2, none⟩ = some (.int .i64 2)) := fun W hW => by
    have z := (unhide HYX).go hW
    exact ⟨z.ce 1 rfl 3, z.ce 1 rfl 2, z.ce 2 rfl 3, z.ce 2 rfl 2⟩
  have HSY : Hid (Below Y.heap.size Y Y) := Below.refl _ _
  refine wp_region_held_drew (S := fun W => Below Y.heap.size Y W) (by kernel_rfl) (by rw [unhide hY]; exact Below.refl _ _) (fun hHeld => ?_)
  clear hHeld
  rw [unhide hY]
  clear hY l1 l2 l3 l4 l5 x0 x1 x2 x3 x4 x5 x6 x7 y0 y1 y2 y3 y4 y5 y6 y7 g0 g1 g2 hgl hql
  refine wpAnyH_take (i := 0) (oi := _) (v := .pointer (some ⟨w5.heap.size + 1, 3, none⟩)) rfl (by kernel_rfl) (by kernel_rfl) (by kernel_rfl) (fun _ _ _ h => h) (Or.inl ⟨by rfl, (by intro w' hSw; obtain ⟨s1, s2, s3, s4⟩ := unhide HCE w' hSw; go_simp)⟩) (unhide HSY) ?_
  go_simp
  refine wpAnyH_take (i := 1) (oi := _) (v := .slice aa 1 ac) rfl (by kernel_rfl) (by kernel_rfl) (by kernel_rfl) (fun _ _ _ h => h) (Or.inl ⟨by rfl, (by intro w' hSw; obtain ⟨s1, s2, s3, s4⟩ := unhide HCE w' hSw; go_simp)⟩) (unhide HSY) ?_
  go_simp
  have HC := hide (reg_any Y 0)
  unfold opV rgO at HC
  refine wpAnyH_ready (rs := [2]) (by kernel_rfl) (by simp) ?_
  refine AllReadyH.cons (o := _) rfl (fun K hK => ?_) AllReadyH.nil
  go_simp
  refine (unhide HC).mono ?_
  rintro e Y2 ⟨rfl, b2⟩
  have HSY2 : Hid (Below Y.heap.size Y Y2) := (unhide HSY).trans (b2.mono (unhide HSY).size)
  clear b2 HC
  refine hK.out _ _ (unhide HSY2) (fun _ => ?_)
  clear hK K
  go_simp
  refine wpAnyH_ready (rs := [3]) (by kernel_rfl) (by simp) ?_
  refine AllReadyH.cons (o := _) rfl (fun K hK => ?_) AllReadyH.nil
  go_simp
  have HSY2a : Hid (Below Y.heap.size Y (Y2.alloc (.cells #[.int .i64 0, .int .i64 0] 52))) := (unhide HSY2).alloc (unhide HSY2).size _
  refine hK.out _ _ (unhide HSY2a) (fun _ => ?_)
  clear hK K
  go_simp
  have HC := hide (sameO_yes (w := Y2.alloc (.cells #[.int .i64 0, .int .i64 0] 52)) (l := [⟨0, 0⟩]) (av := .slice aa 1 ac) (bv := .slice (some ⟨Y2.heap.size, 0, none⟩) 1 1) ((unhide HA7).below (bl_past (unhide HB6) (unhide HSY2a)) (Nat.le_refl _)) (Rx.box (n := 1) (heap_alloc_new Y2 (.cells #[.int .i64 0, .int .i64 0] 52)) rfl (by unfold maxLen; omega)) (by simp))
  refine wpAnyH_ready (rs := [4]) (by kernel_rfl) (by simp) ?_
  refine AllReadyH.cons (o := _) rfl (fun K hK => ?_) AllReadyH.nil
  go_simp
  refine (unhide HC).mono ?_
  rintro e Y3 ⟨rfl, b2⟩
  have HSY3 : Hid (Below Y.heap.size Y Y3) := (unhide HSY2a).trans (b2.mono (unhide HSY2a).size)
  clear b2 HC
  refine hK.out _ _ (unhide HSY3) (fun _ => ?_)
  clear hK K
  go_simp
  refine wpAnyH_take (i := 5) (oi := _) (v := .bool true) rfl (by kernel_rfl) (by kernel_rfl) (by kernel_rfl) (fun _ _ _ h => h) (Or.inl ⟨by rfl, (by intro w' hSw; obtain ⟨s1, s2, s3, s4⟩ := unhide HCE w' hSw; go_simp)⟩) (unhide HSY3) ?_
  go_simp
  refine wpAnyH_take (i := 6) (oi := _) (v := .pointer (some ⟨w5.heap.size + 1 + 1, 3, none⟩)) rfl (by kernel_rfl) (by kernel_rfl) (by kernel_rfl) (fun _ _ _ h => h) (Or.inl ⟨by rfl, (by intro w' hSw; obtain ⟨s1, s2, s3, s4⟩ := unhide HCE w' hSw; go_simp)⟩) (unhide HSY3) ?_
  go_simp
  refine wpAnyH_take (i := 7) (oi := _) (v := .slice ba 1 bc) rfl (by kernel_rfl) (by kernel_rfl) (by kernel_rfl) (fun _ _ _ h => h) (Or.inl ⟨by rfl, (by intro w' hSw; obtain ⟨s1, s2, s3, s4⟩ := unhide HCE w' hSw; go_simp)⟩) (unhide HSY3) ?_
  go_simp
  have HC := hide (reg_any Y3 0)
  unfold opV rgO at HC
  refine wpAnyH_ready (rs := [8]) (by kernel_rfl) (by simp) ?_
  refine AllReadyH.cons (o := _) rfl (fun K hK => ?_) AllReadyH.nil
  go_simp
  refine (unhide HC).mono ?_
  rintro e Y4 ⟨rfl, b2⟩
  have HSY4 : Hid (Below Y.heap.size Y Y4) := (unhide HSY3).trans (b2.mono (unhide HSY3).size)
  clear b2 HC
  refine hK.out _ _ (unhide HSY4) (fun _ => ?_)
  clear hK K
  go_simp
  refine wpAnyH_ready (rs := [9]) (by kernel_rfl) (by simp) ?_
  refine AllReadyH.cons (o := _) rfl (fun K hK => ?_) AllReadyH.nil
  go_simp
  have HSY4a : Hid (Below Y.heap.size Y (Y4.alloc (.cells #[.int .i64 0, .int .i64 0] 52))) := (unhide HSY4).alloc (unhide HSY4).size _
  refine hK.out _ _ (unhide HSY4a) (fun _ => ?_)
  clear hK K
  go_simp
  have HC := hide (sameO_yes (w := Y4.alloc (.cells #[.int .i64 0, .int .i64 0] 52)) (l := [⟨0, 0⟩]) (av := .slice ba 1 bc) (bv := .slice (some ⟨Y4.heap.size, 0, none⟩) 1 1) ((unhide HB7).below (bl_past (unhide HB6) (unhide HSY4a)) (Nat.le_refl _)) (Rx.box (n := 1) (heap_alloc_new Y4 (.cells #[.int .i64 0, .int .i64 0] 52)) rfl (by unfold maxLen; omega)) (by simp))
  refine wpAnyH_ready (rs := [10]) (by kernel_rfl) (by simp) ?_
  refine AllReadyH.cons (o := _) rfl (fun K hK => ?_) AllReadyH.nil
  go_simp
  refine (unhide HC).mono ?_
  rintro e Y5 ⟨rfl, b2⟩
  have HSY5 : Hid (Below Y.heap.size Y Y5) := (unhide HSY4a).trans (b2.mono (unhide HSY4a).size)
  clear b2 HC
  refine hK.out _ _ (unhide HSY5) (fun _ => ?_)
  clear hK K
  go_simp
  refine wpAnyH_take (i := 11) (oi := _) (v := .bool true) rfl (by kernel_rfl) (by kernel_rfl) (by kernel_rfl) (fun _ _ _ h => h) (Or.inl ⟨by rfl, (by intro w' hSw; obtain ⟨s1, s2, s3, s4⟩ := unhide HCE w' hSw; go_simp)⟩) (unhide HSY5) ?_
  go_simp
  refine wpAnyH_take (i := 12) (oi := _) (v := .bool true) rfl (by kernel_rfl) (by kernel_rfl) (by kernel_rfl) (fun _ _ _ h => h) (Or.inl ⟨by rfl, (by intro w' hSw; obtain ⟨s1, s2, s3, s4⟩ := unhide HCE w' hSw; go_simp)⟩) (unhide HSY5) ?_
  go_simp
  refine wpAnyH_take (i := 13) (oi := _) (v := .pointer (some ⟨w5.heap.size + 1, 2, none⟩)) rfl (by kernel_rfl) (by kernel_rfl) (by kernel_rfl) (fun _ _ _ h => h) (Or.inl ⟨by rfl, (by intro w' hSw; obtain ⟨s1, s2, s3, s4⟩ := unhide HCE w' hSw; go_simp)⟩) (unhide HSY5) ?_
  go_simp
  refine wpAnyH_take (i := 14) (oi := _) (v := .int .i64 1) rfl (by kernel_rfl) (by kernel_rfl) (by kernel_rfl) (fun _ _ _ h => h) (Or.inl ⟨by rfl, (by intro w' hSw; obtain ⟨s1, s2, s3, s4⟩ := unhide HCE w' hSw; go_simp)⟩) (unhide HSY5) ?_
  go_simp
  refine wpAnyH_take (i := 15) (oi := _) (v := .bool true) rfl (by kernel_rfl) (by kernel_rfl) (by kernel_rfl) (fun _ _ _ h => h) (Or.inl ⟨by rfl, (by intro w' hSw; obtain ⟨s1, s2, s3, s4⟩ := unhide HCE w' hSw; go_simp)⟩) (unhide HSY5) ?_
  go_simp
  refine wpAnyH_take (i := 16) (oi := _) (v := .bool true) rfl (by kernel_rfl) (by kernel_rfl) (by kernel_rfl) (fun _ _ _ h => h) (Or.inl ⟨by rfl, (by intro w' hSw; obtain ⟨s1, s2, s3, s4⟩ := unhide HCE w' hSw; go_simp)⟩) (unhide HSY5) ?_
  go_simp
  refine wpAnyH_take (i := 17) (oi := _) (v := .bool true) rfl (by kernel_rfl) (by kernel_rfl) (by kernel_rfl) (fun _ _ _ h => h) (Or.inl ⟨by rfl, (by intro w' hSw; obtain ⟨s1, s2, s3, s4⟩ := unhide HCE w' hSw; go_simp)⟩) (unhide HSY5) ?_
  go_simp
  refine wpAnyH_take (i := 18) (oi := _) (v := .pointer (some ⟨w5.heap.size + 1 + 1, 2, none⟩)) rfl (by kernel_rfl) (by kernel_rfl) (by kernel_rfl) (fun _ _ _ h => h) (Or.inl ⟨by rfl, (by intro w' hSw; obtain ⟨s1, s2, s3, s4⟩ := unhide HCE w' hSw; go_simp)⟩) (unhide HSY5) ?_
  go_simp
  refine wpAnyH_take (i := 19) (oi := _) (v := .int .i64 2) rfl (by kernel_rfl) (by kernel_rfl) (by kernel_rfl) (fun _ _ _ h => h) (Or.inl ⟨by rfl, (by intro w' hSw; obtain ⟨s1, s2, s3, s4⟩ := unhide HCE w' hSw; go_simp)⟩) (unhide HSY5) ?_
  go_simp
  refine wpAnyH_take (i := 20) (oi := _) (v := .bool true) rfl (by kernel_rfl) (by kernel_rfl) (by kernel_rfl) (fun _ _ _ h => h) (Or.inl ⟨by rfl, (by intro w' hSw; obtain ⟨s1, s2, s3, s4⟩ := unhide HCE w' hSw; go_simp)⟩) (unhide HSY5) ?_
  go_simp
  refine wpAnyH_take (i := 21) (oi := _) (v := .bool true) rfl (by kernel_rfl) (by kernel_rfl) (by kernel_rfl) (fun _ _ _ h => h) (Or.inl ⟨by rfl, (by intro w' hSw; obtain ⟨s1, s2, s3, s4⟩ := unhide HCE w' hSw; go_simp)⟩) (unhide HSY5) ?_
  go_simp
  refine wpAnyH_ready (rs := [22]) (by kernel_rfl) (by simp) ?_
  refine AllReadyH.cons (o := _) rfl (fun K hK => ?_) AllReadyH.nil
  go_simp
  refine hK.out _ _ (unhide HSY5) (fun _ => ?_)
  clear hK K
  go_simp
  refine wpAnyH_done (by kernel_rfl) ?_ _
  have HF := hide (bl_past (bl_past (unhide HB5) (unhide HB6)) (unhide HSY5))
  go_wp2_with fail
  go_ret
  exact ⟨rfl, unhide HF⟩
end Go.Proofs.Ytpbdpejhjdoleaa
