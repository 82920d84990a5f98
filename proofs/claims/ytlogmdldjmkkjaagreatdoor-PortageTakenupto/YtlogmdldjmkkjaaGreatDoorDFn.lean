/-
  readFunc.
-/
import Derived.Test.YtlogmdldjmkkjaaGreatDoorDRd
import Derived.Test.YtlogmdldjmkkjaaGreatDoorPRow
import Derived.Deep.RegionHeld3
namespace Go.Proofs.YtlogmdldjmkkjaaGreatDoor
open Go.RowKit
set_option linter.unusedVariables false
set_option linter.unusedSimpArgs false

/-- A box of n cells. -/
def Bx (w : World) (n b : Nat) (l : List Value) : Prop := Ro w n (.slice (some ⟨b, 0, none⟩) 1 1) 1 l
theorem Bx.new {w : World} {n : Nat} {arr : Array Value} {t : TypeId} (h : arr.size = n) {b : Nat} (hb : w.heap.size = b) : Bx (w.alloc (.cells arr t)) n b arr.toList := by
  subst hb
  refine ⟨by simp [h], .inr ⟨w.heap.size, 0, 1, arr, t, rfl, heap_alloc_new w _, Nat.le_refl _, by unfold maxLen; omega, by omega, fun j hj => ?_⟩⟩
  rw [Nat.zero_add]; simp
theorem Bx.set {w : World} {n b j : Nat} {l : List Value} (h : Bx w n b l) (hj : j < n) (u : Value) : Bx (w.setCell ⟨b, j, none⟩ u) n b (l.set j u) := by
  have hl := h.1
  refine (h.sets (v := .slice (some ⟨b, 0, none⟩) 1 1) rfl (o := j) (m := 1) (vs := [u]) (ys := l.set j u) (by omega) (by simp; omega) (Nat.le_refl _) (by rw [List.length_set]; exact hl) (fun t ht => ?_) (fun t ht q => by omega)).1
  by_cases q : t = j
  · subst q; rw [if_pos (by simp), List.getElem?_set_self (by omega)]; simp
  · rw [if_neg (by simp; omega), List.getElem?_set_ne (by omega)]
theorem Bx.fr {S : Nat → Prop} {w w' : World} {n b : Nat} {l : List Value} (h : Bx w n b l) (f : Fr S w w') (hn : ¬ S b) : Bx w' n b l := Ro.fr h f (fun k hk => by cases hk; exact hn)
theorem Bx.cell {w : World} {n b j : Nat} {l : List Value} {u : Value} (h : Bx w n b l) (hu : l[j]? = some u) : w.cell? ⟨b, j, none⟩ = some u := by
  have hl := h.1
  have hj := (List.getElem?_eq_some_iff.1 hu).1
  obtain ⟨g, off, cap, e, _, _, _, hc⟩ := Ro.full h (by omega)
  cases e
  have := hc j (by omega)
  rwa [Nat.zero_add, hu] at this
theorem Bx.free {w : World} {n b : Nat} {l : List Value} (h : Bx w n b l) (j : Nat) : w.frozen? ⟨b, j, none⟩ = false := Ro.free h rfl j
theorem Bx.lt {w : World} {n b : Nat} {l : List Value} (h : Bx w n b l) : b < w.heap.size := Ro.lt h b rfl

theorem Fr.stepw {S T : Nat → Prop} {a b c : World} (h : Fr S a b) (k : Fr T b c) (hs : ∀ i, i < a.heap.size → T i → S i) : Fr S a c :=
  ⟨k.os.trans h.os, k.tape.trans h.tape, k.output.trans h.output, Nat.le_trans h.size k.size, fun i hi hn => (k.block i (Nat.lt_of_lt_of_le hi h.size) (fun q => hn (hs i hi q))).trans (h.block i hi hn)⟩
theorem fr_set (w : World) (b j : Nat) (u : Value) : Fr (fun k => k = b) w (w.setCell ⟨b, j, none⟩ u) := (Fr.refl (fun k => k = b) w).setCell ⟨b, j, none⟩ (.inr rfl) u
theorem results_ct {fn : Func} {p q : Tmp} {t1 : TypeId} (h : fn.results = #[.cell p t1, .tmp q]) (tmps : Array Value) (P : Program) (w : World) {a1 : Addr} {v1 : Value} (e1 : tmps[p]?.getD undef = .pointer (some a1)) (l1 : (loadVar t1 a1).run P w = .ok v1 w) :
    (results fn tmps).run P w = .ok (.tuple #[v1, tmps.getD q undef]) w := by
  simp [results, h, Sem.run_bind, Result.andThen, e1, asAddr, l1]
theorem load98 {w : World} {b : Nat} {x y u v : Value} (h : Bx w 4 b [x, y, u, v]) : (loadVar 112 ⟨b, 0, none⟩).run Tryz.prog w = .ok (.agg #[x, y, u, v]) w := by
  have c0 := h.cell (j := 0) rfl
  have c1 := h.cell (j := 1) rfl
  have c2 := h.cell (j := 2) rfl
  have c3 := h.cell (j := 3) rfl
  go_simp
/-- A handler, as it is read. -/
def rdH (s : Sr) : Hd × Sr :=
  let a := cnt 2000 s; let b := cnt 2000 a.2; let c := cnt 2000 b.2; let d := cnt 64 c.2
  (⟨(a.1 : Int), b.1, c.1, d.1⟩, d.2)
set_option maxRecDepth 100000 in
set_option maxHeartbeats 1600000 in
theorem rdH_any {w : World} {r rb : Nat} {s : Sr} (h : RS w r rb s) (hrb : rb < w.heap.size) : Calls Tryz.prog 142 #[.pointer (some ⟨r, 0, none⟩)] w fun e w' => RQ r rb w (.tuple #[.agg #[.int .i64 (rdH s).1.frm, .int .i64 (rdH s).1.to, .int .i64 (rdH s).1.target, .int .i64 (rdH s).1.height], .int .i64 (rdH s).2.2]) (rdH s).2 e w' := by
  obtain ⟨z, hz⟩ : ∃ z, Hid (rdH s = z) := ⟨_, rfl⟩
  rw [unhide hz]
  unfold rdH at hz
  simp only at hz
  have H1 := hide (fun (wx : World) (hx : RS wx r rb s) => cnt_any hx 2000 (by omega))
  generalize cnt 2000 s = a at *
  have H2 := hide (fun (wx : World) (hx : RS wx r rb a.2) => cnt_any hx 2000 (by omega))
  generalize cnt 2000 a.2 = b at *
  have H3 := hide (fun (wx : World) (hx : RS wx r rb b.2) => cnt_any hx 2000 (by omega))
  generalize cnt 2000 b.2 = c at *
  have H4 := hide (fun (wx : World) (hx : RS wx r rb c.2) => cnt_any hx 64 (by omega))
  generalize cnt 64 c.2 = d at *
  have hr := h.lt
  have HR := hide h
  have HRB := hide hrb
  obtain ⟨W1, eW1⟩ : ∃ W1, Hid (W1 = (w.alloc (.cells #[.int .i64 0, .int .i64 0, .int .i64 0, .int .i64 0] 112)).alloc (.cells #[.int .i64 0, .int .i64 0, .int .i64 0, .int .i64 0] 112)) := ⟨_, rfl⟩
  have f1 : Fr (fun k => k = r) w W1 := by rw [unhide eW1]; exact ((Fr.refl _ w).alloc _).alloc _
  have hs1 : W1.heap.size = w.heap.size + 2 := by rw [unhide eW1]; simp
  have HB : Hid (Bx W1 4 (w.heap.size + 1) [.int .i64 0, .int .i64 0, .int .i64 0, .int .i64 0]) := by rw [unhide eW1]; exact Bx.new rfl (by simp)
  have HA : Hid (Bx W1 4 w.heap.size [.int .i64 0, .int .i64 0, .int .i64 0, .int .i64 0]) := by rw [unhide eW1]; exact (Bx.new rfl rfl).fr (S := fun _ => False) ((Fr.refl _ _).alloc _) (fun e => e)
  have HF : Hid (RFr r w W1) := f1
  have HS : Hid (RS W1 r rb s) := h.fr (S := fun _ => False) (by rw [unhide eW1]; exact ((Fr.refl _ w).alloc _).alloc _) (fun e => e) (fun e => e)
  clear f1 hs1 h hrb
  go_enter Tryz.func142, Tryz.ntmps142
  go_wp2_with fail
  rw [← unhide eW1]
  clear eW1
  refine (unhide H1 W1 (unhide HS)).mono ?_
  rintro e X2 ⟨rfl, hs, hf⟩
  have hb := (unhide HB).fr hf (by omega)
  have ha := (unhide HA).fr hf (by omega)
  have c0 := hb.cell (j := 0) rfl
  have z0 := hb.free 0
  obtain ⟨W2, eW2⟩ : ∃ W2, Hid (W2 = X2.setCell ⟨w.heap.size + 1, 0, none⟩ (.int .i64 (a.1 : Int))) := ⟨_, rfl⟩
  have g : Fr (fun k => k = w.heap.size + 1) X2 W2 := by rw [unhide eW2]; exact fr_set _ _ _ _
  have HB : Hid (Bx W2 4 (w.heap.size + 1) [.int .i64 (a.1 : Int), .int .i64 0, .int .i64 0, .int .i64 0]) := by rw [unhide eW2]; exact hb.set (by omega) _
  have HA : Hid (Bx W2 4 w.heap.size [.int .i64 0, .int .i64 0, .int .i64 0, .int .i64 0]) := ha.fr g (by omega)
  have HS : Hid (RS W2 r rb a.2) := hs.fr g (by omega) (by have := unhide HRB; omega)
  have HF : Hid (RFr r w W2) := by rw [unhide eW2]; exact ((unhide HF).trans hf).setCell _ (.inl (by show w.heap.size ≤ w.heap.size + 1; omega)) _
  clear hs hf hb ha g
  go_wp2_with fail
  rw [← unhide eW2]
  clear eW2 c0 z0
  refine (unhide H2 W2 (unhide HS)).mono ?_
  rintro e X3 ⟨rfl, hs, hf⟩
  have hb := (unhide HB).fr hf (by omega)
  have ha := (unhide HA).fr hf (by omega)
  have c1 := hb.cell (j := 1) rfl
  have z1 := hb.free 1
  obtain ⟨W3, eW3⟩ : ∃ W3, Hid (W3 = X3.setCell ⟨w.heap.size + 1, 1, none⟩ (.int .i64 (b.1 : Int))) := ⟨_, rfl⟩
  have g : Fr (fun k => k = w.heap.size + 1) X3 W3 := by rw [unhide eW3]; exact fr_set _ _ _ _
  have HB : Hid (Bx W3 4 (w.heap.size + 1) [.int .i64 (a.1 : Int), .int .i64 (b.1 : Int), .int .i64 0, .int .i64 0]) := by rw [unhide eW3]; exact hb.set (by omega) _
  have HA : Hid (Bx W3 4 w.heap.size [.int .i64 0, .int .i64 0, .int .i64 0, .int .i64 0]) := ha.fr g (by omega)
  have HS : Hid (RS W3 r rb b.2) := hs.fr g (by omega) (by have := unhide HRB; omega)
  have HF : Hid (RFr r w W3) := by rw [unhide eW3]; exact ((unhide HF).trans hf).setCell _ (.inl (by show w.heap.size ≤ w.heap.size + 1; omega)) _
  clear hs hf hb ha g
  go_wp2_with fail
  rw [← unhide eW3]
  clear eW3 c1 z1
  refine (unhide H3 W3 (unhide HS)).mono ?_
  rintro e X4 ⟨rfl, hs, hf⟩
  have hb := (unhide HB).fr hf (by omega)
  have ha := (unhide HA).fr hf (by omega)
  have c2 := hb.cell (j := 2) rfl
  have z2 := hb.free 2
  obtain ⟨W4, eW4⟩ : ∃ W4, Hid (W4 = X4.setCell ⟨w.heap.size + 1, 2, none⟩ (.int .i64 (c.1 : Int))) := ⟨_, rfl⟩
  have g : Fr (fun k => k = w.heap.size + 1) X4 W4 := by rw [unhide eW4]; exact fr_set _ _ _ _
  have HB : Hid (Bx W4 4 (w.heap.size + 1) [.int .i64 (a.1 : Int), .int .i64 (b.1 : Int), .int .i64 (c.1 : Int), .int .i64 0]) := by rw [unhide eW4]; exact hb.set (by omega) _
  have HA : Hid (Bx W4 4 w.heap.size [.int .i64 0, .int .i64 0, .int .i64 0, .int .i64 0]) := ha.fr g (by omega)
  have HS : Hid (RS W4 r rb c.2) := hs.fr g (by omega) (by have := unhide HRB; omega)
  have HF : Hid (RFr r w W4) := by rw [unhide eW4]; exact ((unhide HF).trans hf).setCell _ (.inl (by show w.heap.size ≤ w.heap.size + 1; omega)) _
  clear hs hf hb ha g
  go_wp2_with fail
  rw [← unhide eW4]
  clear eW4 c2 z2
  refine (unhide H4 W4 (unhide HS)).mono ?_
  rintro e X5 ⟨rfl, hs, hf⟩
  have hb := (unhide HB).fr hf (by omega)
  have ha := (unhide HA).fr hf (by omega)
  have c3 := hb.cell (j := 3) rfl
  have z3 := hb.free 3
  obtain ⟨W5, eW5⟩ : ∃ W5, Hid (W5 = X5.setCell ⟨w.heap.size + 1, 3, none⟩ (.int .i64 (d.1 : Int))) := ⟨_, rfl⟩
  have g : Fr (fun k => k = w.heap.size + 1) X5 W5 := by rw [unhide eW5]; exact fr_set _ _ _ _
  have HB : Hid (Bx W5 4 (w.heap.size + 1) [.int .i64 (a.1 : Int), .int .i64 (b.1 : Int), .int .i64 (c.1 : Int), .int .i64 (d.1 : Int)]) := by rw [unhide eW5]; exact hb.set (by omega) _
  have HA : Hid (Bx W5 4 w.heap.size [.int .i64 0, .int .i64 0, .int .i64 0, .int .i64 0]) := ha.fr g (by omega)
  have HS : Hid (RS W5 r rb d.2) := hs.fr g (by omega) (by have := unhide HRB; omega)
  have HF : Hid (RFr r w W5) := by rw [unhide eW5]; exact ((unhide HF).trans hf).setCell _ (.inl (by show w.heap.size ≤ w.heap.size + 1; omega)) _
  clear hs hf hb ha g
  go_wp2_with fail
  rw [← unhide eW5]
  clear eW5 c3 z3
  have SS : Bx W5 4 (w.heap.size + 1) [.int .i64 (a.1 : Int), .int .i64 (b.1 : Int), .int .i64 (c.1 : Int), .int .i64 (d.1 : Int)] ∧ (∃ x0 x1 x2 x3, Bx W5 4 w.heap.size [x0, x1, x2, x3]) := ⟨unhide HB, _, _, _, _, unhide HA⟩
  refine wp_region_held_drew (S := fun wx => Bx wx 4 (w.heap.size + 1) [.int .i64 (a.1 : Int), .int .i64 (b.1 : Int), .int .i64 (c.1 : Int), .int .i64 (d.1 : Int)] ∧ (∃ x0 x1 x2 x3, Bx wx 4 w.heap.size [x0, x1, x2, x3])) (by kernel_rfl) SS (fun hHeld => ?_)
  refine wpAnyH_take (i := 0) (oi := _) (v := .agg #[.int .i64 (a.1 : Int), .int .i64 (b.1 : Int), .int .i64 (c.1 : Int), .int .i64 (d.1 : Int)]) rfl (by kernel_rfl) (by kernel_rfl) (by kernel_rfl) (fun _ _ _ h => h) (Or.inl ⟨by rfl, (by intro wx hSw; have c0 := hSw.1.cell (j := 0) rfl; have c1 := hSw.1.cell (j := 1) rfl; have c2 := hSw.1.cell (j := 2) rfl; have c3 := hSw.1.cell (j := 3) rfl; clear hSw; go_simp)⟩) (by assumption) ?_
  refine wpAnyH_take (i := 1) (oi := _) (v := .pointer (some ⟨r, 0, none⟩)) rfl (by kernel_rfl) (by kernel_rfl) (by kernel_rfl) (fun _ _ _ h => h) (Or.inl ⟨by rfl, (by intro wx hSw; go_simp)⟩) (by assumption) ?_
  go_simp
  refine wpAnyH_ready (rs := [2]) (by kernel_rfl) (by simp) ?_
  refine AllReadyH.cons (o := _) rfl (fun K hK => ?_) AllReadyH.nil
  go_simp
  refine (err_any (w := W5.drew) ((unhide HS).fr (S := fun _ => False) (Fr.refl _ W5).drew (fun e => e) (fun e => e))).mono ?_
  rintro e w6 ⟨rfl, rfl⟩
  go_simp
  refine hK.out _ _ SS (fun hHeld1 => ?_)
  clear hK K
  refine wpAnyH_ready (rs := [3]) (by kernel_rfl) (by simp) ?_
  refine AllReadyH.cons (o := _) rfl (fun K2 hK2 => ?_) AllReadyH.nil
  have k0 := (unhide HA).cell (j := 0) rfl
  have k1 := (unhide HA).cell (j := 1) rfl
  have k2 := (unhide HA).cell (j := 2) rfl
  have k3 := (unhide HA).cell (j := 3) rfl
  have y0 := (unhide HA).free 0
  have y1 := (unhide HA).free 1
  have y2 := (unhide HA).free 2
  have y3 := (unhide HA).free 3
  go_simp
  obtain ⟨W6, eW6⟩ : ∃ W6, Hid (W6 = ((((W5.setCell ⟨w.heap.size, 0, none⟩ (.int .i64 (a.1 : Int))).setCell ⟨w.heap.size, 1, none⟩ (.int .i64 (b.1 : Int))).setCell ⟨w.heap.size, 2, none⟩ (.int .i64 (c.1 : Int))).setCell ⟨w.heap.size, 3, none⟩ (.int .i64 (d.1 : Int))).drew) := ⟨_, rfl⟩
  have g : Fr (fun k => k = w.heap.size) W5 W6 := by rw [unhide eW6]; exact ((((((Fr.refl (fun k => k = w.heap.size) W5).setCell ⟨w.heap.size, 0, none⟩ (.inr rfl) _).setCell ⟨w.heap.size, 1, none⟩ (.inr rfl) _).setCell ⟨w.heap.size, 2, none⟩ (.inr rfl) _).setCell ⟨w.heap.size, 3, none⟩ (.inr rfl) _).drew)
  have hA6 : Bx W6 4 w.heap.size [.int .i64 (a.1 : Int), .int .i64 (b.1 : Int), .int .i64 (c.1 : Int), .int .i64 (d.1 : Int)] := by
    rw [unhide eW6]
    exact (((((unhide HA).set (j := 0) (by omega) (.int .i64 (a.1 : Int))).set (j := 1) (by omega) (.int .i64 (b.1 : Int))).set (j := 2) (by omega) (.int .i64 (c.1 : Int))).set (j := 3) (by omega) (.int .i64 (d.1 : Int))).fr (S := fun _ => False) (Fr.refl _ _).drew (fun e => e)
  have hB6 := (unhide HB).fr g (by omega)
  have HS6 : Hid (RS W6 r rb d.2) := (unhide HS).fr g (by omega) (by have := unhide HRB; omega)
  have HF6 : Hid (RFr r w W6) := by
    rw [unhide eW6]
    exact (((((unhide HF).setCell ⟨w.heap.size, 0, none⟩ (.inl (Nat.le_refl _)) _).setCell ⟨w.heap.size, 1, none⟩ (.inl (Nat.le_refl _)) _).setCell ⟨w.heap.size, 2, none⟩ (.inl (Nat.le_refl _)) _).setCell ⟨w.heap.size, 3, none⟩ (.inl (Nat.le_refl _)) _).drew
  rw [← unhide eW6]
  have HA6 := hide hA6
  refine hK2.out _ _ ⟨hB6, _, _, _, _, hA6⟩ (fun hHeld2 => ?_)
  clear hK2 K2 k0 k1 k2 k3 y0 y1 y2 y3 g hA6 hB6 eW6
  refine wpAnyH_take (i := 4) (oi := _) (v := .int .i64 d.2.2) rfl (by kernel_rfl) (by kernel_rfl) (by kernel_rfl) (fun _ _ _ h => h) (Or.inl ⟨by rfl, (by intro wx hSw; go_simp)⟩) (by assumption) ?_
  refine wpAnyH_done (by kernel_rfl) ?_ _
  clear hHeld hHeld1 hHeld2 SS
  go_wp2_with fail
  refine bodyPost_ret (v := .tuple #[.agg #[.int .i64 (a.1 : Int), .int .i64 (b.1 : Int), .int .i64 (c.1 : Int), .int .i64 (d.1 : Int)], .int .i64 d.2.2]) (by rw [results_ct (fn := Tryz.f142) (p := 2) (q := 3) (t1 := 112) rfl _ _ _ (a1 := ⟨w.heap.size, 0, none⟩) rfl (load98 (unhide HA6))]; rfl) rfl ?_
  rw [← unhide hz]
  exact ⟨rfl, unhide HS6, unhide HF6⟩

set_option linter.unusedVariables false
set_option linter.unusedSimpArgs false

/-- Things one behind the other, up to the first error. -/
def lp {T : Type} (rd : Sr → T × Int × Sr) : Nat → List T → Sr → List T × Int × Sr
  | 0, acc, s => (acc, s.2, s)
  | n + 1, acc, s => if (rd s).2.1 ≠ 0 then ([], (rd s).2.1, (rd s).2.2) else lp rd n (acc ++ [(rd s).1]) (rd s).2.2
def rdL {T : Type} (rd : Sr → T × Int × Sr) (most : Int) (s : Sr) : List T × Int × Sr := lp rd (cnt most s).1 [] (cnt most s).2
def rdH1 (s : Sr) : Hd × Int × Sr := ((rdH s).1, (rdH s).2.2, (rdH s).2)
/-- A list of one's own that grows. -/
def LG {T : Type} (w : World) (sz : Nat) (en : T → List Value) (acc : List T) (lv : Value) (wr : World) : Prop := Ro wr sz lv acc.length (flt en acc) ∧ ∀ k, lv.ownBlock = some k → w.heap.size ≤ k
theorem LG.push {T : Type} {w wr w' : World} {sz : Nat} {en : T → List Value} {l : List T} {v v' : Value} {p : T} {m : Nat} (h : LG w sz en l v wr) (hw : w.heap.size ≤ wr.heap.size) (hr : Ro w' sz v' m (flt en l ++ en p)) (hm : m = l.length + 1) {N : Nat} (hN : w.heap.size ≤ N) (hat : v'.ownBlock = v.ownBlock ∨ v'.ownBlock = some N) : LG w sz en (l ++ [p]) v' w' := by
  subst hm
  refine ⟨by rw [List.length_append, flt_append, flt_one]; exact hr, fun k hk => ?_⟩
  rcases hat with q | q
  · exact h.2 k (q ▸ hk)
  · rw [q] at hk; cases hk; exact hN
theorem LG.fr {T : Type} {S : Nat → Prop} {w wr w' : World} {sz : Nat} {en : T → List Value} {l : List T} {v : Value} (h : LG w sz en l v wr) (f : Fr S wr w') (hn : ∀ k, w.heap.size ≤ k → ¬ S k) : LG w sz en l v w' := ⟨h.1.fr f (fun k hk => hn k (h.2 k hk)), h.2⟩
theorem Tryz.info112 : (Tryz.prog.info? 112).map (fun i => (i.zero, i.size, i.bytes)) = some (some (.agg #[.int .i64 0, .int .i64 0, .int .i64 0, .int .i64 0]), 4, 32) := by kernel_rfl
theorem wpList_appHd {w : World} {ops : Array Oper} {rest : List Oper} {o : Oper} {a : Act} {Q : Exit → Act → World → Prop}
    (hg : o.guard = none) (s x : Operand) (hop : o.op = Op.call { callee := Callee.builtin Builtin.append, args := #[s, x], argTypes := #[71, 71] })
    (v : Value) (n : Nat) (l : List Value) (hs : a.eval s = v) (hr : Ro w 4 v n l) (ad : Addr) (c : Nat) (k : Hd) (hx : a.eval x = .slice (some ad) 1 c) (hc : ∀ j u, (enH k)[j]? = some u → w.cell? (ad.add j) = some u)
    (hN : n < 1000000000)
    (hK : ∀ v' w', Ro w' 4 v' (n + 1) (l ++ enH k) → w.grownBy w' v.ownBlock → (v'.ownBlock = v.ownBlock ∨ v'.ownBlock = some w.heap.size) → wpList Tryz.prog ops Q rest (a.put o.dst v') w') :
    wpList Tryz.prog ops Q (o :: rest) a w := by
  obtain ⟨i0, hi0, hz0, hz1, hz2⟩ := info_parts Tryz.info112
  exact wpList_app hg s x 71 hop 112 i0 _ 4 32 Tryz.underlying71 hi0 hz0 hz1 hz2 rfl (by decide) v n l hs hr ad 1 c (enH k) hx rfl hc (by intro u hu; simp only [enH, List.mem_cons, List.not_mem_nil, or_false] at hu; rcases hu with rfl | rfl | rfl | rfl <;> rfl) (by omega) (by unfold maxLen; omega) (by omega) hK

set_option maxRecDepth 100000 in
set_option maxHeartbeats 3200000 in
theorem rdLH_any {w : World} {r rb : Nat} {s : Sr} (h : RS w r rb s) (hrb : rb < w.heap.size) (most : Int) (hm : most ≤ 100000) : Calls Tryz.prog 141 #[.pointer (some ⟨r, 0, none⟩), .int .i64 most, .func (Fn.func 142) #[] #[]] w fun e w' => ∃ la ln lc, RQ r rb w (.tuple #[.slice la ln lc, .int .i64 (rdL rdH1 most s).2.1]) (rdL rdH1 most s).2.2 e w' ∧ ((rdL rdH1 most s).2.1 = 0 → LG w 4 enH (rdL rdH1 most s).1 (.slice la ln lc) w') := by
  obtain ⟨z, hz⟩ : ∃ z, Hid (rdL rdH1 most s = z) := ⟨_, rfl⟩
  rw [unhide hz]
  unfold rdL at hz
  have H1 := hide (cnt_any h most (by omega))
  have hle := cnt_le most s
  generalize hcn : cnt most s = a at *
  obtain ⟨n, s1⟩ := a
  simp only at hz H1 hle
  have hn : n ≤ 100000 := by omega
  have hr := h.lt
  have HRB := hide hrb
  have HRL := hide hr
  clear hcn h hrb hle
  go_enter Tryz.func141, Tryz.ntmps141
  go_wp2_with fail
  refine (unhide H1).mono ?_
  rintro e W1 ⟨rfl, hs1, hf1⟩
  have HS1 := hide hs1
  have HF1 := hide hf1
  have HG1 : Hid (LG w 4 enH ([] : List Hd) (.slice none 0 0) W1) := ⟨by simpa [flt] using Ro.nil _ _, by simp [Value.ownBlock]⟩
  clear hs1 hf1 H1
  go_wp2_with fail
  go_loopg [8, 14] n (fun gg t8 t14 wr => ∃ (i : Nat) (acc : List Hd) (s : Sr), Hid (i + gg = n) ∧ t14 = .int .i64 (i : Int) ∧ Hid (acc.length = i) ∧ Hid (lp rdH1 gg acc s = z) ∧ Hid (LG w 4 enH acc t8 wr) ∧ Hid (RS wr r rb s) ∧ Hid (RFr r w wr))
  case atStart => exact ⟨0, [], s1, by unfold Hid; omega, rfl, rfl, hz, HG1, HS1, HF1⟩
  case round =>
    obtain ⟨i, acc, s, hi, rfl, hal, hl, hG, hS, hF⟩ := hrel
    by_cases hlt : i < n
    · obtain ⟨g, rfl⟩ : ∃ g, gk = g + 1 := ⟨gk - 1, by have := unhide hi; omega⟩
      have hl2 := unhide hl
      rw [lp] at hl2
      have hwr : Hid (w.heap.size ≤ wr.heap.size) := (unhide hF).size
      have HH := hide (rdH_any (unhide hS) (by have := unhide HRB; have := unhide hwr; omega))
      have e1 : rdH1 s = ((rdH s).1, (rdH s).2.2, (rdH s).2) := rfl
      rw [e1] at hl2
      obtain ⟨q, hq⟩ : ∃ q, rdH s = q := ⟨_, rfl⟩
      rw [hq] at hl2 HH
      obtain ⟨⟨h1, h2, h3, h4⟩, s2⟩ := q
      simp only at hl2 HH
      have HL2 := hide hl2
      have i2 : (i : Int) < (n : Int) := by omega
      clear hl2 e1 hq
      go_wp2_with fail
      refine (unhide HH).mono ?_
      rintro e X ⟨rfl, hs, hf⟩
      have fx : Fr (fun _ => False) X (X.alloc (.cells #[.int .i64 h1, .int .i64 h2, .int .i64 h3, .int .i64 h4] 112)) := (Fr.refl _ X).alloc _
      have HS2 : Hid (RS (X.alloc (.cells #[.int .i64 h1, .int .i64 h2, .int .i64 h3, .int .i64 h4] 112)) r rb s2) := hs.fr fx (fun e => e) (fun e => e)
      have HF2 : Hid (RFr r w (X.alloc (.cells #[.int .i64 h1, .int .i64 h2, .int .i64 h3, .int .i64 h4] 112))) := ((unhide hF).trans hf).alloc _
      by_cases he : s2.2 = 0
      · have HL3 : Hid (lp rdH1 g (acc ++ [⟨h1, h2, h3, h4⟩]) s2 = z) := by
          have := unhide HL2
          rw [if_neg (by simp [he])] at this
          exact this
        have HGx : Hid (Ro ((X.alloc (.cells #[.int .i64 h1, .int .i64 h2, .int .i64 h3, .int .i64 h4] 112)).alloc (.cells #[.int .i64 h1, .int .i64 h2, .int .i64 h3, .int .i64 h4] 112)) 4 u8 i (flt enH acc)) := by
          have := (unhide hG).fr (hf.alloc (.cells #[.int .i64 h1, .int .i64 h2, .int .i64 h3, .int .i64 h4] 112) |>.alloc (.cells #[.int .i64 h1, .int .i64 h2, .int .i64 h3, .int .i64 h4] 112)) (fun k hk q => by have := unhide HRL; omega)
          have h5 := this.1
          rw [unhide hal] at h5
          exact h5
        have HNC : Hid (∀ j u', (enH ⟨h1, h2, h3, h4⟩)[j]? = some u' → ((X.alloc (.cells #[.int .i64 h1, .int .i64 h2, .int .i64 h3, .int .i64 h4] 112)).alloc (.cells #[.int .i64 h1, .int .i64 h2, .int .i64 h3, .int .i64 h4] 112)).cell? ((⟨X.heap.size + 1, 0, none⟩ : Addr).add j) = some u') := by
          have := new_cells (X.alloc (.cells #[.int .i64 h1, .int .i64 h2, .int .i64 h3, .int .i64 h4] 112)) #[.int .i64 h1, .int .i64 h2, .int .i64 h3, .int .i64 h4] 112
          unfold Hid enH
          simpa using this
        have he1 : (s2.2 != 0) = false := by simp [he]
        have hXs : Hid (wr.heap.size ≤ X.heap.size) := hf.size
        clear hs hf fx he
        go_wp2_with (first | (at_builtin; refine wpList_appHd rfl _ _ rfl u8 i (flt enH acc) rfl (unhide HGx) ⟨X.heap.size + 1, 0, none⟩ 1 ⟨h1, h2, h3, h4⟩ rfl (unhide HNC) (by omega) ?_; intro v' w2 hr hg hat))
        have f2 : Fr (fun k => u8.ownBlock = some k) (X.alloc (.cells #[.int .i64 h1, .int .i64 h2, .int .i64 h3, .int .i64 h4] 112)) w2 := ((Fr.refl _ _).alloc _).grown hg (fun k e => .inr e)
        have nb : ∀ k, u8.ownBlock = some k → w.heap.size ≤ k := (unhide hG).2
        have HS3 : Hid (RS w2 r rb s2) := (unhide HS2).fr f2 (fun q => by have := nb r q; have := unhide HRL; omega) (fun q => by have := nb rb q; have := unhide HRB; omega)
        have HF3 : Hid (RFr r w w2) := (unhide HF2).stepw f2 (fun k hk q => by have := nb k q; omega)
        have HG3 : Hid (LG w 4 enH (acc ++ [⟨h1, h2, h3, h4⟩]) v' w2) := (unhide hG).push (unhide hwr) hr (by rw [unhide hal]) (N := ((X.alloc (.cells #[.int .i64 h1, .int .i64 h2, .int .i64 h3, .int .i64 h4] 112)).alloc (.cells #[.int .i64 h1, .int .i64 h2, .int .i64 h3, .int .i64 h4] 112)).heap.size) (by simp; have := unhide hwr; have := unhide hXs; omega) hat
        clear hr hg hat f2 nb
        go_wp2_with fail
        go_roundg g
        case measure => omega
        case rel => exact ⟨i + 1, acc ++ [⟨h1, h2, h3, h4⟩], s2, by have := unhide hi; unfold Hid; omega, by go_num, by rw [Hid, List.length_append, unhide hal]; rfl, HL3, HG3, HS3, HF3⟩
      · have HZ : Hid (z = ([], s2.2, s2)) := by
          have := unhide HL2
          rw [if_pos he] at this
          exact this.symm
        have he1 : (s2.2 != 0) = true := by simp [he]
        have HE := hide he
        clear hs hf fx he
        go_wp2_with fail
        go_ret2
        rw [unhide HZ]
        exact ⟨_, _, _, ⟨rfl, unhide HS2, unhide HF2⟩, fun q => absurd q (unhide HE)⟩
    · have hg0 : gk = 0 := by have := unhide hi; omega
      subst hg0
      have i2 : ¬ (i : Int) < (n : Int) := by omega
      have HZ : Hid (z = (acc, s.2, s)) := (unhide hl).symm
      have HER := hide (err_any (unhide hS))
      obtain ⟨ga, gc, eg, -, -⟩ := (unhide hG).1.shape
      subst eg
      go_wp2_with fail
      refine (unhide HER).mono ?_
      rintro e X ⟨rfl, rfl⟩
      go_wp2_with fail
      go_ret2
      rw [unhide HZ]
      exact ⟨_, _, _, ⟨rfl, unhide hS, unhide hF⟩, fun _ => unhide hG⟩

set_option linter.unusedVariables false
set_option linter.unusedSimpArgs false

/-- A constant, as it is read. -/
def rdC (s : Sr) : Cn × Int × Sr :=
  if (byt s).1 = 3 then (⟨3, wrap64 ((wrd (byt s).2).1 : Int), ByteArray.empty⟩, (wrd (byt s).2).2.2, (wrd (byt s).2).2)
  else if (byt s).1 = 4 then (⟨4, 0, (txt 4096 (byt s).2).1⟩, (txt 4096 (byt s).2).2.2, (txt 4096 (byt s).2).2)
  else if (byt s).2.2 = 0 then (⟨0, 0, ByteArray.empty⟩, 4, (byt s).2) else (⟨(byt s).1, 0, ByteArray.empty⟩, (byt s).2.2, (byt s).2)
theorem byt_lt {s : Sr} (h : BOk s.1) : 0 ≤ (byt s).1 ∧ (byt s).1 < 256 := by
  unfold byt
  by_cases q : s.2 = 0
  · rw [if_pos q]
    obtain ⟨s1, s2⟩ := s
    cases s1 with
    | nil => simp
    | cons b t => exact h b (by simp)
  · rw [if_neg q]; simp
theorem load73 {w : World} {b : Nat} {x y u : Value} (h : Bx w 3 b [x, y, u]) : (loadVar 69 ⟨b, 0, none⟩).run Tryz.prog w = .ok (.agg #[x, y, u]) w := by
  have c0 := h.cell (j := 0) rfl
  have c1 := h.cell (j := 1) rfl
  have c2 := h.cell (j := 2) rfl
  go_simp
set_option maxRecDepth 100000 in
set_option maxHeartbeats 3200000 in
theorem rdC_any {w : World} {r rb : Nat} {s : Sr} (h : RS w r rb s) (hrb : rb < w.heap.size) : Calls Tryz.prog 88 #[.pointer (some ⟨r, 0, none⟩)] w fun e w' => RQ r rb w (.tuple #[.agg #[.int .i64 (rdC s).1.kind, .int .i64 (rdC s).1.n, .string (rdC s).1.text], .int .i64 (rdC s).2.1]) (rdC s).2.2 e w' := by
  obtain ⟨z, hz⟩ : ∃ z, Hid (rdC s = z) := ⟨_, rfl⟩
  rw [unhide hz]
  unfold rdC at hz
  have hab : 0 ≤ (byt s).1 ∧ (byt s).1 < 256 := by obtain ⟨v, _, h2, _⟩ := id h; exact byt_lt h2
  have H1 := hide (fun (wx : World) (hx : RS wx r rb s) => byt_any hx)
  generalize byt s = a at *
  obtain ⟨kd, s1⟩ := a
  simp only at hz hab H1
  have H2 := hide (fun (wx : World) (hx : RS wx r rb s1) => wrd_any hx)
  have H3 := hide (fun (wx : World) (hx : RS wx r rb s1) => txt_any hx 4096 (by omega))
  have hr := h.lt
  have HRB := hide hrb
  obtain ⟨k0, k1⟩ := hab
  obtain ⟨W1, eW1⟩ : ∃ W1, Hid (W1 = w.alloc (.cells #[.int .i64 0, .int .i64 0, .string ⟨#[]⟩] 69)) := ⟨_, rfl⟩
  have HA : Hid (Bx W1 3 w.heap.size [.int .i64 0, .int .i64 0, .string ⟨#[]⟩]) := by rw [unhide eW1]; exact Bx.new rfl rfl
  have HF : Hid (RFr r w W1) := by rw [unhide eW1]; exact (Fr.refl _ w).alloc _
  have HS : Hid (RS W1 r rb s) := h.fr (S := fun _ => False) (by rw [unhide eW1]; exact (Fr.refl _ w).alloc _) (fun e => e) (fun e => e)
  clear h hrb
  go_enter Tryz.func88, Tryz.ntmps88
  go_wp2_with fail
  rw [← unhide eW1]
  clear eW1
  refine (unhide H1 W1 (unhide HS)).mono ?_
  rintro e X ⟨rfl, hs, hf⟩
  have ha := (unhide HA).fr hf (by omega)
  obtain ⟨W2, eW2⟩ : ∃ W2, Hid (W2 = X.alloc (.cells #[.int .i64 kd, .int .i64 0, .string ⟨#[]⟩] 69)) := ⟨_, rfl⟩
  have g : Fr (fun _ => False) X W2 := by rw [unhide eW2]; exact (Fr.refl _ _).alloc _
  have hB : Bx W2 3 X.heap.size [.int .i64 kd, .int .i64 0, .string ⟨#[]⟩] := by rw [unhide eW2]; exact Bx.new rfl rfl
  have HB := hide hB
  have HA : Hid (Bx W2 3 w.heap.size [.int .i64 0, .int .i64 0, .string ⟨#[]⟩]) := ha.fr g (fun e => e)
  have HS : Hid (RS W2 r rb s1) := hs.fr g (fun e => e) (fun e => e)
  have HF : Hid (RFr r w W2) := by rw [unhide eW2]; exact ((unhide HF).trans hf).alloc _
  have hb1w : w.heap.size < X.heap.size := ha.lt
  have c0 := hB.cell (j := 0) rfl
  clear hs hf ha g hB
  by_cases h3 : kd = 3
  · subst h3
    rw [if_pos rfl] at hz
    go_wp2_with fail
    rw [← unhide eW2]
    clear eW2 c0
    refine (unhide H2 W2 (unhide HS)).mono ?_
    rintro e X2 ⟨rfl, hs, hf⟩
    have hb := (unhide HB).fr hf (by omega)
    have ha := (unhide HA).fr hf (by omega)
    have c1 := hb.cell (j := 1) rfl
    have y1 := hb.free 1
    obtain ⟨W3, eW3⟩ : ∃ W3, Hid (W3 = X2.setCell ⟨X.heap.size, 1, none⟩ (.int .i64 (wrap64 ((wrd s1).1 : Int)))) := ⟨_, rfl⟩
    have g : Fr (fun k => k = X.heap.size) X2 W3 := by rw [unhide eW3]; exact fr_set _ _ _ _
    have HB : Hid (Bx W3 3 X.heap.size [.int .i64 3, .int .i64 (wrap64 ((wrd s1).1 : Int)), .string ⟨#[]⟩]) := by rw [unhide eW3]; exact hb.set (by omega) _
    have HA : Hid (Bx W3 3 w.heap.size [.int .i64 0, .int .i64 0, .string ⟨#[]⟩]) := ha.fr g (by omega)
    have HS : Hid (RS W3 r rb (wrd s1).2) := hs.fr g (by omega) (by have := unhide HRB; omega)
    have HF : Hid (RFr r w W3) := by rw [unhide eW3]; exact ((unhide HF).trans hf).setCell _ (.inl (Nat.le_of_lt hb1w)) _
    clear hs hf hb ha g
    go_wp2_with fail
    rw [← unhide eW3]
    clear eW3 c1 y1
    have SS : Bx W3 3 X.heap.size [.int .i64 3, .int .i64 (wrap64 ((wrd s1).1 : Int)), .string ⟨#[]⟩] ∧ (∃ x0 x1 x2, Bx W3 3 w.heap.size [x0, x1, x2]) := ⟨unhide HB, _, _, _, unhide HA⟩
    refine wp_region_held_drew (S := fun wx => Bx wx 3 X.heap.size [.int .i64 3, .int .i64 (wrap64 ((wrd s1).1 : Int)), .string ⟨#[]⟩] ∧ (∃ x0 x1 x2, Bx wx 3 w.heap.size [x0, x1, x2])) (by kernel_rfl) SS (fun hHeld => ?_)
    refine wpAnyH_take (i := 0) (oi := _) (v := .agg #[.int .i64 3, .int .i64 (wrap64 ((wrd s1).1 : Int)), .string ⟨#[]⟩]) rfl (by kernel_rfl) (by kernel_rfl) (by kernel_rfl) (fun _ _ _ h => h) (Or.inl ⟨by rfl, (by intro wx hSw; have c0 := hSw.1.cell (j := 0) rfl; have c1 := hSw.1.cell (j := 1) rfl; have c2 := hSw.1.cell (j := 2) rfl; clear hSw; go_simp)⟩) (by assumption) ?_
    refine wpAnyH_take (i := 1) (oi := _) (v := .pointer (some ⟨r, 0, none⟩)) rfl (by kernel_rfl) (by kernel_rfl) (by kernel_rfl) (fun _ _ _ h => h) (Or.inl ⟨by rfl, (by intro wx hSw; go_simp)⟩) (by assumption) ?_
    go_simp
    refine wpAnyH_ready (rs := [2]) (by kernel_rfl) (by simp) ?_
    refine AllReadyH.cons (o := _) rfl (fun K hK => ?_) AllReadyH.nil
    go_simp
    refine (err_any (w := W3.drew) ((unhide HS).fr (S := fun _ => False) (Fr.refl _ W3).drew (fun e => e) (fun e => e))).mono ?_
    rintro e w6 ⟨rfl, rfl⟩
    go_simp
    refine hK.out _ _ SS (fun hHeld1 => ?_)
    clear hK K
    refine wpAnyH_ready (rs := [3]) (by kernel_rfl) (by simp) ?_
    refine AllReadyH.cons (o := _) rfl (fun K2 hK2 => ?_) AllReadyH.nil
    have m0 := (unhide HA).cell (j := 0) rfl
    have y0 := (unhide HA).free 0
    have m1 := (unhide HA).cell (j := 1) rfl
    have y1 := (unhide HA).free 1
    have m2 := (unhide HA).cell (j := 2) rfl
    have y2 := (unhide HA).free 2
    go_simp
    obtain ⟨W6, eW6⟩ : ∃ W6, Hid (W6 = (((W3.setCell ⟨w.heap.size, 0, none⟩ (.int .i64 3)).setCell ⟨w.heap.size, 1, none⟩ (.int .i64 (wrap64 ((wrd s1).1 : Int)))).setCell ⟨w.heap.size, 2, none⟩ (.string ⟨#[]⟩)).drew) := ⟨_, rfl⟩
    have g : Fr (fun k => k = w.heap.size) W3 W6 := by rw [unhide eW6]; exact ((((Fr.refl (fun k => k = w.heap.size) W3).setCell ⟨w.heap.size, 0, none⟩ (.inr rfl) _).setCell ⟨w.heap.size, 1, none⟩ (.inr rfl) _).setCell ⟨w.heap.size, 2, none⟩ (.inr rfl) _).drew
    have hA6 : Bx W6 3 w.heap.size [.int .i64 3, .int .i64 (wrap64 ((wrd s1).1 : Int)), .string ⟨#[]⟩] := by
      rw [unhide eW6]
      exact ((((unhide HA).set (j := 0) (by omega) (.int .i64 3)).set (j := 1) (by omega) (.int .i64 (wrap64 ((wrd s1).1 : Int)))).set (j := 2) (by omega) (.string ⟨#[]⟩)).fr (S := fun _ => False) (Fr.refl _ _).drew (fun e => e)
    have hB6 := (unhide HB).fr g (by omega)
    have HS6 : Hid (RS W6 r rb (wrd s1).2) := (unhide HS).fr g (by omega) (by have := unhide HRB; omega)
    have HF6 : Hid (RFr r w W6) := by
      rw [unhide eW6]
      exact ((((unhide HF).setCell ⟨w.heap.size, 0, none⟩ (.inl (Nat.le_refl _)) _).setCell ⟨w.heap.size, 1, none⟩ (.inl (Nat.le_refl _)) _).setCell ⟨w.heap.size, 2, none⟩ (.inl (Nat.le_refl _)) _).drew
    rw [← unhide eW6]
    have HA6 := hide hA6
    refine hK2.out _ _ ⟨hB6, _, _, _, hA6⟩ (fun hHeld2 => ?_)
    clear hK2 K2 m0 y0 m1 y1 m2 y2 g hA6 hB6 eW6
    refine wpAnyH_take (i := 4) (oi := _) (v := .int .i64 (wrd s1).2.2) rfl (by kernel_rfl) (by kernel_rfl) (by kernel_rfl) (fun _ _ _ h => h) (Or.inl ⟨by rfl, (by intro wx hSw; go_simp)⟩) (by assumption) ?_
    refine wpAnyH_done (by kernel_rfl) ?_ _
    clear hHeld hHeld1 hHeld2 SS
    go_wp2_with fail
    refine bodyPost_ret (v := .tuple #[.agg #[.int .i64 3, .int .i64 (wrap64 ((wrd s1).1 : Int)), .string ⟨#[]⟩], .int .i64 (wrd s1).2.2]) (by rw [results_ct (fn := Tryz.f88) (p := 2) (q := 3) (t1 := 69) rfl _ _ _ (a1 := ⟨w.heap.size, 0, none⟩) rfl (load73 (unhide HA6))]; rfl) rfl ?_
    rw [← unhide hz]
    exact ⟨rfl, unhide HS6, unhide HF6⟩
  · rw [if_neg h3] at hz
    have d3 : (kd == 3) = false := by simpa using h3
    by_cases h4 : kd = 4
    · subst h4
      rw [if_pos rfl] at hz
      go_wp2_with fail
      rw [← unhide eW2]
      clear eW2 c0
      refine (unhide H3 W2 (unhide HS)).mono ?_
      rintro e X2 ⟨rfl, hs, hf⟩
      have hb := (unhide HB).fr hf (by omega)
      have ha := (unhide HA).fr hf (by omega)
      have c2 := hb.cell (j := 2) rfl
      have y2 := hb.free 2
      obtain ⟨W3, eW3⟩ : ∃ W3, Hid (W3 = X2.setCell ⟨X.heap.size, 2, none⟩ (.string (txt 4096 s1).1)) := ⟨_, rfl⟩
      have g : Fr (fun k => k = X.heap.size) X2 W3 := by rw [unhide eW3]; exact fr_set _ _ _ _
      have HB : Hid (Bx W3 3 X.heap.size [.int .i64 4, .int .i64 0, .string (txt 4096 s1).1]) := by rw [unhide eW3]; exact hb.set (by omega) _
      have HA : Hid (Bx W3 3 w.heap.size [.int .i64 0, .int .i64 0, .string ⟨#[]⟩]) := ha.fr g (by omega)
      have HS : Hid (RS W3 r rb (txt 4096 s1).2) := hs.fr g (by omega) (by have := unhide HRB; omega)
      have HF : Hid (RFr r w W3) := by rw [unhide eW3]; exact ((unhide HF).trans hf).setCell _ (.inl (Nat.le_of_lt hb1w)) _
      clear hs hf hb ha g
      go_wp2_with fail
      rw [← unhide eW3]
      clear eW3 c2 y2
      have SS : Bx W3 3 X.heap.size [.int .i64 4, .int .i64 0, .string (txt 4096 s1).1] ∧ (∃ x0 x1 x2, Bx W3 3 w.heap.size [x0, x1, x2]) := ⟨unhide HB, _, _, _, unhide HA⟩
      refine wp_region_held_drew (S := fun wx => Bx wx 3 X.heap.size [.int .i64 4, .int .i64 0, .string (txt 4096 s1).1] ∧ (∃ x0 x1 x2, Bx wx 3 w.heap.size [x0, x1, x2])) (by kernel_rfl) SS (fun hHeld => ?_)
      refine wpAnyH_take (i := 0) (oi := _) (v := .agg #[.int .i64 4, .int .i64 0, .string (txt 4096 s1).1]) rfl (by kernel_rfl) (by kernel_rfl) (by kernel_rfl) (fun _ _ _ h => h) (Or.inl ⟨by rfl, (by intro wx hSw; have c0 := hSw.1.cell (j := 0) rfl; have c1 := hSw.1.cell (j := 1) rfl; have c2 := hSw.1.cell (j := 2) rfl; clear hSw; go_simp)⟩) (by assumption) ?_
      refine wpAnyH_take (i := 1) (oi := _) (v := .pointer (some ⟨r, 0, none⟩)) rfl (by kernel_rfl) (by kernel_rfl) (by kernel_rfl) (fun _ _ _ h => h) (Or.inl ⟨by rfl, (by intro wx hSw; go_simp)⟩) (by assumption) ?_
      go_simp
      refine wpAnyH_ready (rs := [2]) (by kernel_rfl) (by simp) ?_
      refine AllReadyH.cons (o := _) rfl (fun K hK => ?_) AllReadyH.nil
      go_simp
      refine (err_any (w := W3.drew) ((unhide HS).fr (S := fun _ => False) (Fr.refl _ W3).drew (fun e => e) (fun e => e))).mono ?_
      rintro e w6 ⟨rfl, rfl⟩
      go_simp
      refine hK.out _ _ SS (fun hHeld1 => ?_)
      clear hK K
      refine wpAnyH_ready (rs := [3]) (by kernel_rfl) (by simp) ?_
      refine AllReadyH.cons (o := _) rfl (fun K2 hK2 => ?_) AllReadyH.nil
      have m0 := (unhide HA).cell (j := 0) rfl
      have y0 := (unhide HA).free 0
      have m1 := (unhide HA).cell (j := 1) rfl
      have y1 := (unhide HA).free 1
      have m2 := (unhide HA).cell (j := 2) rfl
      have y2 := (unhide HA).free 2
      go_simp
      obtain ⟨W6, eW6⟩ : ∃ W6, Hid (W6 = (((W3.setCell ⟨w.heap.size, 0, none⟩ (.int .i64 4)).setCell ⟨w.heap.size, 1, none⟩ (.int .i64 0)).setCell ⟨w.heap.size, 2, none⟩ (.string (txt 4096 s1).1)).drew) := ⟨_, rfl⟩
      have g : Fr (fun k => k = w.heap.size) W3 W6 := by rw [unhide eW6]; exact ((((Fr.refl (fun k => k = w.heap.size) W3).setCell ⟨w.heap.size, 0, none⟩ (.inr rfl) _).setCell ⟨w.heap.size, 1, none⟩ (.inr rfl) _).setCell ⟨w.heap.size, 2, none⟩ (.inr rfl) _).drew
      have hA6 : Bx W6 3 w.heap.size [.int .i64 4, .int .i64 0, .string (txt 4096 s1).1] := by
        rw [unhide eW6]
        exact ((((unhide HA).set (j := 0) (by omega) (.int .i64 4)).set (j := 1) (by omega) (.int .i64 0)).set (j := 2) (by omega) (.string (txt 4096 s1).1)).fr (S := fun _ => False) (Fr.refl _ _).drew (fun e => e)
      have hB6 := (unhide HB).fr g (by omega)
      have HS6 : Hid (RS W6 r rb (txt 4096 s1).2) := (unhide HS).fr g (by omega) (by have := unhide HRB; omega)
      have HF6 : Hid (RFr r w W6) := by
        rw [unhide eW6]
        exact ((((unhide HF).setCell ⟨w.heap.size, 0, none⟩ (.inl (Nat.le_refl _)) _).setCell ⟨w.heap.size, 1, none⟩ (.inl (Nat.le_refl _)) _).setCell ⟨w.heap.size, 2, none⟩ (.inl (Nat.le_refl _)) _).drew
      rw [← unhide eW6]
      have HA6 := hide hA6
      refine hK2.out _ _ ⟨hB6, _, _, _, hA6⟩ (fun hHeld2 => ?_)
      clear hK2 K2 m0 y0 m1 y1 m2 y2 g hA6 hB6 eW6
      refine wpAnyH_take (i := 4) (oi := _) (v := .int .i64 (txt 4096 s1).2.2) rfl (by kernel_rfl) (by kernel_rfl) (by kernel_rfl) (fun _ _ _ h => h) (Or.inl ⟨by rfl, (by intro wx hSw; go_simp)⟩) (by assumption) ?_
      refine wpAnyH_done (by kernel_rfl) ?_ _
      clear hHeld hHeld1 hHeld2 SS
      go_wp2_with fail
      refine bodyPost_ret (v := .tuple #[.agg #[.int .i64 4, .int .i64 0, .string (txt 4096 s1).1], .int .i64 (txt 4096 s1).2.2]) (by rw [results_ct (fn := Tryz.f88) (p := 2) (q := 3) (t1 := 69) rfl _ _ _ (a1 := ⟨w.heap.size, 0, none⟩) rfl (load73 (unhide HA6))]; rfl) rfl ?_
      rw [← unhide hz]
      exact ⟨rfl, unhide HS6, unhide HF6⟩
    · rw [if_neg h4] at hz
      have d4 : (kd == 4) = false := by simpa using h4
      have HER := hide (err_any (unhide HS))
      by_cases h5 : s1.2 = 0
      · rw [if_pos h5] at hz
        have d5 : (s1.2 == 0) = true := by simpa using h5
        have m0 := (unhide HA).cell (j := 0) rfl
        have m1 := (unhide HA).cell (j := 1) rfl
        have m2 := (unhide HA).cell (j := 2) rfl
        have y0 := (unhide HA).free 0
        have y1 := (unhide HA).free 1
        have y2 := (unhide HA).free 2
        clear h3 h4 h5
        go_wp2_with fail
        rw [← unhide eW2]
        clear eW2 c0
        refine (unhide HER).mono ?_
        rintro e w6 ⟨rfl, rfl⟩
        go_wp2_with fail
        have hA6 := (((unhide HA).set (j := 0) (by omega) (.int .i64 0)).set (j := 1) (by omega) (.int .i64 0)).set (j := 2) (by omega) (.string ⟨#[]⟩)
        have g : Fr (fun k => k = w.heap.size) w6 (((w6.setCell ⟨w.heap.size, 0, none⟩ (.int .i64 0)).setCell ⟨w.heap.size, 1, none⟩ (.int .i64 0)).setCell ⟨w.heap.size, 2, none⟩ (.string ⟨#[]⟩)) := (((Fr.refl (fun k => k = w.heap.size) w6).setCell ⟨w.heap.size, 0, none⟩ (.inr rfl) _).setCell ⟨w.heap.size, 1, none⟩ (.inr rfl) _).setCell ⟨w.heap.size, 2, none⟩ (.inr rfl) _
        refine bodyPost_ret (v := .tuple #[.agg #[.int .i64 0, .int .i64 0, .string ⟨#[]⟩], .int .i64 4]) (by rw [results_ct (fn := Tryz.f88) (p := 2) (q := 3) (t1 := 69) rfl _ _ _ (a1 := ⟨w.heap.size, 0, none⟩) rfl (load73 hA6)]; rfl) rfl ?_
        rw [← unhide hz]
        exact ⟨rfl, (unhide HS).fr g (by omega) (by have := unhide HRB; omega), (((unhide HF).setCell ⟨w.heap.size, 0, none⟩ (.inl (Nat.le_refl _)) _).setCell ⟨w.heap.size, 1, none⟩ (.inl (Nat.le_refl _)) _).setCell ⟨w.heap.size, 2, none⟩ (.inl (Nat.le_refl _)) _⟩
      · rw [if_neg h5] at hz
        have d5 : (s1.2 == 0) = false := by simpa using h5
        clear h3 h4 h5
        go_wp2_with fail
        rw [← unhide eW2]
        clear eW2 c0
        refine (unhide HER).mono ?_
        rintro e w6 ⟨rfl, rfl⟩
        go_wp2_with fail
        have SS : Bx w6 3 X.heap.size [.int .i64 kd, .int .i64 0, .string ⟨#[]⟩] ∧ (∃ x0 x1 x2, Bx w6 3 w.heap.size [x0, x1, x2]) := ⟨unhide HB, _, _, _, unhide HA⟩
        refine wp_region_held_drew (S := fun wx => Bx wx 3 X.heap.size [.int .i64 kd, .int .i64 0, .string ⟨#[]⟩] ∧ (∃ x0 x1 x2, Bx wx 3 w.heap.size [x0, x1, x2])) (by kernel_rfl) SS (fun hHeld => ?_)
        refine wpAnyH_take (i := 0) (oi := _) (v := .agg #[.int .i64 kd, .int .i64 0, .string ⟨#[]⟩]) rfl (by kernel_rfl) (by kernel_rfl) (by kernel_rfl) (fun _ _ _ h => h) (Or.inl ⟨by rfl, (by intro wx hSw; have c0 := hSw.1.cell (j := 0) rfl; have c1 := hSw.1.cell (j := 1) rfl; have c2 := hSw.1.cell (j := 2) rfl; clear hSw; go_simp)⟩) (by assumption) ?_
        refine wpAnyH_take (i := 1) (oi := _) (v := .pointer (some ⟨r, 0, none⟩)) rfl (by kernel_rfl) (by kernel_rfl) (by kernel_rfl) (fun _ _ _ h => h) (Or.inl ⟨by rfl, (by intro wx hSw; go_simp)⟩) (by assumption) ?_
        go_simp
        refine wpAnyH_ready (rs := [2]) (by kernel_rfl) (by simp) ?_
        refine AllReadyH.cons (o := _) rfl (fun K hK => ?_) AllReadyH.nil
        go_simp
        refine (err_any (w := w6.drew) ((unhide HS).fr (S := fun _ => False) (Fr.refl _ w6).drew (fun e => e) (fun e => e))).mono ?_
        rintro e w6 ⟨rfl, rfl⟩
        go_simp
        refine hK.out _ _ SS (fun hHeld1 => ?_)
        clear hK K
        refine wpAnyH_ready (rs := [3]) (by kernel_rfl) (by simp) ?_
        refine AllReadyH.cons (o := _) rfl (fun K2 hK2 => ?_) AllReadyH.nil
        have m0 := (unhide HA).cell (j := 0) rfl
        have y0 := (unhide HA).free 0
        have m1 := (unhide HA).cell (j := 1) rfl
        have y1 := (unhide HA).free 1
        have m2 := (unhide HA).cell (j := 2) rfl
        have y2 := (unhide HA).free 2
        go_simp
        obtain ⟨W6, eW6⟩ : ∃ W6, Hid (W6 = (((w6.setCell ⟨w.heap.size, 0, none⟩ (.int .i64 kd)).setCell ⟨w.heap.size, 1, none⟩ (.int .i64 0)).setCell ⟨w.heap.size, 2, none⟩ (.string ⟨#[]⟩)).drew) := ⟨_, rfl⟩
        have g : Fr (fun k => k = w.heap.size) w6 W6 := by rw [unhide eW6]; exact ((((Fr.refl (fun k => k = w.heap.size) w6).setCell ⟨w.heap.size, 0, none⟩ (.inr rfl) _).setCell ⟨w.heap.size, 1, none⟩ (.inr rfl) _).setCell ⟨w.heap.size, 2, none⟩ (.inr rfl) _).drew
        have hA6 : Bx W6 3 w.heap.size [.int .i64 kd, .int .i64 0, .string ⟨#[]⟩] := by
          rw [unhide eW6]
          exact ((((unhide HA).set (j := 0) (by omega) (.int .i64 kd)).set (j := 1) (by omega) (.int .i64 0)).set (j := 2) (by omega) (.string ⟨#[]⟩)).fr (S := fun _ => False) (Fr.refl _ _).drew (fun e => e)
        have hB6 := (unhide HB).fr g (by omega)
        have HS6 : Hid (RS W6 r rb s1) := (unhide HS).fr g (by omega) (by have := unhide HRB; omega)
        have HF6 : Hid (RFr r w W6) := by
          rw [unhide eW6]
          exact ((((unhide HF).setCell ⟨w.heap.size, 0, none⟩ (.inl (Nat.le_refl _)) _).setCell ⟨w.heap.size, 1, none⟩ (.inl (Nat.le_refl _)) _).setCell ⟨w.heap.size, 2, none⟩ (.inl (Nat.le_refl _)) _).drew
        rw [← unhide eW6]
        have HA6 := hide hA6
        refine hK2.out _ _ ⟨hB6, _, _, _, hA6⟩ (fun hHeld2 => ?_)
        clear hK2 K2 m0 y0 m1 y1 m2 y2 g hA6 hB6 eW6
        refine wpAnyH_take (i := 4) (oi := _) (v := .int .i64 s1.2) rfl (by kernel_rfl) (by kernel_rfl) (by kernel_rfl) (fun _ _ _ h => h) (Or.inl ⟨by rfl, (by intro wx hSw; go_simp)⟩) (by assumption) ?_
        refine wpAnyH_done (by kernel_rfl) ?_ _
        clear hHeld hHeld1 hHeld2 SS
        go_wp2_with fail
        refine bodyPost_ret (v := .tuple #[.agg #[.int .i64 kd, .int .i64 0, .string ⟨#[]⟩], .int .i64 s1.2]) (by rw [results_ct (fn := Tryz.f88) (p := 2) (q := 3) (t1 := 69) rfl _ _ _ (a1 := ⟨w.heap.size, 0, none⟩) rfl (load73 (unhide HA6))]; rfl) rfl ?_
        rw [← unhide hz]
        exact ⟨rfl, unhide HS6, unhide HF6⟩

set_option linter.unusedVariables false
set_option linter.unusedSimpArgs false
theorem Tryz.info69 : (Tryz.prog.info? 69).map (fun i => (i.zero, i.size, i.bytes)) = some (some (.agg #[.int .i64 0, .int .i64 0, .string ByteArray.empty]), 3, 32) := by kernel_rfl
theorem wpList_appCn {w : World} {ops : Array Oper} {rest : List Oper} {o : Oper} {a : Act} {Q : Exit → Act → World → Prop}
    (hg : o.guard = none) (s x : Operand) (hop : o.op = Op.call { callee := Callee.builtin Builtin.append, args := #[s, x], argTypes := #[22, 22] })
    (v : Value) (n : Nat) (l : List Value) (hs : a.eval s = v) (hr : Ro w 3 v n l) (ad : Addr) (c : Nat) (k : Cn) (hx : a.eval x = .slice (some ad) 1 c) (hc : ∀ j u, (enC k)[j]? = some u → w.cell? (ad.add j) = some u)
    (hN : n < 1000000000)
    (hK : ∀ v' w', Ro w' 3 v' (n + 1) (l ++ enC k) → w.grownBy w' v.ownBlock → (v'.ownBlock = v.ownBlock ∨ v'.ownBlock = some w.heap.size) → wpList Tryz.prog ops Q rest (a.put o.dst v') w') :
    wpList Tryz.prog ops Q (o :: rest) a w := by
  obtain ⟨i0, hi0, hz0, hz1, hz2⟩ := info_parts Tryz.info69
  exact wpList_app hg s x 22 hop 69 i0 _ 3 32 Tryz.underlying22 hi0 hz0 hz1 hz2 rfl (by decide) v n l hs hr ad 1 c (enC k) hx rfl hc (by intro u hu; simp only [enC, List.mem_cons, List.not_mem_nil, or_false] at hu; rcases hu with rfl | rfl | rfl <;> rfl) (by omega) (by unfold maxLen; omega) (by omega) hK

set_option maxRecDepth 100000 in
set_option maxHeartbeats 3200000 in
theorem rdLC_any {w : World} {r rb : Nat} {s : Sr} (h : RS w r rb s) (hrb : rb < w.heap.size) (most : Int) (hm : most ≤ 100000) : Calls Tryz.prog 87 #[.pointer (some ⟨r, 0, none⟩), .int .i64 most, .func (Fn.func 88) #[] #[]] w fun e w' => ∃ la ln lc, RQ r rb w (.tuple #[.slice la ln lc, .int .i64 (rdL rdC most s).2.1]) (rdL rdC most s).2.2 e w' ∧ ((rdL rdC most s).2.1 = 0 → LG w 3 enC (rdL rdC most s).1 (.slice la ln lc) w') := by
  obtain ⟨z, hz⟩ : ∃ z, Hid (rdL rdC most s = z) := ⟨_, rfl⟩
  rw [unhide hz]
  unfold rdL at hz
  have H1 := hide (cnt_any h most (by omega))
  have hle := cnt_le most s
  generalize hcn : cnt most s = a at *
  obtain ⟨n, s1⟩ := a
  simp only at hz H1 hle
  have hn : n ≤ 100000 := by omega
  have hr := h.lt
  have HRB := hide hrb
  have HRL := hide hr
  clear hcn h hrb hle
  go_enter Tryz.func87, Tryz.ntmps87
  go_wp2_with fail
  refine (unhide H1).mono ?_
  rintro e W1 ⟨rfl, hs1, hf1⟩
  have HS1 := hide hs1
  have HF1 := hide hf1
  have HG1 : Hid (LG w 3 enC ([] : List Cn) (.slice none 0 0) W1) := ⟨by simpa [flt] using Ro.nil _ _, by simp [Value.ownBlock]⟩
  clear hs1 hf1 H1
  go_wp2_with fail
  go_loopg [8, 14] n (fun gg t8 t14 wr => ∃ (i : Nat) (acc : List Cn) (s : Sr), Hid (i + gg = n) ∧ t14 = .int .i64 (i : Int) ∧ Hid (acc.length = i) ∧ Hid (lp rdC gg acc s = z) ∧ Hid (LG w 3 enC acc t8 wr) ∧ Hid (RS wr r rb s) ∧ Hid (RFr r w wr))
  case atStart => exact ⟨0, [], s1, by unfold Hid; omega, rfl, rfl, hz, HG1, HS1, HF1⟩
  case round =>
    obtain ⟨i, acc, s, hi, rfl, hal, hl, hG, hS, hF⟩ := hrel
    by_cases hlt : i < n
    · obtain ⟨g, rfl⟩ : ∃ g, gk = g + 1 := ⟨gk - 1, by have := unhide hi; omega⟩
      have hl2 := unhide hl
      rw [lp] at hl2
      have hwr : Hid (w.heap.size ≤ wr.heap.size) := (unhide hF).size
      have HH := hide (rdC_any (unhide hS) (by have := unhide HRB; have := unhide hwr; omega))
      obtain ⟨q, hq⟩ : ∃ q, rdC s = q := ⟨_, rfl⟩
      rw [hq] at hl2 HH
      obtain ⟨⟨h1, h2, h3⟩, er, s2⟩ := q
      simp only at hl2 HH
      have HL2 := hide hl2
      have i2 : (i : Int) < (n : Int) := by omega
      clear hl2 hq
      go_wp2_with fail
      refine (unhide HH).mono ?_
      rintro e X ⟨rfl, hs, hf⟩
      have fx : Fr (fun _ => False) X (X.alloc (.cells #[.int .i64 h1, .int .i64 h2, .string h3] 69)) := (Fr.refl _ X).alloc _
      have HS2 : Hid (RS (X.alloc (.cells #[.int .i64 h1, .int .i64 h2, .string h3] 69)) r rb s2) := hs.fr fx (fun e => e) (fun e => e)
      have HF2 : Hid (RFr r w (X.alloc (.cells #[.int .i64 h1, .int .i64 h2, .string h3] 69))) := ((unhide hF).trans hf).alloc _
      by_cases he : er = 0
      · have HL3 : Hid (lp rdC g (acc ++ [⟨h1, h2, h3⟩]) s2 = z) := by
          have := unhide HL2
          rw [if_neg (by simp [he])] at this
          exact this
        have HGx : Hid (Ro ((X.alloc (.cells #[.int .i64 h1, .int .i64 h2, .string h3] 69)).alloc (.cells #[.int .i64 h1, .int .i64 h2, .string h3] 69)) 3 u8 i (flt enC acc)) := by
          have := (unhide hG).fr (hf.alloc (.cells #[.int .i64 h1, .int .i64 h2, .string h3] 69) |>.alloc (.cells #[.int .i64 h1, .int .i64 h2, .string h3] 69)) (fun k hk q => by have := unhide HRL; omega)
          have h5 := this.1
          rw [unhide hal] at h5
          exact h5
        have HNC : Hid (∀ j u', (enC ⟨h1, h2, h3⟩)[j]? = some u' → ((X.alloc (.cells #[.int .i64 h1, .int .i64 h2, .string h3] 69)).alloc (.cells #[.int .i64 h1, .int .i64 h2, .string h3] 69)).cell? ((⟨X.heap.size + 1, 0, none⟩ : Addr).add j) = some u') := by
          have := new_cells (X.alloc (.cells #[.int .i64 h1, .int .i64 h2, .string h3] 69)) #[.int .i64 h1, .int .i64 h2, .string h3] 69
          unfold Hid enC
          simpa using this
        have he1 : (er != 0) = false := by simp [he]
        have hXs : Hid (wr.heap.size ≤ X.heap.size) := hf.size
        clear hs hf fx he
        go_wp2_with (first | (at_builtin; refine wpList_appCn rfl _ _ rfl u8 i (flt enC acc) rfl (unhide HGx) ⟨X.heap.size + 1, 0, none⟩ 1 ⟨h1, h2, h3⟩ rfl (unhide HNC) (by omega) ?_; intro v' w2 hr hg hat))
        have f2 : Fr (fun k => u8.ownBlock = some k) (X.alloc (.cells #[.int .i64 h1, .int .i64 h2, .string h3] 69)) w2 := ((Fr.refl _ _).alloc _).grown hg (fun k e => .inr e)
        have nb : ∀ k, u8.ownBlock = some k → w.heap.size ≤ k := (unhide hG).2
        have HS3 : Hid (RS w2 r rb s2) := (unhide HS2).fr f2 (fun q => by have := nb r q; have := unhide HRL; omega) (fun q => by have := nb rb q; have := unhide HRB; omega)
        have HF3 : Hid (RFr r w w2) := (unhide HF2).stepw f2 (fun k hk q => by have := nb k q; omega)
        have HG3 : Hid (LG w 3 enC (acc ++ [⟨h1, h2, h3⟩]) v' w2) := (unhide hG).push (unhide hwr) hr (by rw [unhide hal]) (N := ((X.alloc (.cells #[.int .i64 h1, .int .i64 h2, .string h3] 69)).alloc (.cells #[.int .i64 h1, .int .i64 h2, .string h3] 69)).heap.size) (by simp; have := unhide hwr; have := unhide hXs; omega) hat
        clear hr hg hat f2 nb
        go_wp2_with fail
        go_roundg g
        case measure => omega
        case rel => exact ⟨i + 1, acc ++ [⟨h1, h2, h3⟩], s2, by have := unhide hi; unfold Hid; omega, by go_num, by rw [Hid, List.length_append, unhide hal]; rfl, HL3, HG3, HS3, HF3⟩
      · have HZ : Hid (z = ([], er, s2)) := by
          have := unhide HL2
          rw [if_pos he] at this
          exact this.symm
        have he1 : (er != 0) = true := by simp [he]
        have HE := hide he
        clear hs hf fx he
        go_wp2_with fail
        go_ret2
        rw [unhide HZ]
        exact ⟨_, _, _, ⟨rfl, unhide HS2, unhide HF2⟩, fun q => absurd q (unhide HE)⟩
    · have hg0 : gk = 0 := by have := unhide hi; omega
      subst hg0
      have i2 : ¬ (i : Int) < (n : Int) := by omega
      have HZ : Hid (z = (acc, s.2, s)) := (unhide hl).symm
      have HER := hide (err_any (unhide hS))
      obtain ⟨ga, gc, eg, -, -⟩ := (unhide hG).1.shape
      subst eg
      go_wp2_with fail
      refine (unhide HER).mono ?_
      rintro e X ⟨rfl, rfl⟩
      go_wp2_with fail
      go_ret2
      rw [unhide HZ]
      exact ⟨_, _, _, ⟨rfl, unhide hS, unhide hF⟩, fun _ => unhide hG⟩

set_option linter.unusedVariables false
set_option linter.unusedSimpArgs false

/-- A function, as it is read. -/
def rdF0 (s : Sr) : (ByteArray × Nat × Nat × List Int) × Sr :=
  let a := txt 32 s; let b := cnt 64 a.2; let c := cnt 64 b.2; let n := cnt 22000 c.2; let d := raw n.1 n.2
  ((a.1, b.1, c.1, d.1), d.2)
def rdF (s : Sr) : Fc × Int × Sr :=
  if errOf (dec (rdF0 s).1.2.2.2) ≠ 0 then (⟨ByteArray.empty, 0, 0, [], []⟩, errOf (dec (rdF0 s).1.2.2.2), (rdF0 s).2)
  else (⟨(rdF0 s).1.1, (rdF0 s).1.2.1, (rdF0 s).1.2.2.1, lstOf (dec (rdF0 s).1.2.2.2), (rdL rdH1 32 (rdF0 s).2).1⟩, (rdL rdH1 32 (rdF0 s).2).2.1, (rdL rdH1 32 (rdF0 s).2).2.2)
/-- These cells are this function, in lists that are new. -/
def FnW (w0 w : World) (f : Fc) (x : Fv) : Prop := x.name = f.name ∧ x.params = f.params ∧ x.locals = f.locals ∧ Ro w 2 x.cv f.code.length (flt enI f.code) ∧ Ro w 4 x.hv f.hs.length (flt enH f.hs) ∧ ∀ k, (x.cv.ownBlock = some k ∨ x.hv.ownBlock = some k) → w0.heap.size ≤ k
theorem load54 {w : World} {b : Nat} {x y u v z : Value} (h : Bx w 5 b [x, y, u, v, z]) : (loadVar 73 ⟨b, 0, none⟩).run Tryz.prog w = .ok (.agg #[x, y, u, v, z]) w := by
  have c0 := h.cell (j := 0) rfl
  have c1 := h.cell (j := 1) rfl
  have c2 := h.cell (j := 2) rfl
  have c3 := h.cell (j := 3) rfl
  have c4 := h.cell (j := 4) rfl
  go_simp
set_option maxRecDepth 100000 in
set_option maxHeartbeats 6400000 in
theorem rdF_any {w : World} {r rb : Nat} {s : Sr} (h : RS w r rb s) (hrb : rb < w.heap.size) : Calls Tryz.prog 90 #[.pointer (some ⟨r, 0, none⟩)] w fun e w' => ∃ nm pa lo ca cn cc ha hn hc, RQ r rb w (.tuple #[.agg #[.string nm, .int .i64 pa, .int .i64 lo, .slice ca cn cc, .slice ha hn hc], .int .i64 (rdF s).2.1]) (rdF s).2.2 e w' ∧ ((rdF s).2.1 = 0 → FnW w w' (rdF s).1 ⟨nm, pa, lo, .slice ca cn cc, .slice ha hn hc⟩) := by
  obtain ⟨z, hz⟩ : ∃ z, Hid (rdF s = z) := ⟨_, rfl⟩
  rw [unhide hz]
  unfold rdF rdF0 at hz
  simp only at hz
  have H1 := hide (fun (wx : World) (hx : RS wx r rb s) => txt_any hx 32 (by omega))
  generalize txt 32 s = a at *
  have H2 := hide (fun (wx : World) (hx : RS wx r rb a.2) => cnt_any hx 64 (by omega))
  generalize cnt 64 a.2 = b at *
  have H3 := hide (fun (wx : World) (hx : RS wx r rb b.2) => cnt_any hx 64 (by omega))
  generalize cnt 64 b.2 = c at *
  have H4 := hide (fun (wx : World) (hx : RS wx r rb c.2) => cnt_any hx 22000 (by omega))
  have hnl := cnt_le 22000 c.2
  generalize cnt 22000 c.2 = n at *
  have H5 := hide (fun (wx : World) (hx : RS wx r rb n.2) => rraw_any hx n.1)
  generalize raw n.1 n.2 = d at *
  have H6 := hide (fun (wx : World) (bv : Value) (hx : Rd wx bv d.1) (hB : BOk d.1) (hl : d.1.length ≤ 100000) => decode_any bv d.1 wx hx hB (by omega))
  generalize dec d.1 = dd at *
  have H7 := hide (fun (wx : World) (hx : RS wx r rb d.2) (hy : rb < wx.heap.size) => rdLH_any hx hy 32 (by omega))
  generalize rdL rdH1 32 d.2 = ll at *
  have hr := h.lt
  have HRB := hide hrb
  obtain ⟨W1, eW1⟩ : ∃ W1, Hid (W1 = (w.alloc (.cells #[.string ⟨#[]⟩, .int .i64 0, .int .i64 0, .slice none 0 0, .slice none 0 0] 73)).alloc (.cells #[.string ⟨#[]⟩, .int .i64 0, .int .i64 0, .slice none 0 0, .slice none 0 0] 73)) := ⟨_, rfl⟩
  have HB : Hid (Bx W1 5 (w.heap.size + 1) [.string ⟨#[]⟩, .int .i64 0, .int .i64 0, .slice none 0 0, .slice none 0 0]) := by rw [unhide eW1]; exact Bx.new rfl (by simp)
  have HA : Hid (Bx W1 5 w.heap.size [.string ⟨#[]⟩, .int .i64 0, .int .i64 0, .slice none 0 0, .slice none 0 0]) := by rw [unhide eW1]; exact (Bx.new rfl rfl).fr (S := fun _ => False) ((Fr.refl _ _).alloc _) (fun e => e)
  have HF : Hid (RFr r w W1) := by rw [unhide eW1]; exact ((Fr.refl _ w).alloc _).alloc _
  have HS : Hid (RS W1 r rb s) := h.fr (S := fun _ => False) (by rw [unhide eW1]; exact ((Fr.refl _ w).alloc _).alloc _) (fun e => e) (fun e => e)
  clear h hrb
  go_enter Tryz.func90, Tryz.ntmps90
  go_wp2_with fail
  rw [← unhide eW1]
  clear eW1
  refine (unhide H1 W1 (unhide HS)).mono ?_
  rintro e X2 ⟨rfl, hs, hf⟩
  have hb := (unhide HB).fr hf (by omega)
  have ha := (unhide HA).fr hf (by omega)
  have c0 := hb.cell (j := 0) rfl
  have z0 := hb.free 0
  obtain ⟨W2, eW2⟩ : ∃ W2, Hid (W2 = X2.setCell ⟨w.heap.size + 1, 0, none⟩ (.string a.1)) := ⟨_, rfl⟩
  have g : Fr (fun k => k = w.heap.size + 1) X2 W2 := by rw [unhide eW2]; exact fr_set _ _ _ _
  have HB : Hid (Bx W2 5 (w.heap.size + 1) [.string a.1, .int .i64 0, .int .i64 0, .slice none 0 0, .slice none 0 0]) := by rw [unhide eW2]; exact hb.set (by omega) _
  have HA : Hid (Bx W2 5 w.heap.size [.string ⟨#[]⟩, .int .i64 0, .int .i64 0, .slice none 0 0, .slice none 0 0]) := ha.fr g (by omega)
  have HS : Hid (RS W2 r rb a.2) := hs.fr g (by omega) (by have := unhide HRB; omega)
  have HF : Hid (RFr r w W2) := by rw [unhide eW2]; exact (Fr.setCell ((unhide HF).trans hf) ⟨w.heap.size + 1, 0, none⟩ (.inl (by show w.heap.size ≤ w.heap.size + 1; omega)) _)
  clear hs hf hb ha g
  go_wp2_with fail
  rw [← unhide eW2]
  clear eW2 c0 z0
  refine (unhide H2 W2 (unhide HS)).mono ?_
  rintro e X3 ⟨rfl, hs, hf⟩
  have hb := (unhide HB).fr hf (by omega)
  have ha := (unhide HA).fr hf (by omega)
  have c1 := hb.cell (j := 1) rfl
  have z1 := hb.free 1
  obtain ⟨W3, eW3⟩ : ∃ W3, Hid (W3 = X3.setCell ⟨w.heap.size + 1, 1, none⟩ (.int .i64 (b.1 : Int))) := ⟨_, rfl⟩
  have g : Fr (fun k => k = w.heap.size + 1) X3 W3 := by rw [unhide eW3]; exact fr_set _ _ _ _
  have HB : Hid (Bx W3 5 (w.heap.size + 1) [.string a.1, .int .i64 (b.1 : Int), .int .i64 0, .slice none 0 0, .slice none 0 0]) := by rw [unhide eW3]; exact hb.set (by omega) _
  have HA : Hid (Bx W3 5 w.heap.size [.string ⟨#[]⟩, .int .i64 0, .int .i64 0, .slice none 0 0, .slice none 0 0]) := ha.fr g (by omega)
  have HS : Hid (RS W3 r rb b.2) := hs.fr g (by omega) (by have := unhide HRB; omega)
  have HF : Hid (RFr r w W3) := by rw [unhide eW3]; exact (Fr.setCell ((unhide HF).trans hf) ⟨w.heap.size + 1, 1, none⟩ (.inl (by show w.heap.size ≤ w.heap.size + 1; omega)) _)
  clear hs hf hb ha g
  go_wp2_with fail
  rw [← unhide eW3]
  clear eW3 c1 z1
  refine (unhide H3 W3 (unhide HS)).mono ?_
  rintro e X4 ⟨rfl, hs, hf⟩
  have hb := (unhide HB).fr hf (by omega)
  have ha := (unhide HA).fr hf (by omega)
  have c2 := hb.cell (j := 2) rfl
  have z2 := hb.free 2
  obtain ⟨W4, eW4⟩ : ∃ W4, Hid (W4 = X4.setCell ⟨w.heap.size + 1, 2, none⟩ (.int .i64 (c.1 : Int))) := ⟨_, rfl⟩
  have g : Fr (fun k => k = w.heap.size + 1) X4 W4 := by rw [unhide eW4]; exact fr_set _ _ _ _
  have HB : Hid (Bx W4 5 (w.heap.size + 1) [.string a.1, .int .i64 (b.1 : Int), .int .i64 (c.1 : Int), .slice none 0 0, .slice none 0 0]) := by rw [unhide eW4]; exact hb.set (by omega) _
  have HA : Hid (Bx W4 5 w.heap.size [.string ⟨#[]⟩, .int .i64 0, .int .i64 0, .slice none 0 0, .slice none 0 0]) := ha.fr g (by omega)
  have HS : Hid (RS W4 r rb c.2) := hs.fr g (by omega) (by have := unhide HRB; omega)
  have HF : Hid (RFr r w W4) := by rw [unhide eW4]; exact (Fr.setCell ((unhide HF).trans hf) ⟨w.heap.size + 1, 2, none⟩ (.inl (by show w.heap.size ≤ w.heap.size + 1; omega)) _)
  clear hs hf hb ha g
  go_wp2_with fail
  rw [← unhide eW4]
  clear eW4 c2 z2
  refine (unhide H4 W4 (unhide HS)).mono ?_
  rintro e X5 ⟨rfl, hs, hf⟩
  have HB : Hid (Bx X5 5 (w.heap.size + 1) [.string a.1, .int .i64 (b.1 : Int), .int .i64 (c.1 : Int), .slice none 0 0, .slice none 0 0]) := (unhide HB).fr hf (by omega)
  have HA : Hid (Bx X5 5 w.heap.size [.string ⟨#[]⟩, .int .i64 0, .int .i64 0, .slice none 0 0, .slice none 0 0]) := (unhide HA).fr hf (by omega)
  have HF : Hid (RFr r w X5) := (unhide HF).trans hf
  have HS := hide hs
  clear hs hf
  go_wp2_with fail
  refine (unhide H5 X5 (unhide HS)).mono ?_
  rintro e X6 ⟨rv, ⟨rfl, hs, hf⟩, hrd, hbo, hrl⟩
  have HB : Hid (Bx X6 5 (w.heap.size + 1) [.string a.1, .int .i64 (b.1 : Int), .int .i64 (c.1 : Int), .slice none 0 0, .slice none 0 0]) := (unhide HB).fr hf (by omega)
  have HA : Hid (Bx X6 5 w.heap.size [.string ⟨#[]⟩, .int .i64 0, .int .i64 0, .slice none 0 0, .slice none 0 0]) := (unhide HA).fr hf (by omega)
  have HF : Hid (RFr r w X6) := (unhide HF).trans hf
  have HS := hide hs
  have H6' := hide (unhide H6 X6 rv hrd hbo (by omega))
  clear hs hf hrd hbo hrl
  go_wp2_with fail
  refine (unhide H6').mono ?_
  rintro e X7 ⟨cv, rfl, hgw⟩
  obtain ⟨ca, cc, rfl, _, _⟩ := hgw.1.shape
  have f7 : Fr (fun _ => False) X6 X7 := Fr.of_below hgw.2.1
  have hb := (unhide HB).fr f7 (fun e => e)
  have ha := (unhide HA).fr f7 (fun e => e)
  have hs := (unhide HS).fr f7 (fun e => e) (fun e => e)
  have HF7 : Hid (RFr r w X7) := (unhide HF).trans (Fr.of_below hgw.2.1)
  have HC7 : Hid (Ro X7 2 (.slice ca (lstOf dd).length cc) (lstOf dd).length (flt enI (lstOf dd)) ∧ ∀ k, (Value.slice ca (lstOf dd).length cc).ownBlock = some k → w.heap.size + 2 ≤ k) := ⟨hgw.1, fun k hk => by have := hgw.2.2 k hk; have := (unhide HB).lt; omega⟩
  have HB7 := hide hb
  have HA7 := hide ha
  have HS7 := hide hs
  clear hgw f7 HB HA HS HF H6'
  by_cases he : errOf dd = 0
  · have d0 : (errOf dd != 0) = false := by simp [he]
    have HZ : Hid (z = (⟨a.1, b.1, c.1, lstOf dd, ll.1⟩, ll.2.1, ll.2.2)) := by
      have := unhide hz
      rw [if_neg (by simp [he])] at this
      exact this.symm
    have c3 := hb.cell (j := 3) rfl
    have z3 := hb.free 3
    obtain ⟨W8, eW8⟩ : ∃ W8, Hid (W8 = X7.setCell ⟨w.heap.size + 1, 3, none⟩ (.slice ca (lstOf dd).length cc)) := ⟨_, rfl⟩
    have g : Fr (fun k => k = w.heap.size + 1) X7 W8 := by rw [unhide eW8]; exact fr_set _ _ _ _
    have HB : Hid (Bx W8 5 (w.heap.size + 1) [.string a.1, .int .i64 (b.1 : Int), .int .i64 (c.1 : Int), .slice ca (lstOf dd).length cc, .slice none 0 0]) := by rw [unhide eW8]; exact hb.set (by omega) _
    have HA : Hid (Bx W8 5 w.heap.size [.string ⟨#[]⟩, .int .i64 0, .int .i64 0, .slice none 0 0, .slice none 0 0]) := ha.fr g (by omega)
    have HS : Hid (RS W8 r rb d.2) := hs.fr g (by omega) (by have := unhide HRB; omega)
    have HF : Hid (RFr r w W8) := by rw [unhide eW8]; exact (Fr.setCell (unhide HF7) ⟨w.heap.size + 1, 3, none⟩ (.inl (by show w.heap.size ≤ w.heap.size + 1; omega)) _)
    have HC8 : Hid (Ro W8 2 (.slice ca (lstOf dd).length cc) (lstOf dd).length (flt enI (lstOf dd))) := (unhide HC7).1.fr g (fun k hk q => by have := (unhide HC7).2 k hk; omega)
    clear hs hb ha g he
    go_wp2_with fail
    rw [← unhide eW8]
    clear eW8 c3 z3
    refine (unhide H7 W8 (unhide HS) (by have := unhide HRB; have := (unhide HF).size; omega)).mono ?_
    rintro e X9 ⟨la, ln, lc, ⟨rfl, hs, hf⟩, hlg⟩
    have hb := (unhide HB).fr hf (by omega)
    have ha := (unhide HA).fr hf (by omega)
    have c4 := hb.cell (j := 4) rfl
    have z4 := hb.free 4
    have n0 := hb.cell (j := 0) rfl
    have n1 := hb.cell (j := 1) rfl
    have n2 := hb.cell (j := 2) rfl
    have n3 := hb.cell (j := 3) rfl
    have m0 := ha.cell (j := 0) rfl
    have m1 := ha.cell (j := 1) rfl
    have m2 := ha.cell (j := 2) rfl
    have m3 := ha.cell (j := 3) rfl
    have m4 := ha.cell (j := 4) rfl
    have y0 := ha.free 0
    have y1 := ha.free 1
    have y2 := ha.free 2
    have y3 := ha.free 3
    have y4 := ha.free 4
    have hsz8 : w.heap.size + 2 ≤ W8.heap.size := by have := (unhide HB).lt; omega
    obtain ⟨W9, eW9⟩ : ∃ W9, Hid (W9 = X9.setCell ⟨w.heap.size + 1, 4, none⟩ (.slice la ln lc)) := ⟨_, rfl⟩
    have g : Fr (fun k => k = w.heap.size + 1) X9 W9 := by rw [unhide eW9]; exact fr_set _ _ _ _
    have HB : Hid (Bx W9 5 (w.heap.size + 1) [.string a.1, .int .i64 (b.1 : Int), .int .i64 (c.1 : Int), .slice ca (lstOf dd).length cc, .slice la ln lc]) := by rw [unhide eW9]; exact hb.set (by omega) _
    have HA : Hid (Bx W9 5 w.heap.size [.string ⟨#[]⟩, .int .i64 0, .int .i64 0, .slice none 0 0, .slice none 0 0]) := ha.fr g (by omega)
    have HS : Hid (RS W9 r rb ll.2.2) := hs.fr g (by omega) (by have := unhide HRB; omega)
    have HF : Hid (RFr r w W9) := by rw [unhide eW9]; exact (Fr.setCell ((unhide HF).trans hf) ⟨w.heap.size + 1, 4, none⟩ (.inl (by show w.heap.size ≤ w.heap.size + 1; omega)) _)
    have HC9 : Hid (Ro W9 2 (.slice ca (lstOf dd).length cc) (lstOf dd).length (flt enI (lstOf dd))) := ((unhide HC8).fr hf (fun k hk q => by have := (unhide HC7).2 k hk; omega)).fr g (fun k hk q => by have := (unhide HC7).2 k hk; omega)
    have HL9 : Hid (ll.2.1 = 0 → Ro W9 4 (.slice la ln lc) ll.1.length (flt enH ll.1) ∧ ∀ k, (Value.slice la ln lc).ownBlock = some k → w.heap.size + 2 ≤ k) := fun q => by
      have h8 := hlg q
      have hsz := hsz8
      exact ⟨h8.1.fr g (fun k hk q2 => by have := h8.2 k hk; omega), fun k hk => by have := h8.2 k hk; omega⟩
    clear hs hf hb ha g hlg
    go_wp2_with fail
    rw [← unhide eW9]
    have g : Fr (fun k => k = w.heap.size) W9 (((((W9.setCell ⟨w.heap.size, 0, none⟩ (.string a.1)).setCell ⟨w.heap.size, 1, none⟩ (.int .i64 (b.1 : Int))).setCell ⟨w.heap.size, 2, none⟩ (.int .i64 (c.1 : Int))).setCell ⟨w.heap.size, 3, none⟩ (.slice ca (lstOf dd).length cc)).setCell ⟨w.heap.size, 4, none⟩ (.slice la ln lc)) := ((((((Fr.refl (fun k => k = w.heap.size) W9).setCell ⟨w.heap.size, 0, none⟩ (.inr rfl) _).setCell ⟨w.heap.size, 1, none⟩ (.inr rfl) _).setCell ⟨w.heap.size, 2, none⟩ (.inr rfl) _).setCell ⟨w.heap.size, 3, none⟩ (.inr rfl) _).setCell ⟨w.heap.size, 4, none⟩ (.inr rfl) _)
    have hA6 := ((((((unhide HA).set (j := 0) (by omega) (.string a.1)).set (j := 1) (by omega) (.int .i64 (b.1 : Int))).set (j := 2) (by omega) (.int .i64 (c.1 : Int))).set (j := 3) (by omega) (.slice ca (lstOf dd).length cc)).set (j := 4) (by omega) (.slice la ln lc))
    refine bodyPost_ret (v := .tuple #[.agg #[.string a.1, .int .i64 (b.1 : Int), .int .i64 (c.1 : Int), .slice ca (lstOf dd).length cc, .slice la ln lc], .int .i64 ll.2.1]) (by rw [results_ct (fn := Tryz.f90) (p := 2) (q := 3) (t1 := 73) rfl _ _ _ (a1 := ⟨w.heap.size, 0, none⟩) rfl (load54 hA6)]; rfl) rfl ?_
    rw [unhide HZ]
    refine ⟨_, _, _, _, _, _, _, _, _, ⟨rfl, (unhide HS).fr g (by omega) (by have := unhide HRB; omega), ((((((unhide HF).setCell ⟨w.heap.size, 0, none⟩ (.inl (Nat.le_refl _)) _).setCell ⟨w.heap.size, 1, none⟩ (.inl (Nat.le_refl _)) _).setCell ⟨w.heap.size, 2, none⟩ (.inl (Nat.le_refl _)) _).setCell ⟨w.heap.size, 3, none⟩ (.inl (Nat.le_refl _)) _).setCell ⟨w.heap.size, 4, none⟩ (.inl (Nat.le_refl _)) _)⟩, fun q => ?_⟩
    obtain ⟨l1, l2⟩ := unhide HL9 q
    refine ⟨rfl, rfl, rfl, (unhide HC9).fr g (fun k hk q2 => by have := (unhide HC7).2 k hk; omega), l1.fr g (fun k hk q2 => by have := l2 k hk; omega), fun k hk => ?_⟩
    rcases hk with hk | hk
    · have := (unhide HC7).2 k hk; omega
    · have := l2 k hk; omega
  · have d0 : (errOf dd != 0) = true := by simp [he]
    have HZ : Hid (z = (⟨ByteArray.empty, 0, 0, [], []⟩, errOf dd, d.2)) := by
      have := unhide hz
      rw [if_pos he] at this
      exact this.symm
    have HE := hide he
    have m0 := ha.cell (j := 0) rfl
    have m1 := ha.cell (j := 1) rfl
    have m2 := ha.cell (j := 2) rfl
    have m3 := ha.cell (j := 3) rfl
    have m4 := ha.cell (j := 4) rfl
    have y0 := ha.free 0
    have y1 := ha.free 1
    have y2 := ha.free 2
    have y3 := ha.free 3
    have y4 := ha.free 4
    clear hs hb ha he
    go_wp2_with fail
    have g : Fr (fun k => k = w.heap.size) X7 (((((X7.setCell ⟨w.heap.size, 0, none⟩ (.string ⟨#[]⟩)).setCell ⟨w.heap.size, 1, none⟩ (.int .i64 0)).setCell ⟨w.heap.size, 2, none⟩ (.int .i64 0)).setCell ⟨w.heap.size, 3, none⟩ (.slice none 0 0)).setCell ⟨w.heap.size, 4, none⟩ (.slice none 0 0)) := ((((((Fr.refl (fun k => k = w.heap.size) X7).setCell ⟨w.heap.size, 0, none⟩ (.inr rfl) _).setCell ⟨w.heap.size, 1, none⟩ (.inr rfl) _).setCell ⟨w.heap.size, 2, none⟩ (.inr rfl) _).setCell ⟨w.heap.size, 3, none⟩ (.inr rfl) _).setCell ⟨w.heap.size, 4, none⟩ (.inr rfl) _)
    have hA6 := ((((((unhide HA7).set (j := 0) (by omega) (.string ⟨#[]⟩)).set (j := 1) (by omega) (.int .i64 0)).set (j := 2) (by omega) (.int .i64 0)).set (j := 3) (by omega) (.slice none 0 0)).set (j := 4) (by omega) (.slice none 0 0))
    refine bodyPost_ret (v := .tuple #[.agg #[.string ⟨#[]⟩, .int .i64 0, .int .i64 0, .slice none 0 0, .slice none 0 0], .int .i64 (errOf dd)]) (by rw [results_ct (fn := Tryz.f90) (p := 2) (q := 3) (t1 := 73) rfl _ _ _ (a1 := ⟨w.heap.size, 0, none⟩) rfl (load54 hA6)]; rfl) rfl ?_
    rw [unhide HZ]
    exact ⟨_, _, _, _, _, _, _, _, _, ⟨rfl, (unhide HS7).fr g (by omega) (by have := unhide HRB; omega), ((((((unhide HF7).setCell ⟨w.heap.size, 0, none⟩ (.inl (Nat.le_refl _)) _).setCell ⟨w.heap.size, 1, none⟩ (.inl (Nat.le_refl _)) _).setCell ⟨w.heap.size, 2, none⟩ (.inl (Nat.le_refl _)) _).setCell ⟨w.heap.size, 3, none⟩ (.inl (Nat.le_refl _)) _).setCell ⟨w.heap.size, 4, none⟩ (.inl (Nat.le_refl _)) _)⟩, fun q => absurd q (unhide HE)⟩
end Go.Proofs.YtlogmdldjmkkjaaGreatDoor
