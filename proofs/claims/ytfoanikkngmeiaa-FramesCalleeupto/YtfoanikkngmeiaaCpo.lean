/-
  Objects, fibers, states copied.
-/
import Derived.Test.YtfoanikkngmeiaaOwn
namespace Go.Proofs.Ytfoanikkngmeiaa
open Go.RowKit
set_option linter.unusedVariables false
set_option linter.unusedSimpArgs false
/-- What a copy of an object answers. -/
def CpO (w : World) (o : Ob) (e : Ending) (w' : World) : Prop :=
  ∃ x : Obv, e = .returned (.agg #[.int .i64 x.kind, x.iv, x.kv, .int .i64 x.fn, .int .i64 x.cap, .bool x.shut]) ∧ ObO w' o x ∧ (∀ k, blO x k → w.heap.size ≤ k ∧ k < w'.heap.size) ∧ Below w.heap.size w w'
set_option maxRecDepth 100000 in
set_option maxHeartbeats 3200000 in
theorem copyO_any {w : World} {v : Value} {o : Ob} (h : ObA w v o) (hN : o.its.length ≤ 1048576) (hK : o.keys.length ≤ 1048576) :
    Calls Try.prog 20 #[v] w (CpO w o) := by
  obtain ⟨iv, kv, rfl, hi, hk⟩ := h
  obtain ⟨ia, ic, rfl, i1, i2⟩ := hi.shape
  obtain ⟨ka, kc, rfl, k1, k2⟩ := hk.shape
  unfold maxLen at i2 k2
  have HC := hide (fun o1 o2 o3 => copyV_any (hi.below (bl_three w o1 o2 o3) (Nat.le_refl _)) (by omega))
  have HK := hide (fun w1 (hb : Below w.heap.size w w1) => copyL_any (hk.below hb (Nat.le_refl _)) (by omega))
  clear hi hk
  obtain ⟨kd, its, ks, fn, cp, sh⟩ := o
  simp only at HC HK i1 k1 hN hK ⊢
  go_enter Try.func20, Try.ntmps20
  go_wp2_with fail
  refine (unhide HC _ _ _).mono ?_
  rintro e w1 ⟨v', rfl, hG⟩
  have hB1 := hG.2.1
  obtain ⟨b1, b2, b3⟩ := blk3 w (.cells #[.int .i64 kd, .slice ia its.length ic, .slice ka ks.length kc, .int .i64 fn, .int .i64 cp, .bool sh] 51) (.cells #[.int .i64 0, .slice none 0 0, .slice none 0 0, .int .i64 0, .int .i64 0, .bool false] 51) (.cells #[.int .i64 kd, .slice ia its.length ic, .slice ka ks.length kc, .int .i64 fn, .int .i64 cp, .bool sh] 51)
  have hs1 : w.heap.size + 1 + 1 + 1 ≤ w1.heap.size := by have := hB1.size; simpa only [World.size_alloc] using this
  have p1 := (hB1.block w.heap.size (by simp only [World.size_alloc]; omega)).trans b1
  have p2 := (hB1.block (w.heap.size + 1) (by simp only [World.size_alloc]; omega)).trans b2
  have p3 := (hB1.block (w.heap.size + 1 + 1) (by simp only [World.size_alloc]; omega)).trans b3
  have hbw : Below w.heap.size w w1 := bl_past (bl_three w _ _ _) hB1
  obtain ⟨va, vc, rfl⟩ : ∃ a c, v' = .slice a its.length c := by obtain ⟨a, c, e, _⟩ := hG.1.shape; exact ⟨a, c, e⟩
  have HR : Hid (Ro w1 2 (.slice va its.length vc) its.length (flt enI its) ∧ ∀ k, (Value.slice va its.length vc).ownBlock = some k → w.heap.size + 1 + 1 + 1 ≤ k) := ⟨hG.1, fun k hk => by have := hG.2.2 k hk; simpa only [World.size_alloc] using this⟩
  obtain ⟨q1, _, l1⟩ := blk_cells p1
  have q12 := q1 2
  obtain ⟨q3, f3, l3⟩ := blk_cells p3
  have q31 := q3 1
  have f31 := f3 1
  have HX : Hid (Below w.heap.size w (w1.setCell ⟨w.heap.size + 1 + 1, 1, none⟩ (.slice va its.length vc))) := hbw.setCell (show w.heap.size ≤ w.heap.size + 1 + 1 by omega) _
  have K2 := hide (unhide HK _ (unhide HX))
  have P2 := hide p2
  have P3 := hide p3
  clear hG hB1 b1 b2 b3 HC HK p1 p2 p3 q1 q3 f3 hbw
  go_wp2_with fail
  refine (unhide K2).mono ?_
  rintro e w2 ⟨v2, rfl, hG⟩
  have hB2 := hG.2.1
  obtain ⟨ya, yc, rfl⟩ : ∃ a c, v2 = .slice a ks.length c := by obtain ⟨a, c, e, _⟩ := hG.1.shape; exact ⟨a, c, e⟩
  have hsz : (w1.setCell ⟨w.heap.size + 1 + 1, 1, none⟩ (.slice va its.length vc)).heap.size = w1.heap.size := by simp [World.setCell]
  have p3 := (hB2.block (w.heap.size + 1 + 1) (by rw [hsz]; omega)).trans (setCell_block (unhide P3) (.slice va its.length vc))
  have p2 := (hB2.block (w.heap.size + 1) (by rw [hsz]; omega)).trans ((Below.heap_setCell _ _ _ _ (by simp)).trans (unhide P2))
  have hbw : Below w.heap.size w w2 := bl_past (unhide HX) hB2
  have fx : Fr (fun k => k = w.heap.size + 1 + 1) w1 w2 := (((Fr.refl (fun k => k = w.heap.size + 1 + 1) w1).setCell ⟨w.heap.size + 1 + 1, 1, none⟩ (.inr rfl) (.slice va its.length vc))).trans (Fr.of_below hB2)
  have HY : Hid (Ro w2 1 (.slice ya ks.length yc) ks.length (flt enL ks) ∧ (∀ k, (Value.slice ya ks.length yc).ownBlock = some k → w.heap.size + 1 + 1 + 1 ≤ k) ∧ Ro w2 2 (.slice va its.length vc) its.length (flt enI its) ∧ Below w.heap.size w w2) :=
    ⟨hG.1, fun k hk => by have := hG.2.2 k hk; rw [hsz] at this; omega, (unhide HR).1.fr fx (fun k hk e => by have := (unhide HR).2 k hk; omega), hbw⟩
  obtain ⟨q2, f2, l2⟩ := blk_cells p2
  obtain ⟨q3, f3, l3'⟩ := blk_cells p3
  have c0 := q2 0
  have c1 := q2 1
  have c2 := q2 2
  have c3 := q2 3
  have c4 := q2 4
  have c5 := q2 5
  have e0 := f2 0
  have e1 := f2 1
  have e2 := f2 2
  have e3 := f2 3
  have e4 := f2 4
  have e5 := f2 5
  have d0 := q3 0
  have d1 := q3 1
  have d2 := q3 2
  have d3 := q3 3
  have d4 := q3 4
  have d5 := q3 5
  have g2 := f3 2
  simp at c0 c1 c2 c3 c4 c5 d0 d1 d2 d3 d4 d5
  clear hG hB2 K2 p2 p3 q2 q3 f2 f3 hbw fx hsz q12 q31 f31 P2 P3 HX
  go_wp2_with fail
  refine bodyPost_ret (v := .agg #[.int .i64 kd, .slice va its.length vc, .slice ya ks.length yc, .int .i64 fn, .int .i64 cp, .bool sh]) ?_ rfl ?_
  · rw [results_cell_one rfl]
    go_simp
  · refine ⟨⟨kd, .slice va its.length vc, .slice ya ks.length yc, fn, cp, sh⟩, rfl, ?_⟩
    obtain ⟨g1, g2, g3, g4⟩ := unhide HY
    have f0 : ∀ (X : World), Fr (fun k => k = w.heap.size + 1 ∨ k = w.heap.size + 1 + 1) w2 X → ObO X ⟨kd, its, ks, fn, cp, sh⟩ ⟨kd, .slice va its.length vc, .slice ya ks.length yc, fn, cp, sh⟩ ∧ (∀ k, blO ⟨kd, .slice va its.length vc, .slice ya ks.length yc, fn, cp, sh⟩ k → w.heap.size ≤ k ∧ k < X.heap.size) ∧ Below w.heap.size w X := fun X hF => by
      have ri := g3.fr hF (fun k hk e => by have := (unhide HR).2 k hk; omega)
      have rk := g1.fr hF (fun k hk e => by have := g2 k hk; omega)
      refine ⟨⟨rfl, rfl, rfl, rfl, ri, rk⟩, fun k hk => ?_, g4.trans (hF.below g4.size (fun k hk e => by omega))⟩
      rcases hk with hk | hk
      · exact ⟨by have := (unhide HR).2 k hk; omega, ri.lt k hk⟩
      · exact ⟨by have := g2 k hk; omega, rk.lt k hk⟩
    apply f0
    repeat (first | refine Fr.setCell ?_ _ (by simp) _ | with_reducible exact Fr.refl _ _)
theorem infO : (Try.prog.info? 51).map (fun i => (i.zero, i.size, i.bytes)) = some (some (.agg #[.int .i64 0, .slice none 0 0, .slice none 0 0, .int .i64 0, .int .i64 0, .bool false]), 6, 80) := by kernel_rfl
set_option maxRecDepth 100000 in
theorem appO {w : World} {ops : Array Oper} {rest : List Oper} {o : Oper} {a : Act} {Q : Exit → Act → World → Prop}
    (hg : o.guard = none) (s x : Operand) (hop : o.op = Op.call { callee := Callee.builtin Builtin.append, args := #[s, x], argTypes := #[26, 26] })
    (v : Value) (n : Nat) (l : List Obv) (hs : a.eval s = v) (hr : Ro w 6 v n (flt enO l)) (ad : Addr) (c : Nat) (p : Obv) (hx : a.eval x = .slice (some ad) 1 c) (hc : ∀ j u, (enO p)[j]? = some u → w.cell? (ad.add j) = some u)
    (h1 : p.iv.oneCell' = true) (h2 : p.kv.oneCell' = true) (hN : n ≤ 1000000000000)
    (hK : ∀ v' w', Ro w' 6 v' (n + 1) (flt enO l ++ enO p) → w.grownBy w' v.ownBlock → (v'.ownBlock = v.ownBlock ∨ v'.ownBlock = some w.heap.size) → wpList Try.prog ops Q rest (a.put o.dst v') w') :
    wpList Try.prog ops Q (o :: rest) a w := by
  obtain ⟨i0, hi0, hz0, hz1, hz2⟩ := info_parts infO
  exact wpList_app hg s x 26 hop 51 i0 _ 6 80 Try.underlying26 hi0 hz0 hz1 hz2 rfl (by decide) v n (flt enO l) hs hr ad 1 c (enO p) hx rfl hc (by intro u hu; simp only [enO, List.mem_cons, List.not_mem_nil, or_false] at hu; rcases hu with rfl | rfl | rfl | rfl | rfl | rfl <;> first | assumption | rfl) (by omega) (by unfold maxLen; omega) (by omega) hK
/-- What a copy of objects answers. -/
def CpOs (w : World) (os : List Ob) (e : Ending) (w' : World) : Prop := ∃ v' xs, e = .returned v' ∧ OO (fun k => w.heap.size ≤ k) w' v' os xs ∧ Below w.heap.size w w'
set_option maxRecDepth 100000 in
set_option maxHeartbeats 3200000 in
theorem copyOs_any {w : World} {lv : Value} {os : List Ob} (h : OsV w lv os) (hN : os.length ≤ 1048576) (hS : ∀ o ∈ os, o.its.length ≤ 1048576 ∧ o.keys.length ≤ 1048576) :
    Calls Try.prog 5 #[lv] w (CpOs w os) := by
  obtain ⟨a, cap, rfl, hlc, hcm⟩ := h.shape
  have HH := hide h
  obtain ⟨L, hL⟩ : ∃ L, Hid (os.length = L) := ⟨_, hide rfl⟩
  rw [unhide hL] at hN hlc HH ⊢
  unfold maxLen at hcm
  have HS := hide hS
  clear h hS
  go_enter Try.func5, Try.ntmps5
  go_wp2_with fail
  go_loopg [3, 4] L (fun g t3 t4 wr => ∃ (i : Nat) (v : Value) (xs : List Obv), Hid (i + g = L) ∧ t3 = v ∧ t4 = .int .i64 (i : Int) ∧ Hid (OO (fun k => w.heap.size ≤ k) wr v (os.take i) xs ∧ Below w.heap.size w wr))
  case atStart => exact ⟨0, _, [], by unfold Hid; omega, rfl, rfl, by simpa using OW.nil _, Below.refl _ _⟩
  case round =>
    obtain ⟨i, v, xs, hi, e3, rfl, hG⟩ := hrel
    obtain rfl := e3.symm
    by_cases hlt : i < L
    · obtain ⟨f, hf⟩ : ∃ f, os[i]? = some f := ⟨_, List.getElem?_eq_getElem (by rw [unhide hL]; exact hlt)⟩
      obtain ⟨b, off, ia, ic, ka, kc, ea, hb, k0, k1, k2, k3, k4, k5, hx, hy, hsl, hsm, htl', htm⟩ := ((unhide HH).below (unhide hG).2 (Nat.le_refl _)).six hf
      cases ea
      have i0 : (0 : Int) ≤ (i : Int) := by omega
      have i1 : (i : Int) < (L : Int) := by omega
      have htl : (os.take i).length = i := by simp; rw [unhide hL]; omega
      have HC := hide (copyO_any (o := f) ⟨_, _, rfl, hx, hy⟩ (unhide HS f (List.mem_of_getElem? hf)).1 (unhide HS f (List.mem_of_getElem? hf)).2)
      have HF := hide hf
      clear hx hy hf
      unfold maxLen at hsm htm
      go_wp2_with fail
      refine (unhide HC).mono ?_
      rintro e w1 ⟨x, rfl, hv, hn, hg1⟩
      obtain ⟨va, vc, ya, yc, ex, _, _, _, _, _, _⟩ := hv.v.parts
      subst ex
      have HV := hide hv
      have HN := hide hn
      have HB1 := hide hg1
      have HRo : Hid (∀ O O2, Ro ((w1.alloc O).alloc O2) 6 v i (flt enO xs)) := fun O O2 => by
        have := (unhide hG).1.row.fr (((Fr.of_below (S := fun _ => False) hg1).alloc O).alloc O2) (fun _ _ e => e)
        rw [htl] at this
        exact this
      have HNC := hide (fun O => new_cells (w1.alloc O) #[.int .i64 f.kind, .slice va f.its.length vc, .slice ya f.keys.length yc, .int .i64 f.fn, .int .i64 f.cap, .bool f.shut] 51)
      simp only [World.size_alloc] at HNC
      clear hv hn hg1 HC k0 k1 k2 k3 k4 k5
      go_wp2_with (first | (at_builtin; refine appO rfl _ _ rfl _ i xs rfl (unhide HRo _ _) ⟨w1.heap.size + 1, 0, none⟩ 1 ⟨f.kind, .slice va f.its.length vc, .slice ya f.keys.length yc, f.fn, f.cap, f.shut⟩ rfl (unhide HNC _) rfl rfl (by omega) ?_))
      intro v' w2 hr hg hat
      have hb2 : ∀ O O2, Below wr.heap.size wr ((w1.alloc O).alloc O2) := fun O O2 => bl_past (unhide HB1) (bl_two w1 O O2)
      have hv2 : ∀ O O2, ObO ((w1.alloc O).alloc O2) f ⟨f.kind, .slice va f.its.length vc, .slice ya f.keys.length yc, f.fn, f.cap, f.shut⟩ := fun O O2 => staysO (fun _ => False) _ _ _ _ (unhide HV) (Fr.of_below (bl_two w1 O O2)) (fun _ _ e => e)
      have hsw := (unhide hG).2.size
      obtain ⟨hof2, hfr⟩ := (unhide hG).1.push staysO (hb2 _ _) (hv2 _ _) (fun k hk => ⟨(unhide HN k hk).1, Nat.lt_of_lt_of_le (unhide HN k hk).2 (by simp only [World.size_alloc]; omega)⟩) (fun k hk => by omega) hr (by rw [htl]) hg (by simpa using hat)
      rw [← take_push (unhide HF)] at hof2
      have HG2 : Hid (OO (fun k => w.heap.size ≤ k) w2 v' (os.take (i + 1)) (xs ++ [⟨f.kind, .slice va f.its.length vc, .slice ya f.keys.length yc, f.fn, f.cap, f.shut⟩]) ∧ Below w.heap.size w w2) := ⟨hof2, (unhide hG).2.trans (hfr.below hsw (fun k hk e => by have := (unhide hG).1.rb k e; omega))⟩
      clear hr hg hat hof2 hfr hb2 hv2 hsw
      go_wp2_with fail
      go_roundg (gk - 1)
      case measure => have := unhide hi; omega
      case rel => exact ⟨i + 1, v', _, by have := unhide hi; unfold Hid; omega, rfl, by go_num, HG2⟩
    · have hiL : i = L := by have := unhide hi; omega
      subst hiL
      have hG0 := unhide hG
      rw [List.take_of_length_le (by rw [unhide hL]; exact Nat.le_refl _)] at hG0
      have HG0 := hide hG0
      clear hG hG0
      go_wp2_with fail
      go_ret
      exact ⟨_, _, rfl, unhide HG0⟩
end Go.Proofs.Ytfoanikkngmeiaa
