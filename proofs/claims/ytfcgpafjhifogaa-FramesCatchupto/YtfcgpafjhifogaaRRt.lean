/-
  The document's Return.
-/
import Derived.Test.YtfcgpafjhifogaaSh
import Derived.Test.YtfcgpafjhifogaaRTk
namespace Go.Proofs.Ytfcgpafjhifogaa
open Go.RowKit
set_option linter.unusedVariables false
set_option linter.unusedSimpArgs false
/-- append of one value, in a region that draws. -/
theorem step_appW {w : World} {ops : Array Oper} {o : Oper} {a : Act} {K : Act → World → Prop} {Q : Exit → Act → World → Prop} {E : Prop} (hw : Region.wanted o (yielded ops a.tmps) = true) (s x : Operand)
    (ho : o.op = .call { callee := .builtin .append, args := #[s, x], argTypes := #[26, 26] }) (v u : Value) (hs : a.eval s = v) (hx : a.eval x = u) (n : Nat) (l : List (Int × Int)) (p : Int × Int)
    (hr : Ro w 2 v n (flt enI l)) (hu : Rx w 2 u 1 (flt enI [p])) (hN : n ≤ 3000000)
    (h : ∀ v' w', Ro w' 2 v' (n + 1) (flt enI l ++ enI p) → w.grownBy w' v.ownBlock → (v'.ownBlock = v.ownBlock ∨ v'.ownBlock = some w.heap.size) → K (a.put o.dst v') w') :
    if Region.wanted o (yielded ops a.tmps) = true then Oper.wp Try.prog o a w K Q else E := by
  rw [flt_one] at hu
  obtain ⟨v', w', hrun, h2, h3, h4⟩ := Ro.appX 26 o.type 41 _ Try.underlying26 Try.info41 rfl (by omega) hr hu (by intro u hu; simp only [enI, List.mem_cons, List.not_mem_nil, or_false] at hu; rcases hu with rfl | rfl <;> rfl) (by unfold maxLen; omega) (by omega)
  rw [if_pos hw]
  unfold Oper.wp
  simp [execOp, ho, resolve, invoke, builtin, hs, hx, hrun, Result.andThen]
  exact h v' w' h2 h3 h4
theorem flt_setM (xs : List Fmv) (m : Nat) (p : Fmv) (hm : m < xs.length) (j : Nat) : (flt enM (xs.set m p))[j]? = if m * 3 ≤ j ∧ j < m * 3 + 3 then (enM p)[j - m * 3]? else (flt enM xs)[j]? := flt_set zM xs m p hm j
/-- A frame's slots are set, and its place. -/
theorem OF.put {B : Nat} {w w5 : World} {fs : List Fm} {xs : List Fmv} {g off n cap m : Nat} {f G : Fm} {x : Fmv} {sv : Value} (h : OF B w (.slice (some ⟨g, off, none⟩) n cap) fs xs) (hn : fs.length = n) (hf : fs[m]? = some f) (hx : xs[m]? = some x)
    (hF : Fr (fun k => x.sv.ownBlock = some k) w w5) (hs : Ro w5 2 sv G.sl.length (flt enI G.sl)) (hown : ∀ k, sv.ownBlock = some k → x.sv.ownBlock = some k ∨ w.heap.size ≤ k) (hfn : G.fn = f.fn) :
    OF B ((w5.setCell ⟨g, off + m * 3 + 2, none⟩ sv).setCell ⟨g, off + m * 3 + 1, none⟩ (.int .i64 G.pc)) (.slice (some ⟨g, off, none⟩) n cap) (fs.set m G) (xs.set m ⟨G.fn, G.pc, sv⟩) ∧
    Fr (fun k => x.sv.ownBlock = some k ∨ k = g) w ((w5.setCell ⟨g, off + m * 3 + 2, none⟩ sv).setCell ⟨g, off + m * 3 + 1, none⟩ (.int .i64 G.pc)) := by
  subst hn
  have hm := (List.getElem?_eq_some_iff.1 hf).1
  have hl := h.len
  have hge : x.sv.ownBlock ≠ some g := fun e => (h.eb m x g hx e).2 rfl
  have r5 : Ro w5 3 (.slice (some ⟨g, off, none⟩) fs.length cap) fs.length (flt enM xs) := h.row.fr hF (fun k hk e => by cases hk; exact hge e)
  obtain ⟨_, _, e0, hcap, _⟩ := r5.shape
  cases e0
  have gl := h.row.lt g rfl
  have hc3 : fs.length * 3 ≤ cap * 3 := Nat.mul_le_mul_right _ hcap
  have hxf : x.fn = f.fn := (h.el m f x hf hx).1
  obtain ⟨s1, s2⟩ := r5.sets (v := .slice (some ⟨g, off, none⟩) fs.length cap) rfl (o := off + m * 3 + 2) (m := fs.length) (vs := [sv]) (ys := flt enM (xs.set m ⟨x.fn, x.pc, sv⟩)) (by omega) (by simp; omega) hcap (by rw [flt_length zM, List.length_set, hl]) (fun j hj => by
    rw [flt_setM xs m _ (by omega)]
    simp only [List.length_cons, List.length_nil]
    by_cases q : m * 3 ≤ j ∧ j < m * 3 + 3
    · rw [if_pos q]
      have hat := fun jj hjj => flt_at zM hx jj hjj
      by_cases q2 : j = m * 3 + 2
      · subst q2
        rw [if_pos (by omega), show m * 3 + 2 - m * 3 = 2 by omega, show off + (m * 3 + 2) - (off + m * 3 + 2) = 0 by omega]
        rfl
      · rw [if_neg (by omega)]
        obtain ⟨d, hd⟩ : ∃ d, j = m * 3 + d := ⟨j - m * 3, by omega⟩
        subst hd
        rw [hat d (by omega), Nat.add_sub_cancel_left]
        match d, (by omega : d < 2) with
        | 0, _ => rfl
        | 1, _ => rfl
    · rw [if_neg q, if_neg (by omega)]) (fun j hj q => by omega)
  obtain ⟨u1, u2⟩ := s1.sets (v := .slice (some ⟨g, off, none⟩) fs.length cap) rfl (o := off + m * 3 + 1) (m := fs.length) (vs := [.int .i64 G.pc]) (ys := flt enM (xs.set m ⟨G.fn, G.pc, sv⟩)) (by omega) (by simp; omega) hcap (by rw [flt_length zM, List.length_set, hl]) (fun j hj => by
    rw [flt_setM xs m _ (by omega), flt_setM xs m _ (by omega)]
    simp only [List.length_cons, List.length_nil]
    by_cases q : m * 3 ≤ j ∧ j < m * 3 + 3
    · rw [if_pos q, if_pos q]
      obtain ⟨d, hd⟩ : ∃ d, j = m * 3 + d := ⟨j - m * 3, by omega⟩
      subst hd
      rw [Nat.add_sub_cancel_left]
      match d, (by omega : d < 3) with
      | 0, _ => rw [if_neg (by omega)]; simp [enM, hfn, hxf]
      | 1, _ => rw [if_pos (by omega), show off + (m * 3 + 1) - (off + m * 3 + 1) = 0 by omega]; rfl
      | 2, _ => rw [if_neg (by omega)]; rfl
    · rw [if_neg q, if_neg (by omega), if_neg q]) (fun j hj q => by omega)
  have f5 : Fr (fun k => x.sv.ownBlock = some k ∨ k = g) w5 ((w5.setCell ⟨g, off + m * 3 + 2, none⟩ sv).setCell ⟨g, off + m * 3 + 1, none⟩ (.int .i64 G.pc)) := ((Fr.refl _ w5).setCell _ (.inr (.inr rfl)) _).setCell _ (.inr (.inr rfl)) _
  have f6 : Fr (fun k => k = g) w5 ((w5.setCell ⟨g, off + m * 3 + 2, none⟩ sv).setCell ⟨g, off + m * 3 + 1, none⟩ (.int .i64 G.pc)) := ((Fr.refl (fun k => k = g) w5).setCell ⟨g, off + m * 3 + 2, none⟩ (.inr rfl) sv).setCell ⟨g, off + m * 3 + 1, none⟩ (.inr rfl) (.int .i64 G.pc)
  have hBs : B ≤ w.heap.size := by have := h.rb g rfl; omega
  refine ⟨⟨by simp [hl], by rw [List.length_set]; exact u1, h.rb, fun i z y hz hy => ?_, fun i y k hy hk => ?_, fun i j y z k hij hy hz hk e => ?_⟩, (hF.mono (fun k _ e => .inl e)).trans f5⟩
  · by_cases q : i = m
    · subst q
      rw [List.getElem?_set_self (by omega)] at hz
      rw [List.getElem?_set_self (by omega)] at hy
      cases hz; cases hy
      exact ⟨rfl, rfl, hs.fr f6 (fun k hk e => by
        subst e
        rcases hown k hk with r | r
        · exact hge r
        · omega)⟩
    · rw [List.getElem?_set_ne (fun e => q e.symm)] at hz hy
      obtain ⟨e1, e2, e3⟩ := h.el i z y hz hy
      refine ⟨e1, e2, (e3.fr hF (fun k hk e => ?_)).fr f6 (fun k hk e => ?_)⟩
      · rcases Nat.lt_or_gt_of_ne q with r | r
        · exact h.ap i m y x k r hy hx hk e
        · exact h.ap m i x y k r hx hy e hk
      · subst e; exact (h.eb i y k hy hk).2 rfl
  · by_cases q : i = m
    · subst q
      rw [List.getElem?_set_self (by omega)] at hy
      cases hy
      rcases hown k hk with r | r
      · exact h.eb i x k hx r
      · exact ⟨by omega, fun e => by have e2 : g = k := Option.some.inj e; omega⟩
    · rw [List.getElem?_set_ne (fun e => q e.symm)] at hy
      exact h.eb i y k hy hk
  · by_cases q : i = m
    · subst q
      rw [List.getElem?_set_self (by omega)] at hy
      rw [List.getElem?_set_ne (by omega)] at hz
      cases hy
      rcases hown k hk with r | r
      · exact h.ap i j x z k hij hx hz r e
      · have := h.slt hz e; omega
    · rw [List.getElem?_set_ne (fun e => q e.symm)] at hy
      by_cases q2 : j = m
      · subst q2
        rw [List.getElem?_set_self (by omega)] at hz
        cases hz
        rcases hown k e with r | r
        · exact h.ap i j y x k hij hy hx hk r
        · have := h.slt hy hk; omega
      · rw [List.getElem?_set_ne (fun e => q2 e.symm)] at hz
        exact h.ap i j y z k hij hy hz hk e
/-- What the document's Return and Catch answer. -/
def RcP (w : World) (o : Option (List Fm)) (e : Ending) (w' : World) : Prop := ∃ v' xs, e = .returned (.tuple #[v', .bool o.isSome]) ∧ OF w.heap.size w' v' (o.getD []) xs ∧ Below w.heap.size w w'
set_option maxRecDepth 100000 in
set_option maxHeartbeats 6400000 in
theorem rreturn_any {w : World} {lv : Value} {fs : List Fm} (x : Int × Int) (hl : FsV w lv fs) (hL : fs.length ≤ 1048576) (hS : ∀ f ∈ fs, f.sl.length ≤ 1048576) :
    Calls Try.prog 24 #[lv, .agg #[.int .i64 x.1, .int .i64 x.2]] w (RcP w (rt fs x)) := by
  obtain ⟨a, cap, rfl, hlc, hcm⟩ := hl.shape
  unfold maxLen at hcm
  by_cases q : fs.length < 2
  · have hr : rt fs x = none := by unfold rt; rw [if_pos q]
    rw [hr]
    obtain ⟨N, hN⟩ : ∃ N, Hid (fs.length = N) := ⟨_, hide rfl⟩
    rw [unhide hN] at q hL hlc ⊢
    have hw1 : IntKind.i64.wrap ((N : Int) - 1) = (N : Int) - 1 := by go_arith
    have q' : decide ((N : Int) - 1 < 1) = true := decide_eq_true (by omega)
    clear hl hr
    go_enter Try.func24, Try.ntmps24
    go_wp2_with fail
    go_ret2
    exact ⟨_, [], rfl, OF.nil _ _, (Below.refl _ w).alloc (Nat.le_refl _) _⟩
  · obtain ⟨n, hn⟩ : ∃ n, fs.length = n + 2 := ⟨fs.length - 2, by omega⟩
    obtain ⟨f, hf⟩ : ∃ f, fs[n]? = some f := ⟨_, List.getElem?_eq_getElem (by omega)⟩
    obtain ⟨PC, hPC⟩ : ∃ PC, IntKind.i64.wrap (f.pc + 1) = PC := ⟨_, rfl⟩
    obtain ⟨G, hG⟩ : ∃ G : Fm, Hid ((⟨f.fn, PC, f.sl ++ [x]⟩ : Fm) = G) := ⟨_, hide rfl⟩
    have hr : rt fs x = some (fs.take n ++ [G]) := by
      unfold rt
      rw [if_neg q, show fs.length - 2 = n by omega, hf]
      simp only [hPC, unhide hG]
    rw [hr]
    have htl : (fs.take (n + 1)).length = n + 1 := by rw [List.length_take]; omega
    have hft : (fs.take (n + 1))[n]? = some f := by rw [List.getElem?_take, if_pos (by omega)]; exact hf
    have hset : (fs.take (n + 1)).set n G = fs.take n ++ [G] := by
      refine List.ext_getElem? (fun i => ?_)
      by_cases qi : i = n
      · subst qi
        rw [List.getElem?_set_self (by omega), List.getElem?_append_right (by rw [List.length_take]; omega), List.length_take, Nat.min_eq_left (by omega), Nat.sub_self]
        rfl
      · rw [List.getElem?_set_ne (fun e => qi e.symm), List.getElem?_take]
        by_cases qj : i < n
        · rw [if_pos (by omega), List.getElem?_append_left (by rw [List.length_take]; omega), List.getElem?_take, if_pos qj]
        · rw [if_neg (by omega), List.getElem?_append_right (by rw [List.length_take]; omega), List.length_take, Nat.min_eq_left (by omega)]
          exact (List.getElem?_eq_none (by simp; omega)).symm
    have HL := hide hl
    have HC := hide (fun (Y : World) (hb : Below w.heap.size w Y) => copyMs_any (lv := .slice a (n + 1) cap) (fs := fs.take (n + 1)) ((by rw [hn] at hl; exact hl : FsV w (.slice a (n + 2) cap) fs).below hb (Nat.le_refl _) |>.upto (by omega)) (by omega) (fun z hz => hS z (List.mem_of_mem_take hz)))
    have hfs := hS f (List.mem_of_getElem? hf)
    rw [hn] at hL hlc ⊢
    have hw1 : IntKind.i64.wrap ((n : Int) + 2 - 1) = (n : Int) + 1 := by rw [show (n : Int) + 2 - 1 = (n : Int) + 1 by omega]; go_arith
    have hw2 : IntKind.i64.wrap ((n : Int) + 1 - 1) = (n : Int) := by rw [show (n : Int) + 1 - 1 = (n : Int) by omega]; go_arith
    have hw3 : IntKind.i64.wrap (n : Int) = (n : Int) := by go_arith
    have m4 : (n : Int) < ((n + 1 : Nat) : Int) := by omega
    have m5 : n < n + 1 := by omega
    have q' : decide ((n : Int) + 1 < 1) = false := decide_eq_false (by omega)
    have m0 : (0 : Int) ≤ (n : Int) := by omega
    have m1 : (n : Int) < (n : Int) + 1 := by omega
    have m2 : (0 : Int) ≤ (n : Int) + 1 := by omega
    have m3 : (n : Int) + 1 ≤ (cap : Int) := by omega
    have HSET := hide hset
    have HFT := hide hft
    have HTL := hide htl
    obtain ⟨gc, hgc⟩ : ∃ v : Int, f.pc = v := ⟨_, rfl⟩
    have HGC := hide hgc
    rw [hgc] at hPC
    have HPC := hide hPC
    clear hl hr hn hf hS q hset hft htl HL hgc
    go_enter Try.func24, Try.ntmps24
    go_wp2_with fail
    refine (unhide HC _ ((Below.refl _ w).alloc (Nat.le_refl _) _)).mono ?_
    rintro e w3 ⟨v3, xs3, rfl, ho3, hb3⟩
    obtain ⟨g, off, cp3, ev3, hcp, hcpm, gl, _⟩ := ho3.row.full (by rw [unhide HTL]; omega)
    rw [unhide HTL] at ev3 hcp
    subst ev3
    obtain ⟨y, hy⟩ : ∃ y, xs3[n]? = some y := ⟨_, List.getElem?_eq_getElem (by rw [ho3.len, unhide HTL]; omega)⟩
    obtain ⟨e1, e2, e3⟩ := ho3.el n f y (unhide HFT) hy
    obtain ⟨ya, yc, ey, _⟩ := e3.shape
    obtain ⟨b', o', c', eb', _, _, _, hcs⟩ := Rx.elem zM (by have := Rx.of_ro ho3.row; rw [ho3.len.symm] at this; exact this) hy
    rw [ho3.len, unhide HTL] at eb'
    cases eb'
    obtain ⟨fl, hfl⟩ : ∃ n, Hid (f.sl.length = n) := ⟨_, hide rfl⟩
    have k1 := hcs 1 _ rfl
    have k2 := hcs 2 _ rfl
    rw [e2, unhide HGC] at k1
    rw [ey, unhide hfl] at k2
    have fz := fun j => ho3.row.free (by rw [unhide HTL]) j
    have fz1 := fz (off + n * 3 + 1)
    have fz2 := fz (off + n * 3 + 2)
    have HY := hide hy
    have HE3 : Hid (Ro w3 2 (.slice ya fl yc) f.sl.length (flt enI f.sl)) := by rw [← unhide hfl, ← ey]; exact e3
    have HYS : Hid (y.sv = .slice ya fl yc) := by rw [ey, unhide hfl]; exact hide rfl
    have HO3 := hide ho3
    have HB3 := hide hb3
    have bx := heap_alloc_new w (.cells #[.int .i64 x.1, .int .i64 x.2] 41)
    obtain ⟨c1, _, l1⟩ := blk_cells (blkT bx hb3)
    have x0 := c1 0
    have x1 := c1 1
    have HYG : Hid ((Value.slice ya fl yc).ownBlock ≠ some g) := by rw [← unhide HYS]; exact fun e => (ho3.eb n y g hy e).2 rfl
    have HYB : Hid (∀ k, (Value.slice ya fl yc).ownBlock = some k → w.heap.size + 1 ≤ k) := fun k hk => by rw [← unhide HYS] at hk; have := (ho3.eb n y k hy hk).1; simpa using this
    have lgx : w.heap.size < g := by have := ho3.rb g rfl; simp at this; omega
    have hfl1 : fl ≤ 1048576 := by rw [← unhide hfl]; exact hfs
    clear ho3 hb3 hcs e1 e2 e3 ey hy c1 fz HC bx hPC hfs
    go_wp2_with fail
    go_cut [7] from 8 (fun t7 wc => t7 = .slice (some ⟨g, off, none⟩) (n + 1) cp3 ∧ ∃ (sv : Value) (w5 : World), Hid (wc = w5.setCell ⟨g, off + n * 3 + 2, none⟩ sv ∧ Fr (fun k => (Value.slice ya fl yc).ownBlock = some k) w3 w5 ∧ Ro w5 2 sv (f.sl ++ [x]).length (flt enI (f.sl ++ [x])) ∧ ∀ k, sv.ownBlock = some k → (Value.slice ya fl yc).ownBlock = some k ∨ w3.heap.size ≤ k))
    case first =>
     as_aux_lemma =>
      have HSA : Hid (∀ O : Obj, (w3.drew.alloc O).cell? ⟨w.heap.size, 0, none⟩ = some (.int .i64 x.1) ∧ (w3.drew.alloc O).cell? ⟨w.heap.size, 1, none⟩ = some (.int .i64 x.2)) := (have h0 := hide x0; have h1 := hide x1; fun O => (have fq : Fr (fun _ => False) w3 (w3.drew.alloc O) := ((Fr.refl _ w3).drew).alloc O; ⟨(fq.cell (a := ⟨w.heap.size, 0, none⟩) l1 (fun e => e)).trans (unhide h0), (fq.cell (a := ⟨w.heap.size, 1, none⟩) l1 (fun e => e)).trans (unhide h1)⟩))
      refine wp_region_held_drew (S := (fun w' => w'.cell? ⟨w.heap.size, 0, none⟩ = some (.int .i64 x.1) ∧ w'.cell? ⟨w.heap.size, 1, none⟩ = some (.int .i64 x.2))) (by kernel_rfl) (⟨x0, x1⟩) (fun hHeld => ?_)
      refine wpAnyH_take (i := 0) (oi := _) (v := .slice (some ⟨g, off, none⟩) (n + 1) cp3) rfl (by kernel_rfl) (by kernel_rfl) (by kernel_rfl) (fun _ _ _ h => h) (Or.inl ⟨by rfl, (by intro w hSw; go_simp)⟩) (by assumption) ?_
      refine wpAnyH_take (i := 1) (oi := _) (v := .int .i64 ((n : Int) + 1)) rfl (by kernel_rfl) (by kernel_rfl) (by kernel_rfl) (fun _ _ _ h => h) (Or.inl ⟨by rfl, (by intro w hSw; go_simp)⟩) (by assumption) ?_
      refine wpAnyH_take (i := 2) (oi := _) (v := .int .i64 (n : Int)) rfl (by kernel_rfl) (by kernel_rfl) (by kernel_rfl) (fun _ _ _ h => h) (Or.inl ⟨by rfl, (by intro w hSw; go_simp)⟩) (by assumption) ?_
      go_simp
      refine wpAnyH_take (i := 3) (oi := _) (v := .slice (some ⟨g, off, none⟩) (n + 1) cp3) rfl (by kernel_rfl) (by kernel_rfl) (by kernel_rfl) (fun _ _ _ h => h) (Or.inl ⟨by rfl, (by intro w hSw; go_simp)⟩) (by assumption) ?_
      refine wpAnyH_take (i := 4) (oi := _) (v := .int .i64 ((n : Int) + 1)) rfl (by kernel_rfl) (by kernel_rfl) (by kernel_rfl) (fun _ _ _ h => h) (Or.inl ⟨by rfl, (by intro w hSw; go_simp)⟩) (by assumption) ?_
      refine wpAnyH_take (i := 5) (oi := _) (v := .int .i64 (n : Int)) rfl (by kernel_rfl) (by kernel_rfl) (by kernel_rfl) (fun _ _ _ h => h) (Or.inl ⟨by rfl, (by intro w hSw; go_simp)⟩) (by assumption) ?_
      go_simp
      refine wpAnyH_take (i := 6) (oi := _) (v := .pointer (some ⟨g, off + n * 3, none⟩)) rfl (by kernel_rfl) (by kernel_rfl) (by kernel_rfl) (fun _ _ _ h => h) (Or.inl ⟨by rfl, (by intro w hSw; go_simp)⟩) (by assumption) ?_
      go_simp
      refine wpAnyH_take (i := 7) (oi := _) (v := .pointer (some ⟨g, off + n * 3 + 2, none⟩)) rfl (by kernel_rfl) (by kernel_rfl) (by kernel_rfl) (fun _ _ _ h => h) (Or.inl ⟨by rfl, (by intro w hSw; go_simp)⟩) (by assumption) ?_
      go_simp
      refine wpAnyH_take (i := 9) (oi := _) (v := .agg #[.int .i64 x.1, .int .i64 x.2]) rfl (by kernel_rfl) (by kernel_rfl) (by kernel_rfl) (fun _ _ _ h => h) (Or.inl ⟨by rfl, (by intro w hSw; go_simp)⟩) (by assumption) ?_
      go_simp
      refine wpAnyH_ready (rs := [8, 10]) (by kernel_rfl) (by simp) ?_
      refine AllReadyH.cons (o := _) rfl (fun K hK => ?_) (AllReadyH.cons (o := _) rfl (fun K hK => ?_) AllReadyH.nil)
      · go_simp
        refine hK.out _ _ (hHeld) (fun hHeld8x => ?_)
        clear hK K
        go_simp
        refine wpAnyH_ready (rs := [10]) (by kernel_rfl) (by simp) ?_
        refine AllReadyH.cons (o := _) rfl (fun K hK => ?_) AllReadyH.nil
        go_simp
        refine hK.out _ _ (unhide HSA _) (fun hHeld10x => ?_)
        clear hK K
        go_simp
        refine wpAnyH_ready (rs := [11]) (by kernel_rfl) (by simp) ?_
        refine AllReadyH.cons (o := _) rfl (fun K hK => ?_) AllReadyH.nil
        refine step_appW (by rfl) _ _ rfl _ _ rfl rfl _ f.sl x ((unhide HE3).fr (((Fr.refl (fun _ => False) w3).drew).alloc _) (fun _ _ e => e)) (rx_blk zI (heap_alloc_new _ _) [x] rfl 1 rfl (by unfold maxLen; omega)) (by have := unhide hfl; omega) ?_
        intro v5 w5 hr5 hgr5 hat5
        have hF5 : Fr (fun k => (Value.slice ya fl yc).ownBlock = some k) w3 w5 := ((((Fr.refl _ w3).drew).alloc _).grown hgr5 (fun k e => .inr e))
        have k5 : w5.cell? ⟨g, off + n * 3 + 2, none⟩ = some (.slice ya fl yc) := (hF5.cell (a := ⟨g, _, none⟩) gl (unhide HYG)).trans k2
        have f5 : w5.frozen? ⟨g, off + n * 3 + 2, none⟩ = false := (hF5.frozen (a := ⟨g, _, none⟩) gl (unhide HYG)).trans fz2
        have g5 : g < w5.heap.size := Nat.lt_of_lt_of_le gl hF5.size
        obtain ⟨a5, c5, ev5, _⟩ := hr5.shape
        subst ev5
        have s5 := hF5.size
        have hS5 : w5.cell? ⟨w.heap.size, 0, none⟩ = some (.int .i64 x.1) ∧ w5.cell? ⟨w.heap.size, 1, none⟩ = some (.int .i64 x.2) := ⟨(hF5.cell (a := ⟨w.heap.size, 0, none⟩) l1 (fun e => Nat.lt_irrefl _ (unhide HYB _ e))).trans x0, (hF5.cell (a := ⟨w.heap.size, 1, none⟩) l1 (fun e => Nat.lt_irrefl _ (unhide HYB _ e))).trans x1⟩
        have hS6 : ∀ u, (w5.setCell ⟨g, off + n * 3 + 2, none⟩ u).cell? ⟨w.heap.size, 0, none⟩ = some (.int .i64 x.1) ∧ (w5.setCell ⟨g, off + n * 3 + 2, none⟩ u).cell? ⟨w.heap.size, 1, none⟩ = some (.int .i64 x.2) := fun u => (have fq : Fr (fun k => k = g) w5 (w5.setCell ⟨g, off + n * 3 + 2, none⟩ u) := (Fr.refl (fun k => k = g) w5).setCell ⟨g, off + n * 3 + 2, none⟩ (.inr rfl) u; ⟨(fq.cell (a := ⟨w.heap.size, 0, none⟩) (Nat.lt_of_lt_of_le l1 s5) (by show ¬ (w.heap.size = g); omega)).trans hS5.1, (fq.cell (a := ⟨w.heap.size, 1, none⟩) (Nat.lt_of_lt_of_le l1 s5) (by show ¬ (w.heap.size = g); omega)).trans hS5.2⟩)
        refine hK.out _ _ (hS5) (fun hHeld11x => ?_)
        clear hK K
        go_simp
        refine wpAnyH_take (i := 12) (oi := _) (v := .pointer (some ⟨g, off + n * 3, none⟩)) rfl (by kernel_rfl) (by kernel_rfl) (by kernel_rfl) (fun _ _ _ h => h) (Or.inl ⟨by rfl, (by intro w hSw; go_simp)⟩) (by assumption) ?_
        go_simp
        refine wpAnyH_take (i := 13) (oi := _) (v := .pointer (some ⟨g, off + n * 3 + 2, none⟩)) rfl (by kernel_rfl) (by kernel_rfl) (by kernel_rfl) (fun _ _ _ h => h) (Or.inl ⟨by rfl, (by intro w hSw; go_simp)⟩) (by assumption) ?_
        go_simp
        refine wpAnyH_ready (rs := [14]) (by kernel_rfl) (by simp) ?_
        refine AllReadyH.cons (o := _) rfl (fun K hK => ?_) AllReadyH.nil
        go_simp
        refine hK.out _ _ (hS6 _) (fun hHeld14x => ?_)
        clear hK K
        refine wpAnyH_done (by kernel_rfl) ?_ _
        go_wp2_with fail
        go_meet
        case rel => exact ⟨rfl, _, w5, rfl, hF5, (by rw [List.length_append, flt_append, flt_one]; exact hr5), fun k hk => by
          rcases hat5 with r | r
          · rw [r] at hk; exact .inl hk
          · rw [r] at hk; cases hk; right; simp⟩
      · go_simp
        refine hK.out _ _ (unhide HSA _) (fun hHeld10x => ?_)
        clear hK K
        go_simp
        refine wpAnyH_ready (rs := [8]) (by kernel_rfl) (by simp) ?_
        refine AllReadyH.cons (o := _) rfl (fun K hK => ?_) AllReadyH.nil
        go_simp
        refine hK.out _ _ (unhide HSA _) (fun hHeld8x => ?_)
        clear hK K
        go_simp
        refine wpAnyH_ready (rs := [11]) (by kernel_rfl) (by simp) ?_
        refine AllReadyH.cons (o := _) rfl (fun K hK => ?_) AllReadyH.nil
        refine step_appW (by rfl) _ _ rfl _ _ rfl rfl _ f.sl x ((unhide HE3).fr (((Fr.refl (fun _ => False) w3).drew).alloc _) (fun _ _ e => e)) (rx_blk zI (heap_alloc_new _ _) [x] rfl 1 rfl (by unfold maxLen; omega)) (by have := unhide hfl; omega) ?_
        intro v5 w5 hr5 hgr5 hat5
        have hF5 : Fr (fun k => (Value.slice ya fl yc).ownBlock = some k) w3 w5 := ((((Fr.refl _ w3).drew).alloc _).grown hgr5 (fun k e => .inr e))
        have k5 : w5.cell? ⟨g, off + n * 3 + 2, none⟩ = some (.slice ya fl yc) := (hF5.cell (a := ⟨g, _, none⟩) gl (unhide HYG)).trans k2
        have f5 : w5.frozen? ⟨g, off + n * 3 + 2, none⟩ = false := (hF5.frozen (a := ⟨g, _, none⟩) gl (unhide HYG)).trans fz2
        have g5 : g < w5.heap.size := Nat.lt_of_lt_of_le gl hF5.size
        obtain ⟨a5, c5, ev5, _⟩ := hr5.shape
        subst ev5
        have s5 := hF5.size
        have hS5 : w5.cell? ⟨w.heap.size, 0, none⟩ = some (.int .i64 x.1) ∧ w5.cell? ⟨w.heap.size, 1, none⟩ = some (.int .i64 x.2) := ⟨(hF5.cell (a := ⟨w.heap.size, 0, none⟩) l1 (fun e => Nat.lt_irrefl _ (unhide HYB _ e))).trans x0, (hF5.cell (a := ⟨w.heap.size, 1, none⟩) l1 (fun e => Nat.lt_irrefl _ (unhide HYB _ e))).trans x1⟩
        have hS6 : ∀ u, (w5.setCell ⟨g, off + n * 3 + 2, none⟩ u).cell? ⟨w.heap.size, 0, none⟩ = some (.int .i64 x.1) ∧ (w5.setCell ⟨g, off + n * 3 + 2, none⟩ u).cell? ⟨w.heap.size, 1, none⟩ = some (.int .i64 x.2) := fun u => (have fq : Fr (fun k => k = g) w5 (w5.setCell ⟨g, off + n * 3 + 2, none⟩ u) := (Fr.refl (fun k => k = g) w5).setCell ⟨g, off + n * 3 + 2, none⟩ (.inr rfl) u; ⟨(fq.cell (a := ⟨w.heap.size, 0, none⟩) (Nat.lt_of_lt_of_le l1 s5) (by show ¬ (w.heap.size = g); omega)).trans hS5.1, (fq.cell (a := ⟨w.heap.size, 1, none⟩) (Nat.lt_of_lt_of_le l1 s5) (by show ¬ (w.heap.size = g); omega)).trans hS5.2⟩)
        refine hK.out _ _ (hS5) (fun hHeld11x => ?_)
        clear hK K
        go_simp
        refine wpAnyH_take (i := 12) (oi := _) (v := .pointer (some ⟨g, off + n * 3, none⟩)) rfl (by kernel_rfl) (by kernel_rfl) (by kernel_rfl) (fun _ _ _ h => h) (Or.inl ⟨by rfl, (by intro w hSw; go_simp)⟩) (by assumption) ?_
        go_simp
        refine wpAnyH_take (i := 13) (oi := _) (v := .pointer (some ⟨g, off + n * 3 + 2, none⟩)) rfl (by kernel_rfl) (by kernel_rfl) (by kernel_rfl) (fun _ _ _ h => h) (Or.inl ⟨by rfl, (by intro w hSw; go_simp)⟩) (by assumption) ?_
        go_simp
        refine wpAnyH_ready (rs := [14]) (by kernel_rfl) (by simp) ?_
        refine AllReadyH.cons (o := _) rfl (fun K hK => ?_) AllReadyH.nil
        go_simp
        refine hK.out _ _ (hS6 _) (fun hHeld14x => ?_)
        clear hK K
        refine wpAnyH_done (by kernel_rfl) ?_ _
        go_wp2_with fail
        go_meet
        case rel => exact ⟨rfl, _, w5, rfl, hF5, (by rw [List.length_append, flt_append, flt_one]; exact hr5), fun k hk => by
          rcases hat5 with r | r
          · rw [r] at hk; exact .inl hk
          · rw [r] at hk; cases hk; right; simp⟩
    case rest =>
      obtain ⟨rfl, sv, w5, hcr⟩ := hcut
      obtain ⟨ewc, hF5, hr5, how⟩ := unhide hcr
      subst ewc
      have gl5 := Nat.lt_of_lt_of_le gl hF5.size
      have p1 := (hF5.cell (a := ⟨g, off + n * 3 + 1, none⟩) gl (unhide HYG)).trans k1
      have pf1 := (hF5.frozen (a := ⟨g, off + n * 3 + 1, none⟩) gl (unhide HYG)).trans fz1
      have HFIN : Hid ((∃ xs', OF w.heap.size ((w5.setCell ⟨g, off + n * 3 + 2, none⟩ sv).setCell ⟨g, off + n * 3 + 1, none⟩ (.int .i64 PC)) (.slice (some ⟨g, off, none⟩) (n + 1) cp3) (fs.take n ++ [G]) xs') ∧ Below w.heap.size w ((w5.setCell ⟨g, off + n * 3 + 2, none⟩ sv).setCell ⟨g, off + n * 3 + 1, none⟩ (.int .i64 PC))) := by
        have hGp : G.pc = PC := by rw [← unhide hG]
        have hGs : G.sl = f.sl ++ [x] := by rw [← unhide hG]
        obtain ⟨z1, z2⟩ := (unhide HO3).put (G := G) (unhide HTL) (unhide HFT) (unhide HY) (by rw [unhide HYS]; exact hF5) (by rw [hGs]; exact hr5) (by rw [unhide HYS]; exact how) (by rw [← unhide hG])
        rw [hGp] at z1 z2
        rw [unhide HSET] at z1
        have hbb := (Below.refl w.heap.size w).alloc (Nat.le_refl _) (.cells #[.int .i64 x.1, .int .i64 x.2] 41)
        refine ⟨⟨_, z1.low (by simp)⟩, (hbb.trans ((unhide HB3).mono (by simp))).trans (z2.below (by have := (unhide HB3).size; simp at this; omega) (fun k hk e => ?_))⟩
        rcases e with e | e
        · rw [unhide HYS] at e; have := unhide HYB k e; omega
        · omega
      obtain ⟨sva, svc, esv, _⟩ := hr5.shape
      obtain ⟨L5, hL5⟩ : ∃ L, Hid ((f.sl ++ [x]).length = L) := ⟨_, hide rfl⟩
      rw [unhide hL5] at esv
      subst esv
      have hPC := unhide HPC
      clear hF5 hr5 how hcr
      go_wp2_with fail
      go_ret2
      obtain ⟨⟨xs', o1⟩, o2⟩ := unhide HFIN
      exact ⟨_, xs', rfl, o1, o2⟩
end Go.Proofs.Ytfcgpafjhifogaa
