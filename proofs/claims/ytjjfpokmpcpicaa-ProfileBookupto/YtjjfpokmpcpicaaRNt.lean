/-
  The document's Note.
-/
import Derived.Test.YtjjfpokmpcpicaaRN
namespace Go.Proofs.Ytjjfpokmpcpicaa
open Go.RowKit
set_option linter.unusedVariables false
set_option linter.unusedSimpArgs false
set_option maxRecDepth 100000 in
set_option maxHeartbeats 3200000 in
theorem bit_any {w : World} {v : Value} {l : List (Int × Int)} (h : Rx w 2 v l.length (flt enI l)) (hl : l.length ≤ 5864062014634) (d : Nat) (hd : d ≤ 1) :
    Calls Try.prog 25 #[v, .int .i64 (d : Int)] w fun e w' => e = .returned (.int .u16 (kbt l d)) ∧ w' = w := by
  have HEL := hide (fun i z (hz : l[i]? = some z) => h.elem zI hz)
  obtain ⟨a, c, rfl, h1, h2⟩ := h.shape
  clear h
  unfold kbt
  obtain ⟨L, hL⟩ : ∃ L, Hid (l.length = L) := ⟨_, hide rfl⟩
  simp only [unhide hL] at h1 HEL hl ⊢
  by_cases m1 : L ≤ d
  · rw [if_pos m1]
    have w1 : IntKind.i64.wrap ((L : Int) - 1) = (L : Int) - 1 := by go_arith
    have w2 : IntKind.i64.wrap ((L : Int) - 1 - (d : Int)) = (L : Int) - 1 - (d : Int) := by go_arith
    have n1 : (L : Int) - 1 - (d : Int) < 0 := by omega
    clear HEL
    go_enter Try.func25, Try.ntmps25
    go_wp2_with fail
    go_ret
    exact ⟨rfl, rfl⟩
  rw [if_neg m1]
  have hi : L - 1 - d < L := by omega
  obtain ⟨i, hii⟩ : ∃ i, Hid (L - 1 - d = i) := ⟨_, hide rfl⟩
  rw [unhide hii] at hi ⊢
  obtain ⟨z, hz⟩ : ∃ z, l[i]? = some z := ⟨_, List.getElem?_eq_getElem (by rw [unhide hL]; exact hi)⟩
  have ez : l.getD i (0, 0) = z := by rw [List.getD_eq_getElem?_getD, hz]; rfl
  rw [ez]
  obtain ⟨b, o, cap, e, _, _, hbl, hc⟩ := unhide HEL i z hz
  cases e
  have c0 : w.cell? ⟨b, o + i * 2, none⟩ = some (.int .i64 z.1) := hc 0 _ rfl
  clear HEL hc ez hz
  obtain ⟨k, zz⟩ := z
  simp only at c0 ⊢
  have w1 : IntKind.i64.wrap ((L : Int) - 1) = (L : Int) - 1 := by go_arith
  have w2 : IntKind.i64.wrap ((L : Int) - 1 - (d : Int)) = (i : Int) := by
    have : (L : Int) - 1 - (d : Int) = (i : Int) := by have := unhide hii; omega
    rw [this]; go_arith
  have i0 : (0 : Int) ≤ (i : Int) := by omega
  have i1 : (i : Int) < (L : Int) := by omega
  have n1 : ¬ (i : Int) < 0 := by omega
  by_cases m2 : k < 0
  · rw [if_neg (by omega)]
    have n2 : k < 0 := m2
    go_enter Try.func25, Try.ntmps25
    go_wp2_with fail
    go_ret
    exact ⟨rfl, rfl⟩
  by_cases m3 : 9 < k
  · rw [if_neg (by omega)]
    have n2 : ¬ k < 0 := m2
    have n3 : (10 : Int) ≤ k := by omega
    go_enter Try.func25, Try.ntmps25
    go_wp2_with fail
    go_ret
    exact ⟨rfl, rfl⟩
  rw [if_pos (by omega)]
  have hk : k = 0 ∨ k = 1 ∨ k = 2 ∨ k = 3 ∨ k = 4 ∨ k = 5 ∨ k = 6 ∨ k = 7 ∨ k = 8 ∨ k = 9 := by omega
  clear m2 m3
  rcases hk with rfl | rfl | rfl | rfl | rfl | rfl | rfl | rfl | rfl | rfl
  all_goals
    go_enter Try.func25, Try.ntmps25
    go_wp2_with fail
    go_ret
    exact ⟨rfl, rfl⟩

theorem Fr.comp {S S' : Nat → Prop} {a b c : World} (h : Fr S a b) (k : Fr S' b c) (hs : ∀ i, i < a.heap.size → S' i → S i) : Fr S a c :=
  ⟨k.os.trans h.os, k.tape.trans h.tape, k.output.trans h.output, Nat.le_trans h.size k.size,
    fun i hi hn => (k.block i (Nat.lt_of_lt_of_le hi h.size) (fun e => hn (hs i hi e))).trans (h.block i hi hn)⟩
/-- One spot of one list of a profile of one's own is written over. -/
theorem SO.put {Z : Nat → Prop} {w : World} {v : Value} {f : List (List Sp)} {vs : List Value} (h : SO Z w v f vs) {i : Nat} {l : List Sp} {u : Value} (hl : f[i]? = some l) (hu : vs[i]? = some u) {g off n cap : Nat} (e : u = .slice (some ⟨g, off, none⟩) n cap) {j : Nat} {x : Sp} (hx : l[j]? = some x) (y0 y1 y2 y3 : Int) :
    SO Z ((((w.setCell ⟨g, off + j * 4, none⟩ (.int .i64 y0)).setCell ⟨g, off + j * 4 + 1, none⟩ (.int .u16 y1)).setCell ⟨g, off + j * 4 + 2, none⟩ (.int .u16 y2)).setCell ⟨g, off + j * 4 + 3, none⟩ (.int .i64 y3)) v (f.set i (l.set j ⟨y0, y1, y2, y3⟩)) vs ∧ Fr (fun b => b = g) w ((((w.setCell ⟨g, off + j * 4, none⟩ (.int .i64 y0)).setCell ⟨g, off + j * 4 + 1, none⟩ (.int .u16 y1)).setCell ⟨g, off + j * 4 + 2, none⟩ (.int .u16 y2)).setCell ⟨g, off + j * 4 + 3, none⟩ (.int .i64 y3)) := by
  have hr : Ro w 4 u l.length (flt enS l) := h.el i l u hl hu
  have hj := (List.getElem?_eq_some_iff.1 hx).1
  obtain ⟨a0, c0, e0, _, _⟩ := hr.shape
  rw [e] at e0
  cases e0
  obtain ⟨x0, x1, x2, x3⟩ := x
  obtain ⟨r1, t1⟩ := hr.put1 zS e (i := j) (c := 0) (x' := ⟨y0, x1, x2, x3⟩) (u := .int .i64 y0) hx (by omega) rfl
  obtain ⟨r2, t2⟩ := r1.put1 zS e (i := j) (c := 1) (x' := ⟨y0, y1, x2, x3⟩) (u := .int .u16 y1) (x := ⟨y0, x1, x2, x3⟩) (by simp [hj]) (by omega) rfl
  rw [List.set_set] at r2
  obtain ⟨r3, t3⟩ := r2.put1 zS e (i := j) (c := 2) (x' := ⟨y0, y1, y2, x3⟩) (u := .int .u16 y2) (x := ⟨y0, y1, x2, x3⟩) (by simp [hj]) (by omega) rfl
  rw [List.set_set] at r3
  obtain ⟨r4, t4⟩ := r3.put1 zS e (i := j) (c := 3) (x' := ⟨y0, y1, y2, y3⟩) (u := .int .i64 y3) (x := ⟨y0, y1, y2, x3⟩) (by simp [hj]) (by omega) rfl
  rw [List.set_set] at r4
  simp only [Nat.add_zero] at r4 t1 t2 t3 t4
  have t : Fr (fun b => b = g) w ((((w.setCell ⟨g, off + j * 4, none⟩ (.int .i64 y0)).setCell ⟨g, off + j * 4 + 1, none⟩ (.int .u16 y1)).setCell ⟨g, off + j * 4 + 2, none⟩ (.int .u16 y2)).setCell ⟨g, off + j * 4 + 3, none⟩ (.int .i64 y3)) := ((t1.comp t2 (fun _ _ e => e)).comp t3 (fun _ _ e => e)).comp t4 (fun _ _ e => e)
  obtain ⟨W, hW⟩ : ∃ W, ((((w.setCell ⟨g, off + j * 4, none⟩ (.int .i64 y0)).setCell ⟨g, off + j * 4 + 1, none⟩ (.int .u16 y1)).setCell ⟨g, off + j * 4 + 2, none⟩ (.int .u16 y2)).setCell ⟨g, off + j * 4 + 3, none⟩ (.int .i64 y3)) = W := ⟨_, rfl⟩
  rw [hW] at r4 t ⊢
  have hb : blV u g := by rw [e]; rfl
  have hg := h.eb i u g hu hb
  refine ⟨⟨by rw [List.length_set]; exact h.len, by rw [List.length_set]; exact h.row.fr t (fun k hk e => by subst e; exact hg.2.2 hk), h.rb, fun i' l' u' hl' hu' => ?_, fun i' x' k' hx' hk' => ⟨(h.eb i' x' k' hx' hk').1, Nat.lt_of_lt_of_le (h.eb i' x' k' hx' hk').2.1 t.size, (h.eb i' x' k' hx' hk').2.2⟩, h.ap⟩, t⟩
  by_cases q : i = i'
  · subst q
    rw [hu] at hu'
    cases hu'
    rw [List.getElem?_set_self (List.getElem?_eq_some_iff.1 hl).1] at hl'
    cases hl'
    show Ro W 4 u _ _
    rw [List.length_set]
    exact r4
  · rw [List.getElem?_set_ne q] at hl'
    exact Ro.fr (h.el i' l' u' hl' hu') t (fun k hk e => by subst e; exact h.ap i i' u u' k q hu hu' hb hk)
theorem SO.fin2 {w W : World} {gv : Value} {f : List (List Sp)} {vs : List Value} (h : SO (fun k => w.heap.size + 2 ≤ k) W gv f vs) (hb : Below w.heap.size w W) (u : Value) : SO (fun k => w.heap.size ≤ k) (W.setCell ⟨w.heap.size + 1, 0, none⟩ u) gv f vs ∧ Below w.heap.size w (W.setCell ⟨w.heap.size + 1, 0, none⟩ u) := by
  have t : Fr (fun k => k = w.heap.size + 1) W (W.setCell ⟨w.heap.size + 1, 0, none⟩ u) := Fr.setCell (S := fun k => k = w.heap.size + 1) (Fr.refl _ W) ⟨w.heap.size + 1, 0, none⟩ (.inr rfl) u
  exact ⟨(h.frZ staysS t (fun k _ hk e => by omega)).mono (fun k _ hk => by omega), hb.trans (t.below hb.size (fun k hk e => by omega))⟩
set_option maxRecDepth 100000 in
set_option maxHeartbeats 6400000 in
theorem refNote_any {w : World} {av : Value} {f : List (List Sp)} (ha : PfV w av f) (hN : f.length ≤ 5864062014634) (hM : ∀ l ∈ f, l.length ≤ 5864062014634) (hO : OkF f) (fn pc : Int) {v : Value} {l : List (Int × Int)} (hl : Rx w 2 v l.length (flt enI l)) (hll : l.length ≤ 5864062014634) (k : Int) :
    Calls Try.prog 11 #[.agg #[av], .int .i64 fn, .int .i64 pc, v, .int .i64 k] w fun e w' => ∃ gv vs, e = .returned (.agg #[gv]) ∧ SO (fun k => w.heap.size ≤ k) w' gv (noteP f (fn, pc) l k) vs ∧ Below w.heap.size w w' := by
  have HRX := hide (fun W (hW : Below w.heap.size w W) => hl.below hW (Nat.le_refl _))
  obtain ⟨la, lc, rfl, hl1, hl2⟩ := hl.shape
  obtain ⟨a, acap, rfl, ha1, ha2⟩ := ha.shape
  have HCP := hide (copyP_any (ha.below (bl_two w (.cells #[.slice a f.length acap] 28) (.cells #[.slice none 0 0] 28)) (Nat.le_refl _)) hN hM)
  have HB2 := hide (bl_two w (.cells #[.slice a f.length acap] 28) (.cells #[.slice none 0 0] 28))
  have HBK := hide (two_blk w (.slice a f.length acap) 28 #[.slice none 0 0] 28)
  have HMM := hide hM
  have HOO := hide hO
  obtain ⟨LL, hLL⟩ : ∃ L, Hid (l.length = L) := ⟨_, hide rfl⟩
  obtain ⟨FL, hFL⟩ : ∃ L, Hid (f.length = L) := ⟨_, hide rfl⟩
  unfold maxLen at ha2 hl2
  rw [unhide hFL] at ha1 hN HCP HB2 HBK ⊢
  clear hl ha hM hO
  go_enter Try.func11, Try.ntmps11
  go_wp2_with fail
  refine (unhide HCP).mono ?_
  rintro e w3 ⟨gv, vs, rfl, ho, b3⟩
  obtain ⟨ga, gc, eg, hg1, hg2⟩ := ho.row.shape
  rw [unhide hFL] at eg hg1
  subst eg
  have h10 := (b3.block _ (Array.getElem?_eq_some_iff.1 (unhide HBK).2).1).trans (unhide HBK).2
  have hs3 : w.heap.size + 2 ≤ w3.heap.size := by have := b3.size; simp only [World.size_alloc] at this; omega
  have HB3 := hide (bl_past (unhide HB2) b3)
  have HSO3 : Hid (SO (fun k => w.heap.size + 2 ≤ k) w3 (.slice ga FL gc) f vs) := ho.mono (fun k _ hk => by simp only [World.size_alloc] at hk; omega)
  have HSO : Hid (SO (fun k => w.heap.size + 2 ≤ k) (w3.alloc (.cells #[.slice ga FL gc] 28)) (.slice ga FL gc) f vs) := (unhide HSO3).below staysS (box4n w3 _ _)
  have HBW := hide (bl_past (unhide HB3) (box4n w3 #[.slice ga FL gc] 28))
  have h10' := ((box4n w3 #[.slice ga FL gc] 28).block _ (Array.getElem?_eq_some_iff.1 h10).1).trans h10
  obtain ⟨c0, f0, z0⟩ := blk_cells h10
  obtain ⟨c1, f1, z1⟩ := blk_cells h10'
  have q0 := c0 0
  have g0 := f0 0
  have q1 := c1 0
  have g1 := f1 0
  simp at q0 q1
  clear c0 c1 f0 f1 ho h10 h10' b3 HB2 HBK HCP
  by_cases m1 : fn < 0
  · have d1 : decide (fn < 0) = true := decide_eq_true m1
    have en : noteP f (fn, pc) l k = f := by unfold noteP spAt; rw [if_neg (by simp; omega)]
    go_wp2_with fail
    refine bodyPost_ret (v := .agg #[.slice ga FL gc]) ?_ rfl ?_
    · rw [results_cell_one rfl]
      go_simp
    · rw [en]
      have h9 := SO.fin2 (unhide HSO) (unhide HBW) (.slice ga FL gc)
      have h8 := SO.fin2 (unhide HSO3) (unhide HB3) (.slice ga FL gc)
      have h7 := (h8.1.below staysS (box4n _ #[.slice ga FL gc] 28))
      have h6 := bl_past h8.2 (box4n _ #[.slice ga FL gc] 28)
      first | exact ⟨_, vs, rfl, h7, h6⟩ | exact ⟨_, rfl, ⟨vs, h7⟩, h6⟩ | exact ⟨⟨_, rfl, vs, h7⟩, h6⟩ | exact ⟨_, vs, rfl, h9.1, h9.2⟩ | exact ⟨_, rfl, ⟨vs, h9.1⟩, h9.2⟩ | exact ⟨⟨_, rfl, vs, h9.1⟩, h9.2⟩
  obtain ⟨i, rfl⟩ : ∃ i : Nat, fn = (i : Int) := ⟨fn.toNat, by omega⟩
  have d1 : decide ((i : Int) < 0) = false := decide_eq_false m1
  by_cases m2 : (FL : Int) ≤ (i : Int)
  · have d2 : decide ((FL : Int) ≤ (i : Int)) = true := decide_eq_true m2
    have d2' : decide (FL ≤ i) = true := decide_eq_true (by omega)
    have en : noteP f ((i : Int), pc) l k = f := by
      have hno : f[i]? = none := List.getElem?_eq_none (by rw [unhide hFL]; omega)
      unfold noteP spAt
      simp [hno]
    go_wp2_with fail
    refine bodyPost_ret (v := .agg #[.slice ga FL gc]) ?_ rfl ?_
    · rw [results_cell_one rfl]
      go_simp
    · rw [en]
      have h9 := SO.fin2 (unhide HSO) (unhide HBW) (.slice ga FL gc)
      have h8 := SO.fin2 (unhide HSO3) (unhide HB3) (.slice ga FL gc)
      have h7 := (h8.1.below staysS (box4n _ #[.slice ga FL gc] 28))
      have h6 := bl_past h8.2 (box4n _ #[.slice ga FL gc] 28)
      first | exact ⟨_, vs, rfl, h7, h6⟩ | exact ⟨_, rfl, ⟨vs, h7⟩, h6⟩ | exact ⟨⟨_, rfl, vs, h7⟩, h6⟩ | exact ⟨_, vs, rfl, h9.1, h9.2⟩ | exact ⟨_, rfl, ⟨vs, h9.1⟩, h9.2⟩ | exact ⟨⟨_, rfl, vs, h9.1⟩, h9.2⟩
  have d2 : decide ((FL : Int) ≤ (i : Int)) = false := decide_eq_false m2
  have d2' : decide (FL ≤ i) = false := decide_eq_false (by omega)
  have hi : i < f.length := by rw [unhide hFL]; omega
  obtain ⟨p, hp⟩ : ∃ p, f[i]? = some p := ⟨_, List.getElem?_eq_getElem hi⟩
  obtain ⟨u, hu⟩ : ∃ u, vs[i]? = some u := ⟨_, List.getElem?_eq_getElem (by rw [(unhide HSO).len]; exact hi)⟩
  obtain ⟨ra, rc, eu, hr1, hr2⟩ := ((unhide HSO).el i p u hp hu).shape
  subst eu
  have hrow : Ro w3 1 (.slice ga FL gc) vs.length (flt enV vs) := by rw [(unhide HSO3).len]; exact (unhide HSO3).row
  obtain ⟨gb, go_, gcc, e1, _, _, hgl, hgc⟩ := (Rx.of_ro hrow).elem zV hu
  obtain ⟨e2, e3⟩ : ga = some ⟨gb, go_, none⟩ ∧ gc = gcc := by cases e1; exact ⟨rfl, rfl⟩
  subst e2
  subst e3
  clear e1
  have q2 : w3.cell? ⟨gb, go_ + i, none⟩ = some (.slice ra p.length rc) := by have := hgc 0 _ rfl; simpa using this
  have q3 : (w3.alloc (.cells #[.slice (some ⟨gb, go_, none⟩) FL gc] 28)).cell? ⟨gb, go_ + i, none⟩ = some (.slice ra p.length rc) := (World.cell?_of_block (Below.heap_alloc _ _ _ hgl)).trans q2
  obtain ⟨PL, hPL⟩ : ∃ L, Hid (p.length = L) := ⟨_, hide rfl⟩
  have i0 : (0 : Int) ≤ (i : Int) := by omega
  have i1 : (i : Int) < (FL : Int) := by omega
  rw [unhide hPL] at q2 q3 hr1
  unfold maxLen at hr2
  have HP := hide hp
  have HU := hide hu
  clear hp hrow hgc hi
  by_cases m3 : pc < 0
  · have d3 : decide (pc < 0) = true := decide_eq_true m3
    have en : noteP f ((i : Int), pc) l k = f := by unfold noteP spAt; rw [if_neg (by simp; omega)]
    go_wp2_with fail
    refine bodyPost_ret (v := .agg #[.slice (some ⟨gb, go_, none⟩) FL gc]) ?_ rfl ?_
    · rw [results_cell_one rfl]
      go_simp
    · rw [en]
      have h9 := SO.fin2 (unhide HSO) (unhide HBW) (.slice (some ⟨gb, go_, none⟩) FL gc)
      have h8 := SO.fin2 (unhide HSO3) (unhide HB3) (.slice (some ⟨gb, go_, none⟩) FL gc)
      have h7 := (h8.1.below staysS (box4n _ #[.slice (some ⟨gb, go_, none⟩) FL gc] 28))
      have h6 := bl_past h8.2 (box4n _ #[.slice (some ⟨gb, go_, none⟩) FL gc] 28)
      first | exact ⟨_, vs, rfl, h7, h6⟩ | exact ⟨_, rfl, ⟨vs, h7⟩, h6⟩ | exact ⟨⟨_, rfl, vs, h7⟩, h6⟩ | exact ⟨_, vs, rfl, h9.1, h9.2⟩ | exact ⟨_, rfl, ⟨vs, h9.1⟩, h9.2⟩ | exact ⟨⟨_, rfl, vs, h9.1⟩, h9.2⟩
  obtain ⟨j, rfl⟩ : ∃ j : Nat, pc = (j : Int) := ⟨pc.toNat, by omega⟩
  have d3 : decide ((j : Int) < 0) = false := decide_eq_false m3
  by_cases m4 : (PL : Int) ≤ (j : Int)
  · have d4 : decide ((PL : Int) ≤ (j : Int)) = true := decide_eq_true m4
    have d4' : decide (PL ≤ j) = true := decide_eq_true (by omega)
    have en : noteP f ((i : Int), (j : Int)) l k = f := by
      have hno : p[j]? = none := List.getElem?_eq_none (by rw [unhide hPL]; omega)
      unfold noteP spAt
      simp [unhide HP, hno]
    go_wp2_with fail
    refine bodyPost_ret (v := .agg #[.slice (some ⟨gb, go_, none⟩) FL gc]) ?_ rfl ?_
    · rw [results_cell_one rfl]
      go_simp
    · rw [en]
      have h9 := SO.fin2 (unhide HSO) (unhide HBW) (.slice (some ⟨gb, go_, none⟩) FL gc)
      have h8 := SO.fin2 (unhide HSO3) (unhide HB3) (.slice (some ⟨gb, go_, none⟩) FL gc)
      have h7 := (h8.1.below staysS (box4n _ #[.slice (some ⟨gb, go_, none⟩) FL gc] 28))
      have h6 := bl_past h8.2 (box4n _ #[.slice (some ⟨gb, go_, none⟩) FL gc] 28)
      first | exact ⟨_, vs, rfl, h7, h6⟩ | exact ⟨_, rfl, ⟨vs, h7⟩, h6⟩ | exact ⟨⟨_, rfl, vs, h7⟩, h6⟩ | exact ⟨_, vs, rfl, h9.1, h9.2⟩ | exact ⟨_, rfl, ⟨vs, h9.1⟩, h9.2⟩ | exact ⟨⟨_, rfl, vs, h9.1⟩, h9.2⟩
  have d4 : decide ((PL : Int) ≤ (j : Int)) = false := decide_eq_false m4
  have d4' : decide (PL ≤ j) = false := decide_eq_false (by omega)
  obtain ⟨x, hx⟩ : ∃ x, p[j]? = some x := ⟨_, List.getElem?_eq_getElem (by rw [unhide hPL]; omega)⟩
  have HXX := hide hx
  have en : noteP f ((i : Int), (j : Int)) l k = f.set i (p.set j (tog x ⟨1, kbt l 0, kbt l 1, k⟩)) := by
    unfold noteP
    rw [spAt_of (unhide HP) hx]
    exact setAt_of (unhide HP) _
  have hok : okS x := (unhide HOO) p (List.mem_of_getElem? (unhide HP)) x (List.mem_of_getElem? hx)
  have HSP := hide (fun W => spots_any W x ⟨1, kbt l 0, kbt l 1, k⟩ hok.1 (show I64 1 from ⟨by decide, by decide⟩))
  have HBT : Hid (∀ (W : World), Below w.heap.size w W → (Calls Try.prog 25 #[.slice la l.length lc, .int .i64 0] W fun e w' => e = .returned (.int .u16 (kbt l 0)) ∧ w' = W) ∧ (Calls Try.prog 25 #[.slice la l.length lc, .int .i64 1] W fun e w' => e = .returned (.int .u16 (kbt l 1)) ∧ w' = W)) := fun W hW => ⟨bit_any (unhide HRX W hW) hll 0 (by omega), bit_any (unhide HRX W hW) hll 1 (by omega)⟩
  obtain ⟨y, hy⟩ : ∃ y, Hid (tog x ⟨1, kbt l 0, kbt l 1, k⟩ = y) := ⟨_, hide rfl⟩
  rw [unhide hy] at en HSP
  have hr0 := (unhide HSO3).el i p _ (unhide HP) (unhide HU)
  obtain ⟨rb, ro, rcc, e4, _, _, hrl, hrc⟩ := (Rx.of_ro hr0).elem zS hx
  obtain ⟨e5, e6⟩ : ra = some ⟨rb, ro, none⟩ ∧ rc = rcc := by cases e4; exact ⟨rfl, rfl⟩
  subst e5
  subst e6
  clear e4
  have hrb := (unhide HSO3).eb i _ rb (unhide HU) rfl
  obtain ⟨k0, hk0⟩ : ∃ z, Hid (kbt l 0 = z) := ⟨_, hide rfl⟩
  obtain ⟨k1, hk1⟩ : ∃ z, Hid (kbt l 1 = z) := ⟨_, hide rfl⟩
  rw [unhide hk0, unhide hk1] at HSP
  rw [unhide hk0, unhide hk1] at HBT
  obtain ⟨x0, x1, x2, x3⟩ := x
  obtain ⟨y0, y1, y2, y3⟩ := y
  unfold spV at HSP
  simp only at HSP
  obtain ⟨arr, tt, hbk⟩ : ∃ arr tt, w3.heap[rb]? = some (.cells arr tt) := by
    rcases hr0.2 with ⟨e, _⟩ | ⟨g, off, cap, arr, tt, e, hh, _⟩
    · cases e
    · cases e; exact ⟨arr, tt, hh⟩
  have HCX : Hid (∀ W, Below w3.heap.size w3 W → (W.cell? ⟨rb, ro + j * 4, none⟩ = some (.int .i64 x0) ∧ W.cell? ⟨rb, ro + j * 4 + 1, none⟩ = some (.int .u16 x1) ∧ W.cell? ⟨rb, ro + j * 4 + 2, none⟩ = some (.int .u16 x2) ∧ W.cell? ⟨rb, ro + j * 4 + 3, none⟩ = some (.int .i64 x3)) ∧ ∀ o, W.frozen? ⟨rb, o, none⟩ = false) := fun W hW =>
    ⟨⟨(hW.cell (p := ⟨rb, ro + j * 4, none⟩) hrl).trans (hrc 0 _ rfl), (hW.cell (p := ⟨rb, ro + j * 4 + 1, none⟩) hrl).trans (hrc 1 _ rfl), (hW.cell (p := ⟨rb, ro + j * 4 + 2, none⟩) hrl).trans (hrc 2 _ rfl), (hW.cell (p := ⟨rb, ro + j * 4 + 3, none⟩) hrl).trans (hrc 3 _ rfl)⟩, fun o => (hW.frozen (p := ⟨rb, o, none⟩) hrl).trans ((blk_cells hbk).2.1 o)⟩
  have HR3 : Hid (∀ W, Below w3.heap.size w3 W → W.cell? ⟨gb, go_ + i, none⟩ = some (.slice (some ⟨rb, ro, none⟩) PL rc)) := fun W hW => (hW.cell (p := ⟨gb, go_ + i, none⟩) hgl).trans q2
  have H10 : Hid (∀ W, Below w3.heap.size w3 W → W.cell? ⟨w.heap.size + 1, 0, none⟩ = some (.slice none 0 0) ∧ W.frozen? ⟨w.heap.size + 1, 0, none⟩ = false) := fun W hW => ⟨(hW.cell (p := ⟨w.heap.size + 1, 0, none⟩) z0).trans q0, (hW.frozen (p := ⟨w.heap.size + 1, 0, none⟩) z0).trans g0⟩
  have j0 : (0 : Int) ≤ (j : Int) := by omega
  have j1 : (j : Int) < (PL : Int) := by omega
  have HAL := hide (fun (W : World) (hW : Below (w3.alloc (.cells #[.slice (some ⟨gb, go_, none⟩) FL gc] 28)).heap.size (w3.alloc (.cells #[.slice (some ⟨gb, go_, none⟩) FL gc] 28)) W) => bl_past (box4n w3 #[.slice (some ⟨gb, go_, none⟩) FL gc] 28) hW)
  have HX1 := hide (heap_alloc_new w3 (.cells #[.slice (some ⟨gb, go_, none⟩) FL gc] 28))
  have hgb : gb < w3.heap.size := hgl
  have HZ0 := hide z0
  go_wp2_with fail
  clear q0 q1 q2 q3 g0 g1 z0 z1
  obtain ⟨V0, hV0⟩ : ∃ V0, Hid (w3.alloc (.cells #[.slice (some ⟨gb, go_, none⟩) FL gc] 28) = V0) := ⟨_, hide rfl⟩
  rw [unhide hV0] at HAL HX1 HSO HBW ⊢
  obtain ⟨X, hX⟩ : ∃ X, Hid (w3.heap.size = X) := ⟨_, hide rfl⟩
  rw [unhide hX]
  rw [unhide hX] at HX1
  have hXV : X < V0.heap.size := (Array.getElem?_eq_some_iff.1 (unhide HX1)).1
  have HS0 : Hid (∀ W, Below V0.heap.size V0 W → W.cell? ⟨X, 0, none⟩ = some (.slice (some ⟨gb, go_, none⟩) FL gc) ∧ W.cell? ⟨gb, go_ + i, none⟩ = some (.slice (some ⟨rb, ro, none⟩) PL rc)) := fun W hW => ⟨((hW.cell (p := ⟨X, 0, none⟩) hXV).trans ((blk_cells (unhide HX1)).1 0)), unhide HR3 W (unhide HAL W hW)⟩
  obtain ⟨V, hV⟩ : ∃ V, Hid (V0.drew = V) := ⟨_, hide rfl⟩
  have HVB : Hid (Below V0.heap.size V0 V) := by rw [← unhide hV]; exact bl_drew V0
  have HSV := hide (unhide HS0 V (unhide HVB))
  refine wp_region_held_drew (S := (fun W => W.cell? ⟨X, 0, none⟩ = some (.slice (some ⟨gb, go_, none⟩) FL gc) ∧ W.cell? ⟨gb, go_ + i, none⟩ = some (.slice (some ⟨rb, ro, none⟩) PL rc))) (by kernel_rfl) (unhide HS0 _ (bl_drew _)) (fun hHeld => ?_)
  clear hHeld
  rw [unhide hV]
  refine wpAnyH_take (i := 0) (oi := _) (v := .pointer (some ⟨X, 0, none⟩)) rfl (by kernel_rfl) (by kernel_rfl) (by kernel_rfl) (fun _ _ _ h => h) (Or.inl ⟨by rfl, (by intro w' hSw; obtain ⟨s0, s1⟩ := hSw; go_simp)⟩) (unhide HSV) ?_
  go_simp
  refine wpAnyH_take (i := 1) (oi := _) (v := .slice (some ⟨gb, go_, none⟩) FL gc) rfl (by kernel_rfl) (by kernel_rfl) (by kernel_rfl) (fun _ _ _ h => h) (Or.inl ⟨by rfl, (by intro w' hSw; obtain ⟨s0, s1⟩ := hSw; go_simp)⟩) (unhide HSV) ?_
  go_simp
  refine wpAnyH_take (i := 2) (oi := _) (v := .int .i64 (i : Int)) rfl (by kernel_rfl) (by kernel_rfl) (by kernel_rfl) (fun _ _ _ h => h) (Or.inl ⟨by rfl, (by intro w' hSw; obtain ⟨s0, s1⟩ := hSw; go_simp)⟩) (unhide HSV) ?_
  go_simp
  refine wpAnyH_take (i := 3) (oi := _) (v := .pointer (some ⟨gb, go_ + i, none⟩)) rfl (by kernel_rfl) (by kernel_rfl) (by kernel_rfl) (fun _ _ _ h => h) (Or.inl ⟨by rfl, (by intro w' hSw; obtain ⟨s0, s1⟩ := hSw; go_simp)⟩) (unhide HSV) ?_
  go_simp
  refine wpAnyH_take (i := 4) (oi := _) (v := .slice (some ⟨rb, ro, none⟩) PL rc) rfl (by kernel_rfl) (by kernel_rfl) (by kernel_rfl) (fun _ _ _ h => h) (Or.inl ⟨by rfl, (by intro w' hSw; obtain ⟨s0, s1⟩ := hSw; go_simp)⟩) (unhide HSV) ?_
  go_simp
  refine wpAnyH_take (i := 5) (oi := _) (v := .int .i64 (j : Int)) rfl (by kernel_rfl) (by kernel_rfl) (by kernel_rfl) (fun _ _ _ h => h) (Or.inl ⟨by rfl, (by intro w' hSw; obtain ⟨s0, s1⟩ := hSw; go_simp)⟩) (unhide HSV) ?_
  go_simp
  refine wpAnyH_take (i := 6) (oi := _) (v := .pointer (some ⟨X, 0, none⟩)) rfl (by kernel_rfl) (by kernel_rfl) (by kernel_rfl) (fun _ _ _ h => h) (Or.inl ⟨by rfl, (by intro w' hSw; obtain ⟨s0, s1⟩ := hSw; go_simp)⟩) (unhide HSV) ?_
  go_simp
  refine wpAnyH_take (i := 7) (oi := _) (v := .slice (some ⟨gb, go_, none⟩) FL gc) rfl (by kernel_rfl) (by kernel_rfl) (by kernel_rfl) (fun _ _ _ h => h) (Or.inl ⟨by rfl, (by intro w' hSw; obtain ⟨s0, s1⟩ := hSw; go_simp)⟩) (unhide HSV) ?_
  go_simp
  refine wpAnyH_take (i := 8) (oi := _) (v := .int .i64 (i : Int)) rfl (by kernel_rfl) (by kernel_rfl) (by kernel_rfl) (fun _ _ _ h => h) (Or.inl ⟨by rfl, (by intro w' hSw; obtain ⟨s0, s1⟩ := hSw; go_simp)⟩) (unhide HSV) ?_
  go_simp
  refine wpAnyH_take (i := 9) (oi := _) (v := .pointer (some ⟨gb, go_ + i, none⟩)) rfl (by kernel_rfl) (by kernel_rfl) (by kernel_rfl) (fun _ _ _ h => h) (Or.inl ⟨by rfl, (by intro w' hSw; obtain ⟨s0, s1⟩ := hSw; go_simp)⟩) (unhide HSV) ?_
  go_simp
  refine wpAnyH_take (i := 10) (oi := _) (v := .slice (some ⟨rb, ro, none⟩) PL rc) rfl (by kernel_rfl) (by kernel_rfl) (by kernel_rfl) (fun _ _ _ h => h) (Or.inl ⟨by rfl, (by intro w' hSw; obtain ⟨s0, s1⟩ := hSw; go_simp)⟩) (unhide HSV) ?_
  go_simp
  refine wpAnyH_take (i := 11) (oi := _) (v := .int .i64 (j : Int)) rfl (by kernel_rfl) (by kernel_rfl) (by kernel_rfl) (fun _ _ _ h => h) (Or.inl ⟨by rfl, (by intro w' hSw; obtain ⟨s0, s1⟩ := hSw; go_simp)⟩) (unhide HSV) ?_
  go_simp
  refine wpAnyH_take (i := 12) (oi := _) (v := .pointer (some ⟨rb, ro + j * 4, none⟩)) rfl (by kernel_rfl) (by kernel_rfl) (by kernel_rfl) (fun _ _ _ h => h) (Or.inl ⟨by rfl, (by intro w' hSw; obtain ⟨s0, s1⟩ := hSw; go_simp)⟩) (unhide HSV) ?_
  go_simp
  refine wpAnyH_take (i := 14) (oi := _) (v := .slice la l.length lc) rfl (by kernel_rfl) (by kernel_rfl) (by kernel_rfl) (fun _ _ _ h => h) (Or.inl ⟨by rfl, (by intro w' hSw; obtain ⟨s0, s1⟩ := hSw; go_simp)⟩) (unhide HSV) ?_
  go_simp
  refine wpAnyH_take (i := 16) (oi := _) (v := .slice la l.length lc) rfl (by kernel_rfl) (by kernel_rfl) (by kernel_rfl) (fun _ _ _ h => h) (Or.inl ⟨by rfl, (by intro w' hSw; obtain ⟨s0, s1⟩ := hSw; go_simp)⟩) (unhide HSV) ?_
  go_simp
  refine wpAnyH_take (i := 18) (oi := _) (v := .int .i64 k) rfl (by kernel_rfl) (by kernel_rfl) (by kernel_rfl) (fun _ _ _ h => h) (Or.inl ⟨by rfl, (by intro w' hSw; obtain ⟨s0, s1⟩ := hSw; go_simp)⟩) (unhide HSV) ?_
  go_simp
  have HVW := hide (bl_past (unhide HBW) (unhide HVB))
  have HV3 := hide (unhide HAL V (unhide HVB))
  refine wpAnyH_ready (rs := [13, 15]) (by kernel_rfl) (by simp) ?_
  refine AllReadyH.cons (o := _) rfl (fun K hK => ?_) (AllReadyH.cons (o := _) rfl (fun K hK => ?_) AllReadyH.nil)
  · obtain ⟨⟨c0, c1, c2, c3⟩, -⟩ := unhide HCX _ (unhide HV3)
    go_simp
    clear c0 c1 c2 c3
    refine hK.out _ _ (unhide HSV) (fun _ => ?_)
    clear hK K
    go_simp
    refine wpAnyH_ready (rs := [15]) (by kernel_rfl) (by simp) ?_
    refine AllReadyH.cons (o := _) rfl (fun K hK => ?_) AllReadyH.nil
    go_simp
    refine (unhide HBT _ (unhide HVW)).1.mono ?_
    rintro e w4 ⟨rfl, rfl⟩
    refine hK.out _ _ (unhide HSV) (fun _ => ?_)
    clear hK K
    go_simp
    refine wpAnyH_ready (rs := [17]) (by kernel_rfl) (by simp) ?_
    refine AllReadyH.cons (o := _) rfl (fun K hK => ?_) AllReadyH.nil
    go_simp
    refine (unhide HBT _ (unhide HVW)).2.mono ?_
    rintro e w4 ⟨rfl, rfl⟩
    refine hK.out _ _ (unhide HSV) (fun _ => ?_)
    clear hK K
    go_simp
    refine wpAnyH_take (i := 19) (oi := _) (v := .agg #[.int .i64 1, .int .u16 k0, .int .u16 k1, .int .i64 k]) rfl (by kernel_rfl) (by kernel_rfl) (by kernel_rfl) (fun _ _ _ h => h) (Or.inl ⟨by rfl, (by intro w' hSw; obtain ⟨s0, s1⟩ := hSw; go_simp)⟩) (unhide HSV) ?_
    go_simp
    refine wpAnyH_ready (rs := [20]) (by kernel_rfl) (by simp) ?_
    refine AllReadyH.cons (o := _) rfl (fun K hK => ?_) AllReadyH.nil
    go_simp
    refine (unhide HSP _).mono ?_
    rintro e w5 ⟨rfl, b5⟩
    have HB5 := hide (bl_past (unhide HVB) b5)
    clear b5
    have HS5 := hide (unhide HS0 w5 (unhide HB5))
    refine hK.out _ _ (unhide HS5) (fun _ => ?_)
    clear hK K
    go_simp
    refine wpAnyH_take (i := 21) (oi := _) (v := .pointer (some ⟨rb, ro + j * 4, none⟩)) rfl (by kernel_rfl) (by kernel_rfl) (by kernel_rfl) (fun _ _ _ h => h) (Or.inl ⟨by rfl, (by intro w' hSw; obtain ⟨s0, s1⟩ := hSw; go_simp)⟩) (unhide HS5) ?_
    go_simp
    have HW5 := hide (unhide HAL w5 (unhide HB5))
    obtain ⟨⟨c0, c1, c2, c3⟩, cf⟩ := unhide HCX w5 (unhide HW5)
    have f0 := cf (ro + j * 4)
    have f1 := cf (ro + j * 4 + 1)
    have f2 := cf (ro + j * 4 + 2)
    have f3 := cf (ro + j * 4 + 3)
    have hput := SO.put ((unhide HSO3).below staysS (unhide HW5)) (unhide HP) (unhide HU) rfl (unhide HXX) y0 y1 y2 y3
    obtain ⟨W6, hW6⟩ : ∃ W6, Hid ((((w5.setCell ⟨rb, ro + j * 4, none⟩ (.int .i64 y0)).setCell ⟨rb, ro + j * 4 + 1, none⟩ (.int .u16 y1)).setCell ⟨rb, ro + j * 4 + 2, none⟩ (.int .u16 y2)).setCell ⟨rb, ro + j * 4 + 3, none⟩ (.int .i64 y3) = W6) := ⟨_, hide rfl⟩
    rw [unhide hW6] at hput
    have hX5 : X < w5.heap.size := Nat.lt_of_lt_of_le hXV (unhide HB5).size
    have hrbX : X ≠ rb := by have := hrb.2.1; have := unhide hX; omega
    have hgrb : gb ≠ rb := fun e => by subst e; exact hrb.2.2 rfl
    have HS6 : Hid (W6.cell? ⟨X, 0, none⟩ = some (.slice (some ⟨gb, go_, none⟩) FL gc) ∧ W6.cell? ⟨gb, go_ + i, none⟩ = some (.slice (some ⟨rb, ro, none⟩) PL rc)) := ⟨(hput.2.cell (a := ⟨X, 0, none⟩) hX5 hrbX).trans (unhide HS5).1, (hput.2.cell (a := ⟨gb, go_ + i, none⟩) (Nat.lt_of_lt_of_le hgb (unhide HW5).size) hgrb).trans (unhide HS5).2⟩
    refine wpAnyH_ready (rs := [22]) (by kernel_rfl) (by simp) ?_
    refine AllReadyH.cons (o := _) rfl (fun K hK => ?_) AllReadyH.nil
    go_simp
    rw [unhide hW6]
    refine hK.out _ _ (unhide HS6) (fun _ => ?_)
    clear hK K
    go_simp
    refine wpAnyH_done (by kernel_rfl) ?_ _
    have hz6 : w.heap.size + 1 < w5.heap.size := Nat.lt_of_lt_of_le (unhide HZ0) (unhide HW5).size
    have hrb2 : w.heap.size + 2 ≤ rb := hrb.1
    have y10 := (hput.2.cell (a := ⟨w.heap.size + 1, 0, none⟩) hz6 (fun e => by have e' : w.heap.size + 1 = rb := e; omega)).trans (unhide H10 w5 (unhide HW5)).1
    have y11 := (hput.2.frozen (a := ⟨w.heap.size + 1, 0, none⟩) hz6 (fun e => by have e' : w.heap.size + 1 = rb := e; omega)).trans (unhide H10 w5 (unhide HW5)).2
    have y12 := (unhide HS6).1
    have y13 : w.heap.size + 1 < W6.heap.size := Nat.lt_of_lt_of_le hz6 hput.2.size
    have HB6 : Hid (Below w.heap.size w W6) := (bl_past (unhide HB3) (unhide HW5)).trans (hput.2.below (bl_past (unhide HB3) (unhide HW5)).size (fun k hk e => by have e' : k = rb := e; omega))
    have HS9 := hide hput.1
    clear c0 c1 c2 c3 f0 f1 f2 f3 cf hput HS5 HS6
    go_wp2_with fail
    refine bodyPost_ret (v := .agg #[.slice (some ⟨gb, go_, none⟩) FL gc]) ?_ rfl ?_
    · rw [results_cell_one rfl]
      go_simp
    · rw [en]
      have h9 := SO.fin2 (unhide HS9) (unhide HB6) (.slice (some ⟨gb, go_, none⟩) FL gc)
      first | exact ⟨_, vs, rfl, h9.1, h9.2⟩ | exact ⟨_, rfl, ⟨vs, h9.1⟩, h9.2⟩ | exact ⟨⟨_, rfl, vs, h9.1⟩, h9.2⟩
  · go_simp
    refine (unhide HBT _ (unhide HVW)).1.mono ?_
    rintro e w4 ⟨rfl, rfl⟩
    refine hK.out _ _ (unhide HSV) (fun _ => ?_)
    clear hK K
    go_simp
    refine wpAnyH_ready (rs := [13, 17]) (by kernel_rfl) (by simp) ?_
    refine AllReadyH.cons (o := _) rfl (fun K hK => ?_) (AllReadyH.cons (o := _) rfl (fun K hK => ?_) AllReadyH.nil)
    · obtain ⟨⟨c0, c1, c2, c3⟩, -⟩ := unhide HCX _ (unhide HV3)
      go_simp
      clear c0 c1 c2 c3
      refine hK.out _ _ (unhide HSV) (fun _ => ?_)
      clear hK K
      go_simp
      refine wpAnyH_ready (rs := [17]) (by kernel_rfl) (by simp) ?_
      refine AllReadyH.cons (o := _) rfl (fun K hK => ?_) AllReadyH.nil
      go_simp
      refine (unhide HBT _ (unhide HVW)).2.mono ?_
      rintro e w4 ⟨rfl, rfl⟩
      refine hK.out _ _ (unhide HSV) (fun _ => ?_)
      clear hK K
      go_simp
      refine wpAnyH_take (i := 19) (oi := _) (v := .agg #[.int .i64 1, .int .u16 k0, .int .u16 k1, .int .i64 k]) rfl (by kernel_rfl) (by kernel_rfl) (by kernel_rfl) (fun _ _ _ h => h) (Or.inl ⟨by rfl, (by intro w' hSw; obtain ⟨s0, s1⟩ := hSw; go_simp)⟩) (unhide HSV) ?_
      go_simp
      refine wpAnyH_ready (rs := [20]) (by kernel_rfl) (by simp) ?_
      refine AllReadyH.cons (o := _) rfl (fun K hK => ?_) AllReadyH.nil
      go_simp
      refine (unhide HSP _).mono ?_
      rintro e w5 ⟨rfl, b5⟩
      have HB5 := hide (bl_past (unhide HVB) b5)
      clear b5
      have HS5 := hide (unhide HS0 w5 (unhide HB5))
      refine hK.out _ _ (unhide HS5) (fun _ => ?_)
      clear hK K
      go_simp
      refine wpAnyH_take (i := 21) (oi := _) (v := .pointer (some ⟨rb, ro + j * 4, none⟩)) rfl (by kernel_rfl) (by kernel_rfl) (by kernel_rfl) (fun _ _ _ h => h) (Or.inl ⟨by rfl, (by intro w' hSw; obtain ⟨s0, s1⟩ := hSw; go_simp)⟩) (unhide HS5) ?_
      go_simp
      have HW5 := hide (unhide HAL w5 (unhide HB5))
      obtain ⟨⟨c0, c1, c2, c3⟩, cf⟩ := unhide HCX w5 (unhide HW5)
      have f0 := cf (ro + j * 4)
      have f1 := cf (ro + j * 4 + 1)
      have f2 := cf (ro + j * 4 + 2)
      have f3 := cf (ro + j * 4 + 3)
      have hput := SO.put ((unhide HSO3).below staysS (unhide HW5)) (unhide HP) (unhide HU) rfl (unhide HXX) y0 y1 y2 y3
      obtain ⟨W6, hW6⟩ : ∃ W6, Hid ((((w5.setCell ⟨rb, ro + j * 4, none⟩ (.int .i64 y0)).setCell ⟨rb, ro + j * 4 + 1, none⟩ (.int .u16 y1)).setCell ⟨rb, ro + j * 4 + 2, none⟩ (.int .u16 y2)).setCell ⟨rb, ro + j * 4 + 3, none⟩ (.int .i64 y3) = W6) := ⟨_, hide rfl⟩
      rw [unhide hW6] at hput
      have hX5 : X < w5.heap.size := Nat.lt_of_lt_of_le hXV (unhide HB5).size
      have hrbX : X ≠ rb := by have := hrb.2.1; have := unhide hX; omega
      have hgrb : gb ≠ rb := fun e => by subst e; exact hrb.2.2 rfl
      have HS6 : Hid (W6.cell? ⟨X, 0, none⟩ = some (.slice (some ⟨gb, go_, none⟩) FL gc) ∧ W6.cell? ⟨gb, go_ + i, none⟩ = some (.slice (some ⟨rb, ro, none⟩) PL rc)) := ⟨(hput.2.cell (a := ⟨X, 0, none⟩) hX5 hrbX).trans (unhide HS5).1, (hput.2.cell (a := ⟨gb, go_ + i, none⟩) (Nat.lt_of_lt_of_le hgb (unhide HW5).size) hgrb).trans (unhide HS5).2⟩
      refine wpAnyH_ready (rs := [22]) (by kernel_rfl) (by simp) ?_
      refine AllReadyH.cons (o := _) rfl (fun K hK => ?_) AllReadyH.nil
      go_simp
      rw [unhide hW6]
      refine hK.out _ _ (unhide HS6) (fun _ => ?_)
      clear hK K
      go_simp
      refine wpAnyH_done (by kernel_rfl) ?_ _
      have hz6 : w.heap.size + 1 < w5.heap.size := Nat.lt_of_lt_of_le (unhide HZ0) (unhide HW5).size
      have hrb2 : w.heap.size + 2 ≤ rb := hrb.1
      have y10 := (hput.2.cell (a := ⟨w.heap.size + 1, 0, none⟩) hz6 (fun e => by have e' : w.heap.size + 1 = rb := e; omega)).trans (unhide H10 w5 (unhide HW5)).1
      have y11 := (hput.2.frozen (a := ⟨w.heap.size + 1, 0, none⟩) hz6 (fun e => by have e' : w.heap.size + 1 = rb := e; omega)).trans (unhide H10 w5 (unhide HW5)).2
      have y12 := (unhide HS6).1
      have y13 : w.heap.size + 1 < W6.heap.size := Nat.lt_of_lt_of_le hz6 hput.2.size
      have HB6 : Hid (Below w.heap.size w W6) := (bl_past (unhide HB3) (unhide HW5)).trans (hput.2.below (bl_past (unhide HB3) (unhide HW5)).size (fun k hk e => by have e' : k = rb := e; omega))
      have HS9 := hide hput.1
      clear c0 c1 c2 c3 f0 f1 f2 f3 cf hput HS5 HS6
      go_wp2_with fail
      refine bodyPost_ret (v := .agg #[.slice (some ⟨gb, go_, none⟩) FL gc]) ?_ rfl ?_
      · rw [results_cell_one rfl]
        go_simp
      · rw [en]
        have h9 := SO.fin2 (unhide HS9) (unhide HB6) (.slice (some ⟨gb, go_, none⟩) FL gc)
        first | exact ⟨_, vs, rfl, h9.1, h9.2⟩ | exact ⟨_, rfl, ⟨vs, h9.1⟩, h9.2⟩ | exact ⟨⟨_, rfl, vs, h9.1⟩, h9.2⟩
    · go_simp
      refine (unhide HBT _ (unhide HVW)).2.mono ?_
      rintro e w4 ⟨rfl, rfl⟩
      refine hK.out _ _ (unhide HSV) (fun _ => ?_)
      clear hK K
      go_simp
      refine wpAnyH_take (i := 19) (oi := _) (v := .agg #[.int .i64 1, .int .u16 k0, .int .u16 k1, .int .i64 k]) rfl (by kernel_rfl) (by kernel_rfl) (by kernel_rfl) (fun _ _ _ h => h) (Or.inl ⟨by rfl, (by intro w' hSw; obtain ⟨s0, s1⟩ := hSw; go_simp)⟩) (unhide HSV) ?_
      go_simp
      refine wpAnyH_ready (rs := [13]) (by kernel_rfl) (by simp) ?_
      refine AllReadyH.cons (o := _) rfl (fun K hK => ?_) AllReadyH.nil
      obtain ⟨⟨c0, c1, c2, c3⟩, -⟩ := unhide HCX _ (unhide HV3)
      go_simp
      clear c0 c1 c2 c3
      refine hK.out _ _ (unhide HSV) (fun _ => ?_)
      clear hK K
      go_simp
      refine wpAnyH_ready (rs := [20]) (by kernel_rfl) (by simp) ?_
      refine AllReadyH.cons (o := _) rfl (fun K hK => ?_) AllReadyH.nil
      go_simp
      refine (unhide HSP _).mono ?_
      rintro e w5 ⟨rfl, b5⟩
      have HB5 := hide (bl_past (unhide HVB) b5)
      clear b5
      have HS5 := hide (unhide HS0 w5 (unhide HB5))
      refine hK.out _ _ (unhide HS5) (fun _ => ?_)
      clear hK K
      go_simp
      refine wpAnyH_take (i := 21) (oi := _) (v := .pointer (some ⟨rb, ro + j * 4, none⟩)) rfl (by kernel_rfl) (by kernel_rfl) (by kernel_rfl) (fun _ _ _ h => h) (Or.inl ⟨by rfl, (by intro w' hSw; obtain ⟨s0, s1⟩ := hSw; go_simp)⟩) (unhide HS5) ?_
      go_simp
      have HW5 := hide (unhide HAL w5 (unhide HB5))
      obtain ⟨⟨c0, c1, c2, c3⟩, cf⟩ := unhide HCX w5 (unhide HW5)
      have f0 := cf (ro + j * 4)
      have f1 := cf (ro + j * 4 + 1)
      have f2 := cf (ro + j * 4 + 2)
      have f3 := cf (ro + j * 4 + 3)
      have hput := SO.put ((unhide HSO3).below staysS (unhide HW5)) (unhide HP) (unhide HU) rfl (unhide HXX) y0 y1 y2 y3
      obtain ⟨W6, hW6⟩ : ∃ W6, Hid ((((w5.setCell ⟨rb, ro + j * 4, none⟩ (.int .i64 y0)).setCell ⟨rb, ro + j * 4 + 1, none⟩ (.int .u16 y1)).setCell ⟨rb, ro + j * 4 + 2, none⟩ (.int .u16 y2)).setCell ⟨rb, ro + j * 4 + 3, none⟩ (.int .i64 y3) = W6) := ⟨_, hide rfl⟩
      rw [unhide hW6] at hput
      have hX5 : X < w5.heap.size := Nat.lt_of_lt_of_le hXV (unhide HB5).size
      have hrbX : X ≠ rb := by have := hrb.2.1; have := unhide hX; omega
      have hgrb : gb ≠ rb := fun e => by subst e; exact hrb.2.2 rfl
      have HS6 : Hid (W6.cell? ⟨X, 0, none⟩ = some (.slice (some ⟨gb, go_, none⟩) FL gc) ∧ W6.cell? ⟨gb, go_ + i, none⟩ = some (.slice (some ⟨rb, ro, none⟩) PL rc)) := ⟨(hput.2.cell (a := ⟨X, 0, none⟩) hX5 hrbX).trans (unhide HS5).1, (hput.2.cell (a := ⟨gb, go_ + i, none⟩) (Nat.lt_of_lt_of_le hgb (unhide HW5).size) hgrb).trans (unhide HS5).2⟩
      refine wpAnyH_ready (rs := [22]) (by kernel_rfl) (by simp) ?_
      refine AllReadyH.cons (o := _) rfl (fun K hK => ?_) AllReadyH.nil
      go_simp
      rw [unhide hW6]
      refine hK.out _ _ (unhide HS6) (fun _ => ?_)
      clear hK K
      go_simp
      refine wpAnyH_done (by kernel_rfl) ?_ _
      have hz6 : w.heap.size + 1 < w5.heap.size := Nat.lt_of_lt_of_le (unhide HZ0) (unhide HW5).size
      have hrb2 : w.heap.size + 2 ≤ rb := hrb.1
      have y10 := (hput.2.cell (a := ⟨w.heap.size + 1, 0, none⟩) hz6 (fun e => by have e' : w.heap.size + 1 = rb := e; omega)).trans (unhide H10 w5 (unhide HW5)).1
      have y11 := (hput.2.frozen (a := ⟨w.heap.size + 1, 0, none⟩) hz6 (fun e => by have e' : w.heap.size + 1 = rb := e; omega)).trans (unhide H10 w5 (unhide HW5)).2
      have y12 := (unhide HS6).1
      have y13 : w.heap.size + 1 < W6.heap.size := Nat.lt_of_lt_of_le hz6 hput.2.size
      have HB6 : Hid (Below w.heap.size w W6) := (bl_past (unhide HB3) (unhide HW5)).trans (hput.2.below (bl_past (unhide HB3) (unhide HW5)).size (fun k hk e => by have e' : k = rb := e; omega))
      have HS9 := hide hput.1
      clear c0 c1 c2 c3 f0 f1 f2 f3 cf hput HS5 HS6
      go_wp2_with fail
      refine bodyPost_ret (v := .agg #[.slice (some ⟨gb, go_, none⟩) FL gc]) ?_ rfl ?_
      · rw [results_cell_one rfl]
        go_simp
      · rw [en]
        have h9 := SO.fin2 (unhide HS9) (unhide HB6) (.slice (some ⟨gb, go_, none⟩) FL gc)
        first | exact ⟨_, vs, rfl, h9.1, h9.2⟩ | exact ⟨_, rfl, ⟨vs, h9.1⟩, h9.2⟩ | exact ⟨⟨_, rfl, vs, h9.1⟩, h9.2⟩
end Go.Proofs.Ytjjfpokmpcpicaa
