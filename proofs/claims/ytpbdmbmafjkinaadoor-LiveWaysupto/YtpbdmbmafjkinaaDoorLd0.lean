/-
  A row of lists of numbers of one's own.
-/
import Derived.Test.YtpbdmbmafjkinaaDoorGb
import Derived.Test.YtpbdmbmafjkinaaDoorPri
import Derived.Laws.MakeOwn
namespace Go.Proofs.YtpbdmbmafjkinaaDoor
open Go.RowKit
set_option linter.unusedVariables false
set_option linter.unusedSimpArgs false
def joW (A B : Wd) (i : Nat) : Wd := fun k => if k < i then A k ||| B k else A k
theorem joW_zero (A B : Wd) : joW A B 0 = A := by funext k; simp [joW]
theorem joW_succ (A B : Wd) (i : Nat) : putW (joW A B i) i (A i ||| B i) = joW A B (i + 1) := by
  funext k
  unfold putW joW
  by_cases h : k = i
  · subst h; simp
  · by_cases h2 : k < i
    · have : k < i + 1 := by omega
      simp [h, h2, this]
    · have : ¬ k < i + 1 := by omega
      simp [h, h2, this]
theorem wdA_joW (A B : Wd) : wdA (joW A B 8) = wdA (fun k => A k ||| B k) := by simp [joW]
/-- Behind i rounds: the two boxes. -/
structure JI (w : World) (A B : Wd) (i : Nat) (X : World) : Prop where
  bel : Below w.heap.size w X
  b0 : X.heap[w.heap.size]? = some (.cells (wdA (joW A B i)) 62)
  b1 : X.heap[w.heap.size + 1]? = some (.cells (wdA B) 62)
  b2 : X.heap[w.heap.size + 2]? = some (.cells #[.int .u64 0, .int .u64 0, .int .u64 0, .int .u64 0, .int .u64 0, .int .u64 0, .int .u64 0, .int .u64 0] 62)
theorem JI.at0 {w X : World} {A B : Wd} {i : Nat} (h : JI w A B i X) (hi : i < 8) : X.cell? ⟨w.heap.size, i, none⟩ = some (.int .u64 (A i : Int)) := by
  rw [(blk_cells h.b0).1 i, wd_at hi]; simp [joW]
theorem JI.at1 {w X : World} {A B : Wd} {i : Nat} (h : JI w A B i X) (hi : i < 8) : X.cell? ⟨w.heap.size + 1, i, none⟩ = some (.int .u64 (B i : Int)) := by
  rw [(blk_cells h.b1).1 i, wd_at hi]
theorem JI.step {w X : World} {A B : Wd} {i : Nat} (h : JI w A B i X) (hi : i < 8) : JI w A B (i + 1) (X.drew.setCell ⟨w.heap.size, i, none⟩ (.int .u64 ((A i ||| B i : Nat) : Int))) := by
  refine ⟨h.bel.trans ((Fr.setCell (S := fun q => q = w.heap.size) (Fr.refl _ X).drew ⟨w.heap.size, i, none⟩ (.inr rfl) _).below h.bel.size (fun k hk e => by omega)), ?_, ?_, ?_⟩
  · have q := setCell_block (w := X.drew) (o := i) h.b0 (.int .u64 ((A i ||| B i : Nat) : Int))
    rw [wd_set hi, joW_succ] at q
    exact q
  · rw [Below.heap_setCell _ _ _ _ (by show w.heap.size + 1 ≠ w.heap.size; omega)]
    exact h.b1
  · rw [Below.heap_setCell _ _ _ _ (by show w.heap.size + 2 ≠ w.heap.size; omega)]
    exact h.b2
set_option maxRecDepth 100000 in
set_option maxHeartbeats 3200000 in
theorem join_any {w : World} {A B : Wd} (hA : OkW A) (hB : OkW B) : Calls Tryd.prog 43 #[stV A, stV B] w fun e w' => e = .returned (stV (fun k => A k ||| B k)) ∧ Below w.heap.size w w' := by
  unfold stV
  go_enter Tryd.func43, Tryd.ntmps43
  go_wp2_with fail
  obtain ⟨W0, eW⟩ : ∃ W0, Hid ((((w.alloc (.cells (wdA A) 62)).alloc (.cells (wdA B) 62)).alloc (.cells #[.int .u64 0, .int .u64 0, .int .u64 0, .int .u64 0, .int .u64 0, .int .u64 0, .int .u64 0, .int .u64 0] 62)) = W0) := ⟨_, hide rfl⟩
  have HJ : Hid (JI w A B 0 W0) := by
    obtain ⟨q1, q2, q3⟩ := blk3 w (.cells (wdA A) 62) (.cells (wdA B) 62) (.cells #[.int .u64 0, .int .u64 0, .int .u64 0, .int .u64 0, .int .u64 0, .int .u64 0, .int .u64 0, .int .u64 0] 62)
    rw [unhide eW] at q1 q2 q3
    exact ⟨by rw [← unhide eW]; exact bl_three w _ _ _, by rw [joW_zero]; exact q1, q2, q3⟩
  have eW' := unhide eW
  rw [eW']
  clear eW' eW
  go_loopg [6] 8 (fun gg t6 wr => ∃ i : Nat, Hid (i + gg = 8) ∧ t6 = .int .i64 (i : Int) ∧ Hid (JI w A B i wr))
  case atStart => exact ⟨0, by unfold Hid; omega, rfl, HJ⟩
  case round =>
    clear HJ
    obtain ⟨i, hi, rfl, hG⟩ := hrel
    by_cases hlt : i < 8
    · have i0 : (0 : Int) ≤ (i : Int) := by omega
      have i1 : (i : Int) < 8 := by omega
      have HS0 : Hid (JI w A B i wr) := hG
      have HS : Hid (JI w A B i wr.drew) := ⟨(unhide hG).bel.trans ((bl_drew wr).mono (unhide hG).bel.size), (unhide hG).b0, (unhide hG).b1, (unhide hG).b2⟩
      go_wp2_with fail
      refine wp_region_later (S := (fun V => JI w A B i V)) (m := 8) (by kernel_rfl) ?_
      refine wpAnyL_takeU (i := 0) (oi := _) (v := .int .i64 (i : Int)) rfl (by kernel_rfl) (by kernel_rfl) (by kernel_rfl) (by decide) (fun _ _ _ h => h) (Or.inl ⟨by rfl, (by intro w' _; go_simp)⟩) (fun _ => unhide HS) ?_
      go_simp
      refine wpAnyL_takeU (i := 1) (oi := _) (v := .pointer (some ⟨w.heap.size, i, none⟩)) rfl (by kernel_rfl) (by kernel_rfl) (by kernel_rfl) (by decide) (fun _ _ _ h => h) (Or.inl ⟨by rfl, (by intro w' _; go_simp)⟩) (fun _ => unhide HS) ?_
      go_simp
      refine wpAnyL_take (i := 2) (oi := _) (om := _) (v := .int .u64 (A i : Int)) rfl rfl (by kernel_rfl) (by kernel_rfl) (by kernel_rfl) (by kernel_rfl) (by decide) (by kernel_rfl) (fun _ _ _ h => h) (Or.inl ⟨by rfl, (by intro w' hSw; have c0 := JI.at0 hSw hlt; go_simp)⟩) (unhide HS) ?_
      go_simp
      refine wpAnyL_takeU (i := 3) (oi := _) (v := .int .i64 (i : Int)) rfl (by kernel_rfl) (by kernel_rfl) (by kernel_rfl) (by decide) (fun _ _ _ h => h) (Or.inl ⟨by rfl, (by intro w' _; go_simp)⟩) (fun _ => unhide HS) ?_
      go_simp
      refine wpAnyL_takeU (i := 4) (oi := _) (v := .pointer (some ⟨w.heap.size + 1, i, none⟩)) rfl (by kernel_rfl) (by kernel_rfl) (by kernel_rfl) (by decide) (fun _ _ _ h => h) (Or.inl ⟨by rfl, (by intro w' _; go_simp)⟩) (fun _ => unhide HS) ?_
      go_simp
      refine wpAnyL_take (i := 5) (oi := _) (om := _) (v := .int .u64 (B i : Int)) rfl rfl (by kernel_rfl) (by kernel_rfl) (by kernel_rfl) (by kernel_rfl) (by decide) (by kernel_rfl) (fun _ _ _ h => h) (Or.inl ⟨by rfl, (by intro w' hSw; have c0 := JI.at1 hSw hlt; go_simp)⟩) (unhide HS) ?_
      go_simp
      refine wpAnyL_takeU (i := 6) (oi := _) (v := .int .u64 (bits .or .u64 (A i : Int) (B i : Int))) rfl (by kernel_rfl) (by kernel_rfl) (by kernel_rfl) (by decide) (fun _ _ _ h => h) (Or.inl ⟨by rfl, (by intro w' _; go_simp)⟩) (fun _ => unhide HS) ?_
      go_simp
      refine wpAnyL_takeU (i := 7) (oi := _) (v := .pointer (some ⟨w.heap.size, i, none⟩)) rfl (by kernel_rfl) (by kernel_rfl) (by kernel_rfl) (by decide) (fun _ _ _ h => h) (Or.inl ⟨by rfl, (by intro w' _; go_simp)⟩) (fun _ => unhide HS) ?_
      go_simp
      have c0 := JI.at0 (unhide HS) hlt
      have f0 := (blk_cells (unhide HS).b0).2.1 i
      refine wpAnyL_one (i := 8) (o := _) (by kernel_rfl) rfl (fun K hK => ?_)
      go_simp
      refine hK _ _ (fun q => absurd q (by decide)) ?_
      refine wpAnyL_done (by kernel_rfl) ?_ _
      have HN := hide ((unhide hG).step hlt)
      rw [← bitsOr (hA i) (hB i)] at HN
      clear c0 f0 HS HS0 hG
      go_wp2_with fail
      go_roundg (gk - 1)
      case measure => have := unhide hi; omega
      case rel => exact ⟨i + 1, by have := unhide hi; unfold Hid; omega, by go_num, HN⟩
    · have hiL : i = 8 := by have := unhide hi; omega
      subst hiL
      have i1 : ¬ ((8 : Nat) : Int) < 8 := by omega
      have HL := hG
      obtain ⟨_, g0, g1, g2⟩ := unhide hG
      rw [wdA_joW] at g0
      have c0 := (blk_cells g0).1 0
      have c1 := (blk_cells g0).1 1
      have c2 := (blk_cells g0).1 2
      have c3 := (blk_cells g0).1 3
      have c4 := (blk_cells g0).1 4
      have c5 := (blk_cells g0).1 5
      have c6 := (blk_cells g0).1 6
      have c7 := (blk_cells g0).1 7
      have cl := (blk_cells g2).2.2
      have ff := (blk_cells g2).2.1
      have d0 := (blk_cells g2).1 0
      have d1 := (blk_cells g2).1 1
      have d2 := (blk_cells g2).1 2
      have d3 := (blk_cells g2).1 3
      have d4 := (blk_cells g2).1 4
      have d5 := (blk_cells g2).1 5
      have d6 := (blk_cells g2).1 6
      have d7 := (blk_cells g2).1 7
      simp at c0 c1 c2 c3 c4 c5 c6 c7 d0 d1 d2 d3 d4 d5 d6 d7
      have f0 := ff 0
      have f1 := ff 1
      have f2 := ff 2
      have f3 := ff 3
      have f4 := ff 4
      have f5 := ff 5
      have f6 := ff 6
      have f7 := ff 7
      clear g0 g1 g2 ff
      have HBel := hide (unhide HL).bel
      clear HL hG
      go_wp2_with fail
      refine bodyPost_ret (v := .agg (wdA (fun k => A k ||| B k))) ?_ rfl ?_
      · rw [results_cell_one rfl]
        go_simp
      · have hwp : w.heap.size ≤ w.heap.size + 1 + 1 := by omega
        refine ⟨rfl, ?_⟩
        refine Fr.below (S := fun k => w.heap.size ≤ k) (w := w) ?_ (Nat.le_refl _) (fun k hk e => by omega)
        have h0 : Fr (fun k => w.heap.size ≤ k) w wr := Fr.of_below (unhide HBel)
        repeat (first | with_reducible exact h0 | with_reducible refine Fr.setCell ?_ ⟨_, _, none⟩ (.inr hwp) _)

set_option linter.unusedVariables false
set_option linter.unusedSimpArgs false
theorem made_at (z : Array Value) (m j : Nat) (hj : j < m) : (madeCells z m)[j]? = some (z[j % z.size]!) := by
  simp [madeCells, hj]
/-- A row of zeros. -/
theorem made_ro {T : Type} (en : T → List Value) (z0 : T) (z : Array Value) (sz : Nat) (hz : ∀ x, (en x).length = sz) (h0 : 0 < sz) (he : z.toList = en z0) (w : World) (e : TypeId) (N : Nat) (hN : N ≤ maxLen) :
    Ro (w.alloc (.cells (madeCells z (N * sz)) e)) sz (.slice (some ⟨w.heap.size, 0, none⟩) N N) N (flt en (List.replicate N z0)) := by
  have hzs : z.size = sz := by rw [← Array.length_toList, he, hz]
  refine ⟨by rw [flt_length hz, List.length_replicate], .inr ⟨w.heap.size, 0, N, _, e, rfl, heap_alloc_new w _, Nat.le_refl _, hN, by rw [size_madeCells]; omega, fun j hj => ?_⟩⟩
  rw [Nat.zero_add, made_at _ _ _ hj, hzs]
  have hq : j / sz < N := Nat.div_lt_of_lt_mul (by rw [Nat.mul_comm]; exact hj)
  have hr : j % sz < sz := Nat.mod_lt _ h0
  have ej : j = j / sz * sz + j % sz := by rw [Nat.mul_comm]; exact (Nat.div_add_mod j sz).symm
  conv => rhs; rw [ej]
  rw [flt_at hz (p := z0) (by simp [hq]) (j % sz) hr, ← he]
  rw [Array.getElem?_toList, getElem!_pos z _ (by omega), Array.getElem?_eq_getElem]

section
variable {T U : Type} {en : T → List Value} {sz : Nat} {P : World → U → T → Prop} {bl : T → Nat → Prop} {Z : Nat → Prop}
/-- One thing turned, its own blocks with it. -/
theorem OW.setX {w w' : World} {v : Value} {us : List U} {xs : List T} (hP : Stays P bl) (h : OW en sz P bl Z w v us xs) {i : Nat} {u : U} {x x0 : T} {S : Nat → Prop} (hx0 : xs[i]? = some x0) (f : Fr S w w') (hS : ∀ k, S k → v.ownBlock = some k ∨ bl x0 k) (hr : Ro w' sz v us.length (flt en (xs.set i x)))
    (hp : P w' u x) (hb : ∀ k, bl x k → Z k ∧ k < w'.heap.size ∧ v.ownBlock ≠ some k) (ha : ∀ (j : Nat) (z : T) (k : Nat), j ≠ i → xs[j]? = some z → bl x k → ¬ bl z k) :
    OW en sz P bl Z w' v (us.set i u) (xs.set i x) := by
  have hln := h.len
  have hi : i < us.length := by rw [← hln]; exact (List.getElem?_eq_some_iff.1 hx0).1
  have hself : (xs.set i x)[i]? = some x := by rw [List.getElem?_set_self (by omega)]
  have hselfu : (us.set i u)[i]? = some u := by rw [List.getElem?_set_self hi]
  have hoth : ∀ j, j ≠ i → (xs.set i x)[j]? = xs[j]? := fun j hj => List.getElem?_set_ne (fun e => hj e.symm)
  have hothu : ∀ j, j ≠ i → (us.set i u)[j]? = us[j]? := fun j hj => List.getElem?_set_ne (fun e => hj e.symm)
  refine ⟨by simp [h.len], by rw [List.length_set]; exact hr, h.rb, fun j q z hq hz' => ?_, fun j z k hz' hk => ?_, fun j l z z' k hjl hz1 hz2 hk => ?_⟩
  · by_cases hj : j = i
    · subst hj
      rw [hself] at hz'
      cases hz'
      rw [hselfu] at hq
      cases hq
      exact hp
    · rw [hoth j hj] at hz'
      rw [hothu j hj] at hq
      exact hP _ w _ q z (h.el j q z hq hz') f (fun k hk e2 => (hS k e2).elim (fun e => (h.eb j z k hz' hk).2.2 e) (fun e => h.ap i j x0 z k (fun q => hj q.symm) hx0 hz' e hk))
  · by_cases hj : j = i
    · subst hj
      rw [hself] at hz'
      cases hz'
      exact hb k hk
    · rw [hoth j hj] at hz'
      obtain ⟨b1, b2, b3⟩ := h.eb j z k hz' hk
      exact ⟨b1, Nat.lt_of_lt_of_le b2 f.size, b3⟩
  · by_cases hj : j = i
    · subst hj
      rw [hself] at hz1
      cases hz1
      rw [hoth l (fun e => hjl e.symm)] at hz2
      exact ha l z' k (fun e => hjl e.symm) hz2 hk
    · rw [hoth j hj] at hz1
      by_cases hl : l = i
      · subst hl
        rw [hself] at hz2
        cases hz2
        exact fun e2 => ha j z k hj hz1 e2 hk
      · rw [hoth l hl] at hz2
        exact h.ap j l z z' k hjl hz1 hz2 hk
end
/-- One list of a row of lists grown by one, and laid back. -/

def IR (w : World) (l : List Int) (u : Value) : Prop := Ro w 1 u l.length (flt enI l)
def blI (x : Value) (k : Nat) : Prop := x.ownBlock = some k
theorem staysL : Stays IR blI := fun S w w' l u h f hk => Ro.fr h f hk
abbrev SL := OW enV 1 IR blI
theorem SL.appSet {Z : Nat → Prop} {Y w1 : World} {g nn cap : Nat} {us : List (List Int)} {xs : List Value} (h : SL Z Y (.slice (some ⟨g, 0, none⟩) nn cap) us xs) {i : Nat} {u : List Int} {x x' : Value} {s : Int} (hu : us[i]? = some u) (hx : xs[i]? = some x)
    (hr : Ro w1 1 x' (u.length + 1) (flt enI u ++ enI s)) (hg : Y.grownBy w1 x.ownBlock) (hat : x'.ownBlock = x.ownBlock ∨ x'.ownBlock = some Y.heap.size) (hZ : ∀ k, Y.heap.size ≤ k → Z k) :
    SL Z (w1.setCell ⟨g, i, none⟩ x') (.slice (some ⟨g, 0, none⟩) nn cap) (us.set i (u ++ [s])) (xs.set i x') ∧ Fr (fun k => Z k) Y (w1.setCell ⟨g, i, none⟩ x') ∧ w1.cell? ⟨g, i, none⟩ = some x ∧ w1.frozen? ⟨g, i, none⟩ = false := by
  obtain ⟨_, _, e0, _⟩ := h.row.shape
  cases e0
  have hi : i < us.length := (List.getElem?_eq_some_iff.1 hu).1
  have hgl : g < Y.heap.size := h.row.lt g rfl
  have hgx : ∀ k, x.ownBlock = some k → Z k ∧ k < Y.heap.size ∧ g ≠ k := fun k hk => by
    obtain ⟨a, b, c⟩ := h.eb i x k hx hk
    exact ⟨a, b, fun e => c (by rw [e]; rfl)⟩
  have f1 : Fr (fun k => x.ownBlock = some k) Y w1 := (Fr.refl _ Y).grown hg (fun k e => .inr e)
  have r1 : Ro w1 1 (.slice (some ⟨g, 0, none⟩) us.length cap) us.length (flt enV xs) := h.row.fr f1 (fun k hk e => by cases hk; exact (hgx g e).2.2 rfl)
  have hcell : w1.cell? ⟨g, i, none⟩ = some x := by
    obtain ⟨b, o, c, e, _, _, _, hc⟩ := (Rx.of_ro (by rw [← h.len] at r1; exact r1)).elem zV hx
    cases e
    have := hc 0 _ rfl
    simpa using this
  have r2 := r1.putAt zV h.len rfl hi x'
  have e2 : w1.setCells g (0 + i * 1) (enV x') = w1.setCell ⟨g, i, none⟩ x' := by simp [enV, World.setCells]
  rw [e2] at r2
  have hxb : ∀ k, x'.ownBlock = some k → Z k ∧ k < w1.heap.size ∧ g ≠ k := fun k hk => by
    have hl := hr.lt k hk
    rcases hat with q | q
    · rw [q] at hk
      obtain ⟨a, b, c⟩ := hgx k hk
      exact ⟨a, hl, c⟩
    · rw [q] at hk
      cases hk
      exact ⟨hZ _ (Nat.le_refl _), hl, by omega⟩
  have f2 : Fr (fun k => k = g ∨ x.ownBlock = some k) Y (w1.setCell ⟨g, i, none⟩ x') := (f1.mono (fun k _ e => .inr e)).setCell _ (.inr (.inl rfl)) _
  refine ⟨h.setX staysL hx f2 (fun k e => e.elim (fun e => .inl (by rw [e]; rfl)) .inr) r2.1 ?_ (fun k hk => ?_) (fun j z k hj hz hk hzk => ?_), f2.mono (fun k _ e => ?_), hcell, r1.free rfl _⟩
  · show Ro _ 1 x' (u ++ [s]).length (flt enI (u ++ [s]))
    have e3 : flt enI (u ++ [s]) = flt enI u ++ enI s := by simp [flt]
    rw [e3, List.length_append]
    exact hr.fr r2.2 (fun k hk e => (hxb k hk).2.2 e.symm)
  · obtain ⟨a, b, c⟩ := hxb k hk
    exact ⟨a, by simpa [World.setCell] using b, fun e => c (by cases e; rfl)⟩
  · rcases hat with q | q
    · exact h.ap i j x z k (fun e => hj e.symm) hx hz (by show x.ownBlock = some k; rw [← q]; exact hk) hzk
    · have hk2 : x'.ownBlock = some k := hk
      rw [q] at hk2
      cases hk2
      have := (h.eb j z _ hz hzk).2.1
      omega
  · rcases e with rfl | e
    · exact h.rb _ rfl
    · exact (hgx k e).1

theorem SL.start (w : World) (n : Nat) (hm : n ≤ maxLen) : SL (fun k => w.heap.size ≤ k) (w.alloc (.cells (madeCells (Value.slice none 0 0).cells (n * 1)) 25)) (.slice (some ⟨w.heap.size, 0, none⟩) n n) (List.replicate n []) (List.replicate n (.slice none 0 0)) := by
  have hro := made_ro enV (.slice none 0 0) (Value.slice none 0 0).cells 1 zV (by decide) rfl w 25 n hm
  refine ⟨by simp, by rw [List.length_replicate]; exact hro, fun k hk => by have hk2 : w.heap.size = k := by { simpa [Value.ownBlock] using hk }; subst hk2; exact Nat.le_refl _, fun i u x hu hx => ?_, fun i x k hx hk => ?_, fun i j x y k _ hx _ hk => ?_⟩
  · rw [List.getElem?_replicate] at hu
    rw [List.getElem?_replicate] at hx
    split at hu
    · cases hu
      rename_i h
      rw [if_pos h] at hx
      cases hx
      simpa [IR, flt] using Ro.nil _ 1
    · cases hu
  · rw [List.getElem?_replicate] at hx
    split at hx
    · cases hx; cases hk
    · cases hx
  · rw [List.getElem?_replicate] at hx
    split at hx
    · cases hx; cases hk
    · cases hx
end Go.Proofs.YtpbdmbmafjkinaaDoor
