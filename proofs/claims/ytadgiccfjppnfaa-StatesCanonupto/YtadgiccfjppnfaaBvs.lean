/-
  The document's book: a list of values with their new numbers.
-/
import Derived.Test.YtadgiccfjppnfaaBvl
import Derived.Test.YtadgiccfjppnfaaBvn
namespace Go.Proofs.Ytadgiccfjppnfaa
open Go.RowKit
set_option linter.unusedVariables false
set_option linter.unusedSimpArgs false
set_option maxRecDepth 100000 in
set_option maxHeartbeats 3200000 in
theorem bvalue_in {B bb nt no : Nat} {c : Nat → Value} {w : World} {ts os : List Nat} {O : List Ob} (h : BkM B bb nt no c w ts os) {ta oa : Option Addr} {tc oc : Nat} (h0 : c 0 = .slice ta nt tc) (h1 : c 1 = .slice oa no oc) (hO : OsV w (.slice oa no oc) O) (hT : ts.length ≤ 1048576) (hL : os.length ≤ 1048576) (k n : Int) (hk : ¬ k = 4) {o : Ob} (hx : nmO O (k, n) = some o) (hin : n.toNat ∈ os) :
    Calls Try.prog 58 #[.pointer (some ⟨bb, 0, none⟩), .agg #[.int .i64 k, .int .i64 n]] w (VlP B bb nt no O c w (ts, os) (k, n)) := by
  obtain ⟨i, rfl, ho⟩ := noM hx
  have hk2 : (nmO O (k, (i : Int))).isSome = true := by rw [hx]; rfl
  obtain ⟨_, _, eO, _, _⟩ := hO.shape
  have hno : no = O.length := by cases eO; rfl
  have hi : i < no := by rw [hno]; exact (List.getElem?_eq_some_iff.1 ho).1
  obtain ⟨a10, p10, e10, q10, q10'⟩ := h.r4.shape
  obtain ⟨g, off, cap, e10', g1, g2, g3, g4⟩ := h.r4.full (by omega)
  rw [e10] at e10'
  injection e10' with ea eb ec
  subst ea ec
  clear eb eO
  have m10 : w.cell? ⟨bb, 10, none⟩ = some (.slice (some ⟨g, off, none⟩) no p10) := by rw [h.cell 10, ← e10]; rfl
  have z0 : w.cell? ⟨g, off + i, none⟩ = some (.int .i64 (posN os i)) := by
    rw [g4 i (by omega)]
    have := flt_at zL (allP_at (l := os) hi) 0 (by omega)
    rw [Nat.mul_one, Nat.add_zero] at this
    exact this
  have i0 : (0 : Int) ≤ (i : Int) := by omega
  have i1 : (i : Int) < (no : Int) := by omega
  unfold maxLen at g2
  have HE10 := hide e10
  have HHI := hide hi
  have hglt := g3
  rw [Int.toNat_natCast] at hin
  have em : metV nt O (ts, os) (k, (i : Int)) = (ts, os) := by simp [metV, hk, hk2, addN, hin]
  have en : numV nt O (ts, os) (k, (i : Int)) = (k, posN os i) := by simp [numV, hk, hk2]
  have HP : Hid (∀ W, BkP B bb nt no c w ts os W → VlP B bb nt no O c w (ts, os) (k, (i : Int)) (.returned (.agg #[.int .i64 k, .int .i64 (posN os i)])) W) := fun W hW => by unfold VlP; rw [em, en]; exact ⟨rfl, hW⟩
  have hp : decide (posN os i < 0) = false := decide_eq_false (by rw [posN_neg]; simpa using hin)
  obtain ⟨PZ, hPZ⟩ : ∃ z, Hid (posN os i = z) := ⟨_, hide rfl⟩
  rw [unhide hPZ] at HP hp z0
  have HP1 := hide (blk2v w (.cells #[.int .i64 k, .int .i64 (i : Int)] 40) (.cells #[.int .i64 0, .int .i64 0] 40)).1
  have HP2 := hide (blk2v w (.cells #[.int .i64 k, .int .i64 (i : Int)] 40) (.cells #[.int .i64 0, .int .i64 0] 40)).2
  have HC0 := namesO_any (hO.below (bl_past (bl_two w (.cells #[.int .i64 k, .int .i64 (i : Int)] 40) (.cells #[.int .i64 0, .int .i64 0] 40)) (bl_drew _)) (Nat.le_refl _)) k i
  have d4 : (k == 4) = false := by simpa using hk
  have m1 : w.cell? ⟨bb, 1, none⟩ = some (.slice oa no oc) := by rw [h.cell 1, ← h1]; rfl
  have hbb := (blk_cells h.box).2.2
  have hbb1 : bb < w.heap.size + 1 := by omega
  have hbb2 : bb < w.heap.size + 1 + 1 := by omega
  have HM := hide h
  rw [hx] at HC0
  have HC := hide HC0
  clear em en h hO h0 h1 HC0 hx hk g4 e10 q10 q10' ho hin hk2 hno hi
  go_enter Try.func58, Try.ntmps58
  go_wp2_with fail
  go_region_held3 (fun w' => w'.cell? ⟨w.heap.size, 0, none⟩ = some (.int .i64 k) ∧ w'.cell? ⟨w.heap.size, 1, none⟩ = some (.int .i64 (i : Int)) ∧ w'.cell? ⟨bb, 1, none⟩ = some (.slice oa no oc)) (first | exact unhide HSB | go_keep) (first | (go_at_call 54; refine (unhide HC).mono ?_; rintro e w1 ⟨rfl, hb⟩; have y1 := (blk_cells (bkeep1 (unhide HP1) hb)).1; have HSB : Hid (w1.cell? ⟨w.heap.size, 0, none⟩ = some (.int .i64 k) ∧ w1.cell? ⟨w.heap.size, 1, none⟩ = some (.int .i64 (i : Int)) ∧ w1.cell? ⟨bb, 1, none⟩ = some (.slice oa no oc)) := ⟨y1 0, y1 1, ((bl_past (bl_past (bl_two w _ _) (bl_drew _)) hb).cell (p := ⟨bb, 1, none⟩) hbb).trans m1⟩))
  have HB1 := hide (bl_past (bl_past (bl_two w _ _) (bl_drew _)) hb)
  have HQ1 := hide (bkeep1 (unhide HP1) hb)
  have HQ2 := hide (bkeep1 (unhide HP2) hb)
  have hs1 : w.heap.size + 1 < w1.heap.size := (blk_cells (unhide HQ2)).2.2
  clear hb m1 HSB HC y1

  have hbM := (unhide HM).below (unhide HB1)
  have n10 := ((unhide HB1).cell (p := ⟨bb, 10, none⟩) hbb).trans m10
  have nz := ((unhide HB1).cell (p := ⟨g, off + i, none⟩) hglt).trans z0
  have a1 := (blk_cells (unhide HQ1)).1 1
  simp at a1
  have HBM := hide hbM
  clear hbM m10 z0
  go_wp2_with fail
  go_quiet (fail)
  obtain ⟨X, hX⟩ : ∃ X, Hid (w1.drewN nq = X) := ⟨_, hide rfl⟩
  have HXB : Hid (Below w1.heap.size w1 X) := by rw [← unhide hX]; exact hide (bl_drewN w1 nq)
  rw [unhide hX]
  have HXM := hide ((unhide HBM).below (unhide HXB))
  have hsx := (unhide HXB).size
  have n10' := ((unhide HXB).cell (p := ⟨bb, 10, none⟩) (show bb < w1.heap.size by omega)).trans n10
  have nz' := ((unhide HXB).cell (p := ⟨g, off + i, none⟩) (show g < w1.heap.size by omega)).trans nz
  have HX1 := hide (bkeep1 (unhide HQ1) (unhide HXB))
  have HX2 := hide (bkeep1 (unhide HQ2) (unhide HXB))
  clear n10 nz a1 hX
  obtain ⟨x1, -, -⟩ := blk_cells (unhide HX1)
  obtain ⟨x2, xf, -⟩ := blk_cells (unhide HX2)
  have b0 := x1 0
  have b1 := x1 1
  have y0 := x2 0
  have y1 := x2 1
  have f0 := xf 0
  have f1 := xf 1
  simp at b0 b1 y0 y1
  have b10 := n10'
  have bz := nz'
  clear x1 x2 xf n10' nz'
  have HS8 : Hid (∀ W, Fr (fun k => k = w.heap.size + 1) X W → (W.cell? ⟨w.heap.size, 0, none⟩ = some (.int .i64 k) ∧ W.cell? ⟨bb, 10, none⟩ = some (.slice (some ⟨g, off, none⟩) no p10) ∧ W.cell? ⟨w.heap.size, 1, none⟩ = some (.int .i64 (i : Int)) ∧ W.cell? ⟨g, off + i, none⟩ = some (.int .i64 PZ))) := fun W hF => ⟨(hF.cell (a := ⟨w.heap.size, 0, none⟩) (show w.heap.size < X.heap.size by omega) (show ¬ w.heap.size = w.heap.size + 1 by omega)).trans b0, (hF.cell (a := ⟨bb, 10, none⟩) (show bb < X.heap.size by omega) (show ¬ bb = w.heap.size + 1 by omega)).trans b10, (hF.cell (a := ⟨w.heap.size, 1, none⟩) (show w.heap.size < X.heap.size by omega) (show ¬ w.heap.size = w.heap.size + 1 by omega)).trans b1, (hF.cell (a := ⟨g, off + i, none⟩) (show g < X.heap.size by omega) (show ¬ g = w.heap.size + 1 by omega)).trans bz⟩
  go_wp2_with fail
  go_region_held3 (fun w' => w'.cell? ⟨w.heap.size, 0, none⟩ = some (.int .i64 k) ∧ w'.cell? ⟨bb, 10, none⟩ = some (.slice (some ⟨g, off, none⟩) no p10) ∧ w'.cell? ⟨w.heap.size, 1, none⟩ = some (.int .i64 (i : Int)) ∧ w'.cell? ⟨g, off + i, none⟩ = some (.int .i64 PZ)) (first | (refine unhide HS8 _ ?_; repeat (first | refine Fr.drew ?_ | refine Fr.setCell ?_ _ (by simp) _ | with_reducible exact Fr.refl _ _)) | go_keep) (fail)
  go_wp2_with fail
  refine bodyPost_ret (v := .agg #[.int .i64 k, .int .i64 PZ]) ?_ rfl ?_
  · rw [results_cell_one rfl]
    go_simp
  · apply unhide HP
    refine BkP.wrap (unhide HM) (((unhide HM).below (bl_past (unhide HB1) (unhide HXB))).same) (bl_past (unhide HB1) (unhide HXB)) ?_
    repeat (first | refine Fr.drew ?_ | refine Fr.setCell ?_ _ (by right; simp; omega) _ | with_reducible exact Fr.refl _ _)

set_option linter.unusedVariables false
set_option linter.unusedSimpArgs false
theorem pigeon : ∀ (n : Nat) (l : List Nat), l.Nodup → (∀ x ∈ l, x < n) → l.length ≤ n
  | 0, l, _, h => by
    cases l with
    | nil => simp
    | cons a r => exact absurd (h a (by simp)) (by omega)
  | n + 1, l, hd, h => by
    by_cases hn : n ∈ l
    · have := pigeon n (l.erase n) (hd.erase n) (fun x hx => by
        have h1 := (List.Nodup.mem_erase_iff hd).1 hx
        have := h x h1.2
        have := h1.1
        omega)
      rw [List.length_erase_of_mem hn] at this
      omega
    · have := pigeon n l hd (fun x hx => by
        have := h x hx
        have : x ≠ n := fun e => hn (e ▸ hx)
        omega)
      omega
/-- What was met is there, and once. -/
structure MOk (nt no : Nat) (m : List Nat × List Nat) : Prop where
  d1 : m.1.Nodup
  b1 : ∀ x ∈ m.1, x < nt
  d2 : m.2.Nodup
  b2 : ∀ x ∈ m.2, x < no
theorem addN_ok {l : List Nat} {n b : Nat} (hd : l.Nodup) (hb : ∀ x ∈ l, x < b) (hn : n < b) : (addN l n).Nodup ∧ ∀ x ∈ addN l n, x < b := by
  unfold addN
  split
  · exact ⟨hd, hb⟩
  · rename_i h
    refine ⟨?_, fun x hx => ?_⟩
    · rw [List.nodup_append]
      refine ⟨hd, by simp, fun a ha b hb => ?_⟩
      simp at hb
      subst hb
      exact fun e => h (e ▸ ha)
    · simp at hx
      rcases hx with hx | rfl
      · exact hb x hx
      · exact hn
theorem MOk.t {nt no : Nat} {m : List Nat × List Nat} (h : MOk nt no m) (n : Int) : MOk nt no (addT nt m.1 n, m.2) := by
  unfold addT
  split
  · have := addN_ok h.d1 h.b1 (n := n.toNat) (by omega)
    exact ⟨this.1, this.2, h.d2, h.b2⟩
  · exact h
theorem MOk.v {nt : Nat} {O : List Ob} {m : List Nat × List Nat} (h : MOk nt O.length m) (v : Int × Int) : MOk nt O.length (metV nt O m v) := by
  unfold metV
  split
  · exact h.t v.2
  · split
    · rename_i hs
      obtain ⟨o, ho⟩ := Option.isSome_iff_exists.1 hs
      obtain ⟨i, e, hi⟩ := noM (k := v.1) (n := v.2) ho
      have := addN_ok h.d2 h.b2 (n := v.2.toNat) (by rw [e, Int.toNat_natCast]; exact (List.getElem?_eq_some_iff.1 hi).1)
      exact ⟨h.d1, h.b1, this.1, this.2⟩
    · exact h
theorem bvalue_any {B bb nt no : Nat} {c : Nat → Value} {w : World} {m : List Nat × List Nat} {O : List Ob} (h : BkM B bb nt no c w m.1 m.2) {ta oa : Option Addr} {tc oc : Nat} (h0 : c 0 = .slice ta nt tc) (h1 : c 1 = .slice oa no oc) (hO : OsV w (.slice oa no oc) O) (hm : MOk nt no m) (hnt : nt ≤ 1048576) (hno : no ≤ 1048576) (v : Int × Int) :
    Calls Try.prog 58 #[.pointer (some ⟨bb, 0, none⟩), .agg #[.int .i64 v.1, .int .i64 v.2]] w (VlP B bb nt no O c w m v) := by
  have l1 := pigeon nt m.1 hm.d1 hm.b1
  have l2 := pigeon no m.2 hm.d2 hm.b2
  obtain ⟨ts, os⟩ := m
  obtain ⟨k, n⟩ := v
  simp only at h l1 l2 ⊢
  by_cases hk : k = 4
  · exact bvalue_4 h h0 h1 hO (by omega) (by omega) k n hk
  · cases hx : nmO O (k, n) with
    | none => exact bvalue_no h h0 h1 hO (by omega) (by omega) k n hk hx
    | some o =>
      by_cases hin : n.toNat ∈ os
      · exact bvalue_in h h0 h1 hO (by omega) (by omega) k n hk hx hin
      · exact bvalue_new h h0 h1 hO (by omega) (by omega) k n hk hx hin
/-- A list: what is met with it, and it with its new numbers. -/
def metVs (nt : Nat) (O : List Ob) (m : List Nat × List Nat) (l : List (Int × Int)) : List Nat × List Nat := l.foldl (metV nt O) m
def numVs (nt : Nat) (O : List Ob) : List Nat × List Nat → List (Int × Int) → List (Int × Int)
  | _, [] => []
  | m, v :: r => numV nt O (metV nt O m v) v :: numVs nt O (metV nt O m v) r
theorem metVs_push (nt : Nat) (O : List Ob) (m : List Nat × List Nat) (l : List (Int × Int)) (v : Int × Int) : metVs nt O m (l ++ [v]) = metV nt O (metVs nt O m l) v := by simp [metVs]
theorem numVs_push (nt : Nat) (O : List Ob) : ∀ (l : List (Int × Int)) (m : List Nat × List Nat) (v : Int × Int), numVs nt O m (l ++ [v]) = numVs nt O m l ++ [numV nt O (metV nt O (metVs nt O m l) v) v]
  | [], m, v => rfl
  | a :: r, m, v => by
    simp only [List.cons_append, numVs, numVs_push nt O r]
    rfl
theorem numVs_length (nt : Nat) (O : List Ob) : ∀ (l : List (Int × Int)) (m : List Nat × List Nat), (numVs nt O m l).length = l.length
  | [], m => rfl
  | a :: r, m => by simp [numVs, numVs_length nt O r]
theorem MOk.vs {nt : Nat} {O : List Ob} : ∀ (l : List (Int × Int)) {m : List Nat × List Nat}, MOk nt O.length m → MOk nt O.length (metVs nt O m l)
  | [], m, h => h
  | a :: r, m, h => MOk.vs r (h.v a)
/-- The book, and a row of values apart from it. -/
def OutB (B bb nt no : Nat) (c : Nat → Value) (w : World) (m : List Nat × List Nat) (wr : World) (v : Value) (out : List (Int × Int)) : Prop :=
  ∃ c', BkM B bb nt no c' wr m.1 m.2 ∧ Fr (bkb c bb) w wr ∧ (∀ k, bkb c' bb k → bkb c bb k ∨ w.heap.size ≤ k) ∧ (∀ i, i ≤ 6 → c' i = c i) ∧ Ro wr 2 v out.length (flt enI out) ∧ ∀ k, v.ownBlock = some k → w.heap.size ≤ k ∧ ¬ bkb c' bb k
theorem OutB.push {B bb nt no : Nat} {c : Nat → Value} {w wr w1 w2 : World} {m m' : List Nat × List Nat} {v v' : Value} {out : List (Int × Int)} {p : Int × Int} {O1 O2 : Obj} {q : Nat} {c1 : Nat → Value} (h1 : BkM B bb nt no c1 wr m.1 m.2) (h2 : Fr (bkb c bb) w wr) (h3 : ∀ k, bkb c1 bb k → bkb c bb k ∨ w.heap.size ≤ k) (h4 : ∀ i, i ≤ 6 → c1 i = c i) (h5 : Ro wr 2 v out.length (flt enI out)) (h6 : ∀ k, v.ownBlock = some k → w.heap.size ≤ k ∧ ¬ bkb c1 bb k)
    (hb : BkP B bb nt no c1 wr m'.1 m'.2 w1) (hr : Ro w2 2 v' q (flt enI out ++ enI p)) (hq : q = out.length + 1) (hg : ((w1.alloc O1).alloc O2).grownBy w2 v.ownBlock) (hat : v'.ownBlock = v.ownBlock ∨ v'.ownBlock = some ((w1.alloc O1).alloc O2).heap.size) : OutB B bb nt no c w m' w2 v' (out ++ [p]) := by
  subst hq
  obtain ⟨c2, b1, b2, b3, b4⟩ := hb
  have hlt : ∀ k, bkb c2 bb k → k < w1.heap.size := fun k hk => (b1.in hk).2
  have hvn : ∀ k, v.ownBlock = some k → ¬ bkb c2 bb k := fun k hk q => by
    rcases b3 k q with r | r
    · exact (h6 k hk).2 r
    · have := h5.lt k hk; omega
  have fg : Fr (fun k => v.ownBlock = some k) w1 w2 := (((Fr.refl _ w1).alloc O1).alloc O2).grown hg (fun k e => .inr e)
  refine ⟨c2, b1.fr fg (fun k hk e => hvn k e hk), ?_, fun k hk => ?_, fun i hi => (b4 i hi).trans (h4 i hi), by rw [List.length_append, flt_append, flt_one]; exact hr, fun k hk => ?_⟩
  · have f1 : Fr (fun k => bkb c bb k ∨ w.heap.size ≤ k) w w1 := (h2.mono (fun k _ e => .inl e)).trans (b2.mono (fun k _ e => h3 k e))
    have f2 := f1.trans (fg.mono (fun k _ e => .inr (h6 k e).1))
    exact f2.mono (fun k hk e => by
      rcases e with e | e
      · exact e
      · omega)
  · rcases b3 k hk with r | r
    · exact h3 k r
    · exact .inr (Nat.le_trans h2.size r)
  · rcases hat with e | e
    · rw [e] at hk
      exact ⟨(h6 k hk).1, hvn k hk⟩
    · rw [e] at hk
      cases hk
      have s1 := h2.size
      have s2 := b2.size
      simp only [World.size_alloc]
      exact ⟨by omega, fun q => by have := hlt _ q; omega⟩
set_option maxRecDepth 100000 in
set_option maxHeartbeats 3200000 in
theorem bvalues_any {w0 : World} {bb nt no : Nat} {c : Nat → Value} {w : World} {m : List Nat × List Nat} {O : List Ob} (h : BkM w0.heap.size bb nt no c w m.1 m.2) {ta oa : Option Addr} {tc oc : Nat} (h0 : c 0 = .slice ta nt tc) (h1 : c 1 = .slice oa no oc) (hO : OsV w0 (.slice oa no oc) O) (hm : MOk nt no m) (hnt : nt ≤ 1048576) (hno : no ≤ 1048576) (hw : Below w0.heap.size w0 w)
    {lv : Value} {l : List (Int × Int)} (hl : Rx w0 2 lv l.length (flt enI l)) (hN : l.length ≤ 1048576) :
    Calls Try.prog 27 #[.pointer (some ⟨bb, 0, none⟩), lv] w (fun e w' => ∃ v', e = .returned v' ∧ OutB w0.heap.size bb nt no c w (metVs nt O m l) w' v' (numVs nt O m l)) := by
  obtain ⟨_, _, eO, _, _⟩ := hO.shape
  have hnoE : no = O.length := by cases eO; rfl
  subst hnoE
  clear eO
  have HC := hide (fun i p (hp : l[i]? = some p) => hl.elem zI hp)
  obtain ⟨_, a, cap, rfl, hlc, hcm, _⟩ := hl
  obtain ⟨L, hL⟩ : ∃ L, Hid (l.length = L) := ⟨_, hide rfl⟩
  rw [unhide hL] at hN hlc HC ⊢
  unfold maxLen at hcm
  have HBl : Hid (∀ wr, Fr (bkb c bb) w wr → Below w0.heap.size w0 wr) := fun wr hf => hw.trans (hf.below hw.size (fun k hk e => by have := (h.in e).1; omega))
  have HM := hide h
  have HO := hide hO
  have HK := hide hm
  have HH0 := hide h0
  have HH1 := hide h1
  have hw0 := hw.size
  clear h hO hm hw h0 h1
  go_enter Try.func27, Try.ntmps27
  go_wp2_with fail
  go_loopg [5, 6] L (fun g t5 t6 wr => ∃ (i : Nat) (v : Value), Hid (i + g = L) ∧ t5 = v ∧ t6 = .int .i64 (i : Int) ∧ Hid (OutB w0.heap.size bb nt O.length c w (metVs nt O m (l.take i)) wr v (numVs nt O m (l.take i))))
  case atStart => exact ⟨0, _, by unfold Hid; omega, rfl, rfl, hide ⟨c, by simpa [metVs] using unhide HM, Fr.refl _ _, fun k hk => .inl hk, fun _ _ => rfl, by simpa [numVs, flt] using Ro.nil _ _, by simp [Value.ownBlock]⟩⟩
  case round =>
    obtain ⟨i, v, hi, e5, rfl, hG⟩ := hrel
    obtain rfl := e5.symm
    by_cases hlt : i < L
    · obtain ⟨p, hp⟩ : ∃ p, l[i]? = some p := ⟨_, List.getElem?_eq_getElem (by rw [unhide hL]; exact hlt)⟩
      obtain ⟨b, off, cap', e, _, _, hb, hcs⟩ := unhide HC i p hp
      cases e
      obtain ⟨c1, g1, g2, g3, g4, g5, g6⟩ := unhide hG
      have hbw := unhide HBl _ g2
      have k0 : wr.cell? ⟨b, off + i * 2, none⟩ = some (.int .i64 p.1) := (hbw.cell (p := ⟨b, off + i * 2, none⟩) hb).trans (hcs 0 _ rfl)
      have k1 : wr.cell? ⟨b, off + i * 2 + 1, none⟩ = some (.int .i64 p.2) := (hbw.cell (p := ⟨b, off + i * 2 + 1, none⟩) hb).trans (hcs 1 _ rfl)
      have hbr := Nat.lt_of_lt_of_le hb hbw.size
      have i0 : (0 : Int) ≤ (i : Int) := by omega
      have i1 : (i : Int) < (L : Int) := by omega
      have HV := hide (bvalue_any g1 ((g4 0 (by omega)).trans (unhide HH0)) ((g4 1 (by omega)).trans (unhide HH1)) ((unhide HO).below hbw (Nat.le_refl _)) (MOk.vs (l.take i) (unhide HK)) hnt hno p)
      have HP := hide hp
      have HG1 := hide g1
      have HG2 := hide g2
      have HG3 := hide g3
      have HG4 := hide g4
      have HG5 := hide g5
      have HG6 := hide g6
      have htl : (numVs nt O m (l.take i)).length = i := by rw [numVs_length]; simp; rw [unhide hL]; omega
      clear hcs hp g1 g2 g3 g4 g5 g6 hbw
      go_wp2_with fail
      refine (unhide HV).mono ?_
      rintro e w1 ⟨rfl, hbk⟩
      obtain ⟨q, hq⟩ : ∃ q, Hid (numV nt O (metV nt O (metVs nt O m (l.take i)) p) p = q) := ⟨_, hide rfl⟩
      rw [unhide hq]
      have HBK := hide hbk
      have HRo : Hid (∀ O1 O2, Ro ((w1.alloc O1).alloc O2) 2 v (numVs nt O m (l.take i)).length (flt enI (numVs nt O m (l.take i)))) := fun O1 O2 => by
        obtain ⟨c2, b1, b2, b3, b4⟩ := hbk
        exact (unhide HG5).fr ((b2.alloc O1).alloc O2) (fun k hk e => (unhide HG6 k hk).2 e)
      have HNC := hide (fun O1 => new_cells (w1.alloc O1) #[.int .i64 q.1, .int .i64 q.2] 40)
      simp only [World.size_alloc] at HNC
      clear hbk HV k0 k1
      go_wp2_with (first | (at_builtin; refine appV rfl _ _ rfl _ (numVs nt O m (l.take i)) rfl (unhide HRo _ _) ⟨w1.heap.size + 1, 0, none⟩ 1 q rfl (unhide HNC _) (by rw [htl]; omega) ?_))
      intro v' w2 hr hg hat
      have hG2 := OutB.push (unhide HG1) (unhide HG2) (unhide HG3) (unhide HG4) (unhide HG5) (unhide HG6) (unhide HBK) hr (by rw [htl]) hg (by simpa using hat)
      rw [← unhide hq, ← numVs_push, ← metVs_push, ← take_push (unhide HP)] at hG2
      have HG2' := hide hG2
      clear hr hg hat hG2
      go_wp2_with fail
      go_roundg (gk - 1)
      case measure => have := unhide hi; omega
      case rel => exact ⟨i + 1, v', by have := unhide hi; unfold Hid; omega, rfl, by go_num, HG2'⟩
    · have hiL : i = L := by have := unhide hi; omega
      subst hiL
      have hG0 := unhide hG
      rw [List.take_of_length_le (by rw [unhide hL]; exact Nat.le_refl _)] at hG0
      have HG0 := hide hG0
      clear hG hG0
      go_wp2_with fail
      go_ret
      exact ⟨_, rfl, unhide HG0⟩
end Go.Proofs.Ytadgiccfjppnfaa
