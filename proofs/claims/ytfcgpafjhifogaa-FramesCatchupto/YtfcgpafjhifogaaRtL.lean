/-
  FramesReturn: its law.
-/
import Derived.Test.YtfcgpafjhifogaaRRt
import Derived.Test.YtfcgpafjhifogaaApF
import Derived.Test.YtfcgpafjhifogaaEnL
namespace Go.Proofs.Ytfcgpafjhifogaa
open Go.RowKit
set_option linter.unusedVariables false
set_option linter.unusedSimpArgs false
/-- What is elder than the lent frames. -/
structure RtU (P T Q : Nat) (paa : Option Addr) (pan pac : Nat) (pba : Option Addr) (pbn pbc : Nat) (cg co NC ccap fg fo NF fcap : Nat) (W0 : World) (fys : List Fv) (x : Int × Int) (p : Pg) (lv : Value) (l : List Fm) (X : World) : Prop where
  bp : X.heap[P]? = some (.cells #[.slice paa pan pac, .slice pba pbn pbc] 25)
  bt : X.heap[T]? = some (.cells #[.int .i64 x.1, .int .i64 x.2] 41)
  bq : X.heap[Q]? = some (.cells #[.slice (some ⟨cg, co, none⟩) NC ccap, .slice (some ⟨fg, fo, none⟩) NF fcap] 25)
  pg : PgV X (.agg #[.slice paa pan pac, .slice pba pbn pbc]) p
  lt : Lnt W0 p cg co ccap fg fo fcap fys X
  fl : FsV X lv l
section
variable {P T Q : Nat} {paa : Option Addr} {pan pac : Nat} {pba : Option Addr} {pbn pbc : Nat} {cg co NC ccap fg fo NF fcap : Nat} {W0 : World} {fys : List Fv} {x : Int × Int} {p : Pg} {lv : Value} {l : List Fm} {X Y : World}
theorem RtU.below (h : RtU P T Q paa pan pac pba pbn pbc cg co NC ccap fg fo NF fcap W0 fys x p lv l X) (hb : Below X.heap.size X Y) : RtU P T Q paa pan pac pba pbn pbc cg co NC ccap fg fo NF fcap W0 fys x p lv l Y :=
  ⟨blkT h.bp hb, blkT h.bt hb, blkT h.bq hb, h.pg.below hb (Nat.le_refl _), h.lt.keep hb, h.fl.below hb (Nat.le_refl _)⟩
theorem RtU.cells (h : RtU P T Q paa pan pac pba pbn pbc cg co NC ccap fg fo NF fcap W0 fys x p lv l X) :
    X.cell? ⟨P, 0, none⟩ = some (.slice paa pan pac) ∧ X.cell? ⟨P, 1, none⟩ = some (.slice pba pbn pbc) ∧ X.cell? ⟨Q, 0, none⟩ = some (.slice (some ⟨cg, co, none⟩) NC ccap) ∧ X.cell? ⟨Q, 1, none⟩ = some (.slice (some ⟨fg, fo, none⟩) NF fcap) ∧ X.cell? ⟨T, 0, none⟩ = some (.int .i64 x.1) ∧ X.cell? ⟨T, 1, none⟩ = some (.int .i64 x.2) :=
  ⟨(blk_cells h.bp).1 0, (blk_cells h.bp).1 1, (blk_cells h.bq).1 0, (blk_cells h.bq).1 1, (blk_cells h.bt).1 0, (blk_cells h.bt).1 1⟩
theorem RtU.ltt (h : RtU P T Q paa pan pac pba pbn pbc cg co NC ccap fg fo NF fcap W0 fys x p lv l X) : P < X.heap.size ∧ Q < X.heap.size ∧ T < X.heap.size := ⟨(blk_cells h.bp).2.2, (blk_cells h.bq).2.2, (blk_cells h.bt).2.2⟩
end
theorem rt_bound (l : List Fm) (x : Int × Int) {N : Nat} (hN : l.length ≤ N) (hS : ∀ f ∈ l, f.sl.length < N) : ((rt l x).getD []).length ≤ N ∧ ∀ f ∈ (rt l x).getD [], f.sl.length ≤ N := by
  unfold rt
  split
  · exact ⟨Nat.zero_le _, fun f hf => by cases hf⟩
  · rename_i q
    split
    · exact ⟨Nat.zero_le _, fun f hf => by cases hf⟩
    · rename_i f hf
      refine ⟨by simp; omega, fun g hg => ?_⟩
      simp only [Option.getD_some] at hg
      rcases List.mem_append.1 hg with r | r
      · have := hS g (List.mem_of_mem_take r); omega
      · simp only [List.mem_singleton] at r
        subst r
        have := hS f (List.mem_of_getElem? hf)
        simp
        omega
theorem rt_some (l : List Fm) (x : Int × Int) : (rt l x).isSome = decide (2 ≤ l.length) := by
  unfold rt
  by_cases q : l.length < 2
  · rw [if_pos q]; simp; omega
  · rw [if_neg q, List.getElem?_eq_getElem (by omega)]; simp; omega
theorem LF.setFn {B g off cap n : Nat} {w : World} {fs : List Fm} {ys : List Value} (h : LF B w g off cap fs ys) {m : Nat} {f : Fm} (hf : fs[m]? = some f) (u : Int) :
    LF B (w.setCell ⟨g, off + m * 3, none⟩ (.int .i64 u)) g off cap (fs.set m ⟨u, f.pc, f.sl⟩) ys ∧ Fr (fun k => k = g) w (w.setCell ⟨g, off + m * 3, none⟩ (.int .i64 u)) ∧ w.cell? ⟨g, off + m * 3, none⟩ = some (.int .i64 f.fn) ∧ w.frozen? ⟨g, off + m * 3, none⟩ = false := by
  have hm := (List.getElem?_eq_some_iff.1 hf).1
  obtain ⟨y, hy⟩ : ∃ y, ys[m]? = some y := ⟨_, List.getElem?_eq_getElem (by rw [h.len]; exact hm)⟩
  have hz := h.head hf hy
  obtain ⟨p1, p2, _, p4⟩ := h.row.setM (m := m) (d := 0) (z := ⟨u, f.pc, cutM y f.sl.length⟩) (u := .int .i64 u) h.zlen hz (by omega) (fun d hd => by
    match d, hd with
    | 0, _ => rfl
    | 1, _ => rfl
    | 2, _ => rfl)
  rw [Nat.add_zero] at p1 p2 p4
  have hc := (h.cells hz).2 0 _ rfl
  rw [Nat.add_zero] at hc
  refine ⟨⟨?_, ?_, h.gb⟩, p2, hc, p4⟩
  · rw [List.length_set]
    have e : (hdM fs ys ++ (flM ys ++ mkM fs.length 64)).set m ⟨u, f.pc, cutM y f.sl.length⟩ = hdM (fs.set m ⟨u, f.pc, f.sl⟩) ys ++ (flM ys ++ mkM fs.length 64) := by
      rw [List.set_append_left _ _ (by rw [hdM_length h.len]; exact hm)]
      congr 1
      refine List.ext_getElem? (fun i => ?_)
      by_cases q : i = m
      · subst q
        rw [List.getElem?_set_self (by rw [hdM_length h.len]; exact hm), hdM_at (List.getElem?_set_self hm) hy]
      · rw [List.getElem?_set_ne (fun e => q e.symm)]
        by_cases q2 : i < fs.length
        · obtain ⟨y2, hy2⟩ : ∃ y, ys[i]? = some y := ⟨_, List.getElem?_eq_getElem (by rw [h.len]; exact q2)⟩
          have h1 : fs[i]? = some fs[i] := List.getElem?_eq_getElem q2
          rw [hdM_at h1 hy2, hdM_at (by rw [List.getElem?_set_ne (fun e => q e.symm)]; exact h1) hy2]
        · rw [List.getElem?_eq_none (by rw [hdM_length h.len]; omega), List.getElem?_eq_none (by rw [hdM_length (by rw [List.length_set]; exact h.len), List.length_set]; omega)]
    rw [← e]
    exact p1
  · have e2 : (fs.set m ⟨u, f.pc, f.sl⟩).map (fun f => f.sl ++ mkV 64) = fs.map (fun f => f.sl ++ mkV 64) := by
      rw [List.map_set]
      refine List.ext_getElem? (fun i => ?_)
      by_cases q : i = m
      · subst q
        rw [List.getElem?_set_self (by rw [List.length_map]; exact hm), List.getElem?_map, hf]
        rfl
      · rw [List.getElem?_set_ne (fun e => q e.symm)]
    rw [e2, List.length_set]
    exact h.lr.move (p2.mono (fun k _ e => by subst e; rfl)) (fun k hk => .inl hk)
/-- The lent frames, where others are written. -/
theorem LF.frS {B g off cap : Nat} {w w2 : World} {fs : List Fm} {ys : List Value} {S : Nat → Prop} (h : LF B w g off cap fs ys) (f : Fr S w w2) (hg : ¬ S g) (hy : ∀ (i : Nat) (y : Value) (k : Nat), ys[i]? = some y → y.ownBlock = some k → ¬ S k) : LF B w2 g off cap fs ys :=
  ⟨h.row.fr f (fun k hk e => by cases hk; exact hg e), ⟨h.lr.len, fun i l y hl hy2 => (h.lr.el i l y hl hy2).fr f (fun k hk => hy i y k hy2 hk), h.lr.eb, h.lr.ap⟩, h.gb⟩
theorem LF.ylt {B g off cap : Nat} {w : World} {fs : List Fm} {ys : List Value} (h : LF B w g off cap fs ys) (i : Nat) (y : Value) (k : Nat) (hy : ys[i]? = some y) (hk : y.ownBlock = some k) : k < w.heap.size := by
  have hi := (List.getElem?_eq_some_iff.1 hy).1
  have hl := h.lr.len
  exact (h.lr.el i _ y (List.getElem?_eq_getElem (by omega)) hy).lt k hk
/-- Two rows of frames of one's own, one newer than the other. -/
theorem AG.of {W : World} {lb BG B2 B3 : Nat} {gv g2v : Value} {A A2 : List Fm} {xs1 xs2 : List Fmv} (h1 : OF BG W gv A xs1) (h2 : OF B2 W g2v A2 xs2) (hB : BG ≤ B2) (hB3 : B2 ≤ B3) (hlb : B3 ≤ lb)
    (hx1 : ∀ b, gv.ownBlock = some b → b < B2) (hx2 : ∀ (i : Nat) (y : Fmv) (b : Nat), xs1[i]? = some y → y.sv.ownBlock = some b → b < B2)
    (hy1 : ∀ b, g2v.ownBlock = some b → b < B3) (hy2 : ∀ (i : Nat) (y : Fmv) (b : Nat), xs2[i]? = some y → y.sv.ownBlock = some b → b < B3)
    (hc0 : W.cell? ⟨lb, 0, none⟩ = some gv) (hc1 : W.cell? ⟨lb, 1, none⟩ = some g2v) (hA : A.length ≤ 1048576 ∧ ∀ f ∈ A, f.sl.length ≤ 1048576) (hA2 : A2.length ≤ 1048576 ∧ ∀ f ∈ A2, f.sl.length ≤ 1048576) :
    AG (fun b => BG ≤ b ∧ b < B3) W lb (fun k => if k = 0 then gv else g2v) (fun k => if k = 0 then A.length else A2.length) (fun k => if k = 0 then xs1 else xs2) (fun j => (((A ++ A2)[j]?).map (fun f => f.sl)).getD []) := by
  have l1 := h1.len
  have l2 := h2.len
  have hat : ∀ (j : Nat) (s : Value), (ALs (fun k => if k = 0 then xs1 else xs2))[j]? = some s → (∃ y f, xs1[j]? = some y ∧ A[j]? = some f ∧ s = y.sv ∧ (((A ++ A2)[j]?).map (fun f => f.sl)).getD [] = f.sl) ∨ ∃ y f i, xs2[i]? = some y ∧ A2[i]? = some f ∧ s = y.sv ∧ (((A ++ A2)[j]?).map (fun f => f.sl)).getD [] = f.sl ∧ j = xs1.length + i := fun j s hs => by
    have hs : ((xs1 ++ xs2).map Fmv.sv)[j]? = some s := hs
    rw [List.getElem?_map] at hs
    obtain ⟨y, hy, e⟩ := Option.map_eq_some_iff.1 hs
    by_cases q : j < xs1.length
    · rw [List.getElem?_append_left q] at hy
      left
      refine ⟨y, A[j]'(by omega), hy, List.getElem?_eq_getElem (by omega), e.symm, ?_⟩
      rw [List.getElem?_append_left (by omega), List.getElem?_eq_getElem (by omega)]
      rfl
    · rw [List.getElem?_append_right (by omega)] at hy
      have hi := (List.getElem?_eq_some_iff.1 hy).1
      right
      refine ⟨y, A2[j - xs1.length]'(by omega), j - xs1.length, hy, List.getElem?_eq_getElem (by omega), e.symm, ?_, by omega⟩
      rw [List.getElem?_append_right (by omega), ← l1, List.getElem?_eq_getElem (by omega)]
      rfl
  refine ⟨fun k hk => ?_, fun k hk => ?_, fun k hk => ?_, fun j s hs => ?_, fun j => ?_, fun k b hk e => ?_, fun b e q => ?_, fun j j' s s' b hn hs hs' e q => ?_, fun j s b hs e => ?_, fun k b hk e => ?_, fun j s b hs e => ?_, fun k => ?_⟩
  · match k, hk with
    | 0, _ => exact hc0
    | 1, _ => exact hc1
  · match k, hk with
    | 0, _ => exact l1
    | 1, _ => exact l2
  · match k, hk with
    | 0, _ => exact h1.row
    | 1, _ => exact h2.row
  · rcases hat j s hs with ⟨y, f, hy, hf, e, r⟩ | ⟨y, f, i, hy, hf, e, r, _⟩
    · show Ro W 2 s ((((A ++ A2)[j]?).map (fun f => f.sl)).getD []).length (flt enI ((((A ++ A2)[j]?).map (fun f => f.sl)).getD []))
      rw [r, e]
      exact (h1.el j f y hf hy).2.2
    · show Ro W 2 s ((((A ++ A2)[j]?).map (fun f => f.sl)).getD []).length (flt enI ((((A ++ A2)[j]?).map (fun f => f.sl)).getD []))
      rw [r, e]
      exact (h2.el i f y hf hy).2.2
  · show ((((A ++ A2)[j]?).map (fun f => f.sl)).getD []).length ≤ 1048576
    rcases hq : (A ++ A2)[j]? with _ | f
    · exact Nat.zero_le _
    · rcases List.mem_append.1 (List.mem_of_getElem? hq) with r | r
      · exact hA.2 f r
      · exact hA2.2 f r
  · match k, hk with
    | 0, _ => have := hx1 b e; omega
    | 1, _ => have := hy1 b e; omega
  · have := hx1 b e
    have := h2.rb b q
    omega
  · rcases hat j s hs with ⟨y, f, hy, hf, rfl, _⟩ | ⟨y, f, i, hy, hf, rfl, _, ei⟩
    · rcases hat j' s' hs' with ⟨z, f', hz, hf', rfl, _⟩ | ⟨z, f', i', hz, hf', rfl, _, ei'⟩
      · rcases Nat.lt_or_gt_of_ne hn with r | r
        · exact h1.ap j j' y z b r hy hz e q
        · exact h1.ap j' j z y b r hz hy q e
      · have := hx2 j y b hy e
        have := (h2.eb i' z b hz q).1
        omega
    · rcases hat j' s' hs' with ⟨z, f', hz, hf', rfl, _⟩ | ⟨z, f', i', hz, hf', rfl, _, ei'⟩
      · have := hx2 j' z b hz q
        have := (h2.eb i y b hy e).1
        omega
      · have hne : i ≠ i' := by omega
        rcases Nat.lt_or_gt_of_ne hne with r | r
        · exact h2.ap i i' y z b r hy hz e q
        · exact h2.ap i' i z y b r hz hy q e
  · rcases hat j s hs with ⟨y, f, hy, hf, rfl, _⟩ | ⟨y, f, i, hy, hf, rfl, _, ei⟩
    · have := hx2 j y b hy e
      refine ⟨by omega, fun k hk => ?_⟩
      match k, hk with
      | 0, _ => exact (h1.eb j y b hy e).2
      | 1, _ => intro q; have := h2.rb b q; omega
    · have := hy2 i y b hy e
      refine ⟨by omega, fun k hk => ?_⟩
      match k, hk with
      | 0, _ => intro q; have := hx1 b q; have := (h2.eb i y b hy e).1; omega
      | 1, _ => exact (h2.eb i y b hy e).2
  · match k, hk with
    | 0, _ => have := hx1 b e; have := h1.rb b e; exact ⟨by omega, by omega⟩
    | 1, _ => have := hy1 b e; have := h2.rb b e; exact ⟨by omega, by omega⟩
  · rcases hat j s hs with ⟨y, f, hy, hf, rfl, _⟩ | ⟨y, f, i, hy, hf, rfl, _, ei⟩
    · have := hx2 j y b hy e
      have := (h1.eb j y b hy e).1
      exact ⟨by omega, by omega⟩
    · have := hy2 i y b hy e
      have := (h2.eb i y b hy e).1
      exact ⟨by omega, by omega⟩
  · show (if k = 0 then A.length else A2.length) ≤ 1048576
    split
    · exact hA.1
    · exact hA2.1
set_option maxRecDepth 100000 in
set_option maxHeartbeats 6400000 in
theorem returnLaw {w : World} {pv lv : Value} {p : Pg} {l : List Fm} (x : Int × Int) (h : PgV w pv p) (hl : FsV w lv l) (hN : p.funcs.length ≤ 1048576) (hC : p.consts.length ≤ 1048576) (hBD : ∀ (i : Nat) (f : Fc), p.funcs[i]? = some f → f.code.length ≤ 1048576 ∧ f.hs.length ≤ 1048576) (hL : l.length ≤ 1048576) (hS : ∀ f ∈ l, f.sl.length < 1048576) :
    Calls Try.prog 5 #[pv, lv, .agg #[.int .i64 x.1, .int .i64 x.2]] w fun e w' => e = .returned (.bool true) ∧ Below w.heap.size w w' := by
  obtain ⟨pa, pb, rfl⟩ : ∃ a b, pv = .agg #[a, b] := by obtain ⟨a, b, e, _⟩ := h; exact ⟨a, b, e⟩
  obtain ⟨paa, pan, pac, epa⟩ : ∃ a n c, pa = .slice a n c := by
    obtain ⟨_, _, e, ⟨_, a, c, e2, _⟩, _⟩ := h
    cases e; exact ⟨a, _, c, e2⟩
  obtain ⟨pba, pbn, pbc, epb⟩ : ∃ a n c, pb = .slice a n c := by
    obtain ⟨_, _, e, _, hfs⟩ := h
    obtain ⟨a, c, e2, _⟩ := hfs.at
    cases e; exact ⟨a, _, c, e2⟩
  subst epa epb
  obtain ⟨la, lc, rfl, hlc, hlm⟩ := hl.shape
  have HP := hide h
  obtain ⟨n, hn⟩ : ∃ N, Hid (l.length = N) := ⟨_, hide rfl⟩
  have HLL := hide hl
  rw [unhide hn] at hL hlc HLL ⊢
  have HBD := hide hBD
  have HS := hide hS
  have HS' : Hid (∀ f ∈ l, f.sl.length ≤ 1048576) := fun f hf => Nat.le_of_lt (hS f hf)
  clear h hl hBD hS
  have HL9 := hide (fun (Y : World) (hb : Below w.heap.size w Y) => lent_any ((unhide HP).below hb (Nat.le_refl _)) hN hC (unhide HBD))
  go_enter Try.func5, Try.ntmps5
  go_wp2_with fail
  refine (unhide HL9 _ (((Below.refl _ w).alloc (Nat.le_refl _) _).alloc (by simp) _)).mono ?_
  rintro e w1 ⟨cg, co, ccap, fg, fo, fcap, fys, rfl, hlt⟩
  obtain ⟨NC, hNC⟩ : ∃ N, Hid (p.consts.length = N) := ⟨_, hide rfl⟩
  obtain ⟨NF, hNF⟩ : ∃ N, Hid (p.funcs.length = N) := ⟨_, hide rfl⟩
  rw [unhide hNC, unhide hNF]
  obtain ⟨W0, hW0⟩ : ∃ W0, Hid ((w.alloc (.cells #[.slice paa pan pac, .slice pba pbn pbc] 25)).alloc (.cells #[.int .i64 x.1, .int .i64 x.2] 41) = W0) := ⟨_, hide rfl⟩
  have hlt' : Lnt W0 p cg co ccap fg fo fcap fys w1 := by rw [← unhide hW0]; exact hlt
  have HLT := hide hlt'
  have hbw0 : Below w.heap.size w W0 := by rw [← unhide hW0]; exact ((Below.refl _ w).alloc (Nat.le_refl _) _).alloc (by simp) _
  have HB1 : Hid (Below w.heap.size w w1) := hbw0.trans (hlt'.below.mono hbw0.size)
  have HBP : Hid (w1.heap[w.heap.size]? = some (.cells #[.slice paa pan pac, .slice pba pbn pbc] 25)) := blkT (by rw [← unhide hW0]; exact blkT (heap_alloc_new w _) ((Below.refl _ _).alloc (Nat.le_refl _) _)) hlt'.below
  have HBT : Hid (w1.heap[w.heap.size + 1]? = some (.cells #[.int .i64 x.1, .int .i64 x.2] 41)) := blkT (by rw [← unhide hW0]; have := heap_alloc_new (w.alloc (.cells #[.slice paa pan pac, .slice pba pbn pbc] 25)) (.cells #[.int .i64 x.1, .int .i64 x.2] 41); simpa using this) hlt'.below
  clear hlt hlt' hbw0 hW0 HL9
  obtain ⟨P, hP⟩ : ∃ P, Hid (w.heap.size = P) := ⟨_, hide rfl⟩
  obtain ⟨T, hT⟩ : ∃ P, Hid (w.heap.size + 1 = P) := ⟨_, hide rfl⟩
  obtain ⟨Q, hQ⟩ : ∃ P, Hid (w1.heap.size = P) := ⟨_, hide rfl⟩
  obtain ⟨XB, hXB⟩ : ∃ W, Hid (w1.alloc (.cells #[.slice (some ⟨cg, co, none⟩) NC ccap, .slice (some ⟨fg, fo, none⟩) NF fcap] 25) = W) := ⟨_, hide rfl⟩
  have hb2 : Below w1.heap.size w1 XB := by rw [← unhide hXB]; exact (Below.refl _ w1).alloc (Nat.le_refl _) _
  have HXB : Hid (Below w.heap.size w XB) := (unhide HB1).trans (hb2.mono (unhide HB1).size)
  have HU : Hid (RtU P T Q paa pan pac pba pbn pbc cg co NC ccap fg fo NF fcap W0 fys x p (.slice la n lc) l XB) := by
    rw [← unhide hP, ← unhide hQ, ← unhide hT]
    exact ⟨blkT (unhide HBP) hb2, blkT (unhide HBT) hb2, by rw [← unhide hXB]; exact heap_alloc_new w1 _, (unhide HP).below (unhide HXB) (Nat.le_refl _), (unhide HLT).keep hb2, (unhide HLL).below (unhide HXB) (Nat.le_refl _)⟩
  clear hb2 HB1 HBP HBT HLT HP HLL
  have HL17 := hide (lentM_any (unhide HU).fl (by rw [unhide hn]; exact hL) (unhide HS'))
  go_wp2_with fail
  rw [unhide hXB]
  refine (unhide HL17).mono ?_
  rintro e X ⟨g, off, cap, ys, rfl, hlf, hbx, hcp1, hcp2⟩
  rw [unhide hn] at hcp1 ⊢
  have HLF := hide hlf
  have HBX := hide hbx
  clear hlf hbx HL17
  rw [unhide hT, unhide hP, unhide hQ]
  obtain ⟨A, hoA⟩ : ∃ A, Hid ((rt l x).getD [] = A) := ⟨_, hide rfl⟩
  obtain ⟨ob, hoB⟩ : ∃ b, Hid ((rt l x).isSome = b) := ⟨_, hide rfl⟩
  obtain ⟨nA, hoN⟩ : ∃ n, Hid (A.length = n) := ⟨_, hide rfl⟩
  have hoL := hn
  have hoS := HS'
  have HAB : Hid (A.length ≤ 1048576 ∧ ∀ f ∈ A, f.sl.length ≤ 1048576) := by rw [← unhide hoA]; exact rt_bound l x (by rw [unhide hn]; exact hL) (unhide HS)
  have HR1 : Hid (∀ (Y : World) (v : Value), FsV Y v l → Calls Try.prog 24 #[v, .agg #[.int .i64 x.1, .int .i64 x.2]] Y fun e w' => ∃ a c xs, e = .returned (.tuple #[.slice a nA c, .bool ob]) ∧ OF Y.heap.size w' (.slice a nA c) A xs ∧ Below Y.heap.size Y w') := fun Y v h1 => (rreturn_any x h1 (by rw [unhide hoL]; exact hL) (unhide hoS)).mono (by
    rintro e w' ⟨v', xs, e1, h2, h3⟩
    obtain ⟨a, c, e2, _⟩ := h2.row.shape
    rw [unhide hoA] at h2 e2
    rw [unhide hoN] at e2
    rw [unhide hoB] at e1
    subst e2
    exact ⟨a, c, xs, e1, h2, h3⟩)
  have HF1 : Hid (∀ (Y : World) (v : Value), FsV Y v l → Calls Try.prog 25 #[.agg #[.slice (some ⟨cg, co, none⟩) NC ccap, .slice (some ⟨fg, fo, none⟩) NF fcap], v, .agg #[.int .i64 x.1, .int .i64 x.2]] Y fun e w' => ∃ a c xs, e = .returned (.tuple #[.slice a nA c, .bool ob]) ∧ OF Y.heap.size w' (.slice a nA c) A xs ∧ Below Y.heap.size Y w') := fun Y v h1 => (return_any x ⟨_, _, rfl⟩ h1 (by rw [unhide hoL]; exact hL) (unhide hoS)).mono (by
    rintro e w' ⟨v', xs, e1, h2, h3⟩
    obtain ⟨a, c, e2, _⟩ := h2.row.shape
    rw [unhide hoA] at h2 e2
    rw [unhide hoN] at e2
    rw [unhide hoB] at e1
    subst e2
    exact ⟨a, c, xs, e1, h2, h3⟩)
  obtain ⟨g0, g1, g2, g3, g4, g5⟩ := ((unhide HU).below (unhide HBX)).cells
  obtain ⟨lP, lQ, lT⟩ := ((unhide HU).below (unhide HBX)).ltt
  have HC := hide (unhide HR1 X _ ((unhide HU).below (unhide HBX)).fl)
  go_wp2_with fail
  refine (unhide HC).mono ?_
  rintro e w3 ⟨wa, wc, xsw, rfl, how, hb3⟩
  have HW := hide how
  have HGX : Hid (g < X.heap.size ∧ XB.heap.size ≤ g) := ⟨(unhide HLF).row.lt g rfl, (unhide HLF).gb⟩
  obtain ⟨BW, hBW⟩ : ∃ B, Hid (X.heap.size = B) := ⟨_, hide rfl⟩
  rw [unhide hBW] at HW
  have HGW : Hid (g < BW ∧ XB.heap.size ≤ g) := by rw [← unhide hBW]; exact unhide HGX
  have HLFn := hide ((unhide HLF).keep hb3)
  have HBXn : Hid (Below XB.heap.size XB w3) := (unhide HBX).trans (hb3.mono (unhide HBX).size)
  clear HLF HBX   how hb3 HC HGX hBW g0 g1 g2 g3 g4 g5 lP lQ lT
  obtain ⟨X, hXn⟩ : ∃ Z, Z = w3 := ⟨_, rfl⟩
  subst hXn
  have HLF := HLFn
  clear HLFn
  have HBX := HBXn
  clear HBXn
  obtain ⟨g0, g1, g2, g3, g4, g5⟩ := ((unhide HU).below (unhide HBX)).cells
  obtain ⟨lP, lQ, lT⟩ := ((unhide HU).below (unhide HBX)).ltt
  have HFX : Hid (∀ (Y : World), Below X.heap.size X Y → FsV Y (.slice (some ⟨g, off, none⟩) n cap) l) := fun Y hb => by have h1 := ((unhide HLF).keep hb).fsv (by rw [unhide hn]; omega) hcp2; rw [unhide hn] at h1; exact h1
  have HC := hide (unhide HF1 X _ (unhide HFX X (Below.refl _ _)))
  go_wp2_with fail
  refine (unhide HC).mono ?_
  rintro e w4 ⟨ga, gc, xs1, rfl, hog, hb4⟩
  have HG := hide hog
  obtain ⟨BG, hBG⟩ : ∃ B, Hid (X.heap.size = B) := ⟨_, hide rfl⟩
  rw [unhide hBG] at HG
  have HGG : Hid (g < BG) := by rw [← unhide hBG]; exact (unhide HLF).row.lt g rfl
  have HYB0 : Hid (∀ (i : Nat) (y : Value) (k : Nat), ys[i]? = some y → y.ownBlock = some k → k < BG) := by rw [← unhide hBG]; exact (unhide HLF).ylt
  have HBGX : Hid (BG ≤ w4.heap.size) := by rw [← unhide hBG]; exact hb4.size
  have HLFn := hide ((unhide HLF).keep hb4)
  have HBXn : Hid (Below XB.heap.size XB w4) := (unhide HBX).trans (hb4.mono (unhide HBX).size)
  have HWn := hide ((unhide HW).fr (Fr.of_below (S := fun _ => False) hb4) (fun _ _ _ e => e))
  clear HLF HBX HW  hog hb4 HC hBG HFX g0 g1 g2 g3 g4 g5 lP lQ lT
  obtain ⟨X, hXn⟩ : ∃ Z, Z = w4 := ⟨_, rfl⟩
  subst hXn
  have HLF := HLFn
  clear HLFn
  have HBX := HBXn
  clear HBXn
  have HW := HWn
  clear HWn
  obtain ⟨g0, g1, g2, g3, g4, g5⟩ := ((unhide HU).below (unhide HBX)).cells
  obtain ⟨lP, lQ, lT⟩ := ((unhide HU).below (unhide HBX)).ltt
  have HBE := hide bool_neqE
  have hbe := bool_neqE
  have HC20 := hide (sameMs_any (unhide HG).fsv (unhide HW).fsv (unhide HAB).1 (unhide HAB).2)
  go_wp2_with fail
  refine (unhide HC20).mono ?_
  rintro e w5 ⟨rfl, hb5⟩
  have HLFn := hide ((unhide HLF).keep hb5)
  have HBXn : Hid (Below XB.heap.size XB w5) := (unhide HBX).trans (hb5.mono (unhide HBX).size)
  have HWn := hide ((unhide HW).fr (Fr.of_below (S := fun _ => False) hb5) (fun _ _ _ e => e))
  have HGn := hide ((unhide HG).fr (Fr.of_below (S := fun _ => False) hb5) (fun _ _ _ e => e))
  have HBGXn : Hid (BG ≤ w5.heap.size) := Nat.le_trans (unhide HBGX) hb5.size
  clear HLF HBX HW HG HBGX hb5 HC20 g0 g1 g2 g3 g4 g5 lP lQ lT
  obtain ⟨X, hXn⟩ : ∃ Z, Z = w5 := ⟨_, rfl⟩
  subst hXn
  have HLF := HLFn
  clear HLFn
  have HBX := HBXn
  clear HBXn
  have HW := HWn
  clear HWn
  have HG := HGn
  clear HGn
  have HBGX := HBGXn
  clear HBGXn
  obtain ⟨g0, g1, g2, g3, g4, g5⟩ := ((unhide HU).below (unhide HBX)).cells
  obtain ⟨lP, lQ, lT⟩ := ((unhide HU).below (unhide HBX)).ltt
  have HK14 : Hid (Calls Try.prog 14 #[.agg #[.slice (some ⟨cg, co, none⟩) NC ccap, .slice (some ⟨fg, fo, none⟩) NF fcap], .agg #[.slice paa pan pac, .slice pba pbn pbc]] X fun e w' => e = .returned (.bool true) ∧ Below X.heap.size X w') := by
    have h1 := keptP_any ((unhide HU).below (unhide HBX)).lt ((unhide HU).below (unhide HBX)).pg hN hC (unhide HBD)
    rw [unhide hNC, unhide hNF] at h1
    exact h1
  go_wp2_with fail
  refine (unhide HK14).mono ?_
  rintro e w6 ⟨rfl, hb6⟩
  have HLFn := hide ((unhide HLF).keep hb6)
  have HBXn : Hid (Below XB.heap.size XB w6) := (unhide HBX).trans (hb6.mono (unhide HBX).size)
  have HWn := hide ((unhide HW).fr (Fr.of_below (S := fun _ => False) hb6) (fun _ _ _ e => e))
  have HGn := hide ((unhide HG).fr (Fr.of_below (S := fun _ => False) hb6) (fun _ _ _ e => e))
  have HBGXn : Hid (BG ≤ w6.heap.size) := Nat.le_trans (unhide HBGX) hb6.size
  clear HLF HBX HW HG HBGX hb6 HK14 g0 g1 g2 g3 g4 g5 lP lQ lT
  obtain ⟨X, hXn⟩ : ∃ Z, Z = w6 := ⟨_, rfl⟩
  subst hXn
  have HLF := HLFn
  clear HLFn
  have HBX := HBXn
  clear HBXn
  have HW := HWn
  clear HWn
  have HG := HGn
  clear HGn
  have HBGX := HBGXn
  clear HBGXn
  obtain ⟨g0, g1, g2, g3, g4, g5⟩ := ((unhide HU).below (unhide HBX)).cells
  obtain ⟨lP, lQ, lT⟩ := ((unhide HU).below (unhide HBX)).ltt
  have HK21 : Hid (Calls Try.prog 21 #[.slice (some ⟨g, off, none⟩) n cap, .slice la n lc] X fun e w' => e = .returned (.bool true) ∧ Below X.heap.size X w') := by
    have h1 := keptM_any (unhide HLF) ((unhide HU).below (unhide HBX)).fl (by rw [unhide hn]; exact hL) (unhide HS') (by rw [unhide hn]; exact hcp1) hcp2
    rw [unhide hn] at h1
    exact h1
  go_wp2_with fail
  refine (unhide HK21).mono ?_
  rintro e w7 ⟨rfl, hb7⟩
  have HLFn := hide ((unhide HLF).keep hb7)
  have HBXn : Hid (Below XB.heap.size XB w7) := (unhide HBX).trans (hb7.mono (unhide HBX).size)
  have HWn := hide ((unhide HW).fr (Fr.of_below (S := fun _ => False) hb7) (fun _ _ _ e => e))
  have HGn := hide ((unhide HG).fr (Fr.of_below (S := fun _ => False) hb7) (fun _ _ _ e => e))
  have HBGXn : Hid (BG ≤ w7.heap.size) := Nat.le_trans (unhide HBGX) hb7.size
  clear HLF HBX HW HG HBGX hb7 HK21 g0 g1 g2 g3 g4 g5 lP lQ lT
  obtain ⟨X, hXn⟩ : ∃ Z, Z = w7 := ⟨_, rfl⟩
  subst hXn
  have HLF := HLFn
  clear HLFn
  have HBX := HBXn
  clear HBXn
  have HW := HWn
  clear HWn
  have HG := HGn
  clear HGn
  have HBGX := HBGXn
  clear HBGXn
  obtain ⟨g0, g1, g2, g3, g4, g5⟩ := ((unhide HU).below (unhide HBX)).cells
  obtain ⟨lP, lQ, lT⟩ := ((unhide HU).below (unhide HBX)).ltt
  have HYB := hide (unhide HYB0)
  clear HYB0
  by_cases hn2 : 1 < n
  · obtain ⟨m, hm⟩ : ∃ m, Hid (n = m + 2) := ⟨n - 2, hide (by omega)⟩
    obtain ⟨f, hf⟩ : ∃ f, Hid (l[m]? = some f) := ⟨_, hide (List.getElem?_eq_getElem (by rw [unhide hn, unhide hm]; omega))⟩
    obtain ⟨u, hu⟩ : ∃ u, IntKind.i64.wrap (f.fn + 1) = u := ⟨_, rfl⟩
    obtain ⟨z1, z2, z3, z4⟩ := (unhide HLF).setFn (n := 0) (unhide hf) u
    have lg : g < X.heap.size := (unhide HLF).row.lt g rfl
    have hw2 : IntKind.i64.wrap ((n : Int) - 2) = (m : Int) := by have := unhide hm; rw [IntKind.wrap_i64] <;> omega
    have m0 : (0 : Int) ≤ (m : Int) := by omega
    have m1 : (m : Int) < (n : Int) := by have := unhide hm; omega
    have n1 : (1 : Int) < (n : Int) := by omega
    obtain ⟨X', hX'⟩ : ∃ W, Hid (X.setCell ⟨g, off + m * 3, none⟩ (.int .i64 u) = W) := ⟨_, hide rfl⟩
    rw [unhide hX'] at z1 z2
    obtain ⟨l2, hl2⟩ : ∃ l2, Hid (l.set m ⟨u, f.pc, f.sl⟩ = l2) := ⟨_, hide rfl⟩
    rw [unhide hl2] at z1
    have HLFn := hide z1
    have HBXn : Hid (Below XB.heap.size XB X') := (unhide HBX).trans (z2.below (unhide HBX).size (fun k hk e => by have := unhide HGW; omega))
    have HWn := hide ((unhide HW).fr z2 (fun k h1 h2 e => by have := unhide HGW; omega))
    have HGn := hide ((unhide HG).fr z2 (fun k h1 h2 e => by have := unhide HGG; omega))
    have HBGXn : Hid (BG ≤ X'.heap.size) := Nat.le_trans (unhide HBGX) z2.size
    have h2L : Hid (l2.length = n) := by rw [← unhide hl2]; unfold Hid; rw [List.length_set]; exact unhide hn
    have H2S : Hid (∀ f ∈ l2, f.sl.length < 1048576) := by
      rw [← unhide hl2]
      intro z hz
      rcases List.mem_or_eq_of_mem_set hz with r | r
      · exact unhide HS z r
      · rw [r]; exact unhide HS f (List.mem_of_getElem? (unhide hf))
    have h2B : Hid ((rt l2 x).isSome = ob) := by unfold Hid; rw [← unhide hoB, rt_some, rt_some, unhide h2L, unhide hn]
    clear z1 z2 HLF HBX HW HG HBGX
    go_wp2_with fail
    rw [unhide hX']
    clear z3 z4 lg hw2 m0 m1 n1 hX' g0 g1 g2 g3 g4 g5 lP lQ lT hu
    obtain ⟨X, hXn⟩ : ∃ Z, Z = X' := ⟨_, rfl⟩
    subst hXn
    have HLF := HLFn
    clear HLFn
    have HBX := HBXn
    clear HBXn
    have HW := HWn
    clear HWn
    have HG := HGn
    clear HGn
    have HBGX := HBGXn
    clear HBGXn
    obtain ⟨g0, g1, g2, g3, g4, g5⟩ := ((unhide HU).below (unhide HBX)).cells
    obtain ⟨lP, lQ, lT⟩ := ((unhide HU).below (unhide HBX)).ltt
    obtain ⟨A2, h2A⟩ : ∃ A, Hid ((rt l2 x).getD [] = A) := ⟨_, hide rfl⟩
    obtain ⟨nA2, h2N⟩ : ∃ n, Hid (A2.length = n) := ⟨_, hide rfl⟩
    have HAB2 : Hid (A2.length ≤ 1048576 ∧ ∀ f ∈ A2, f.sl.length ≤ 1048576) := by rw [← unhide h2A]; exact rt_bound l2 x (by rw [unhide h2L]; exact hL) (unhide H2S)
    have h2S : Hid (∀ f ∈ l2, f.sl.length ≤ 1048576) := fun f hf => Nat.le_of_lt (unhide H2S f hf)
    have HR2 : Hid (∀ (Y : World) (v : Value), FsV Y v l2 → Calls Try.prog 24 #[v, .agg #[.int .i64 x.1, .int .i64 x.2]] Y fun e w' => ∃ a c xs, e = .returned (.tuple #[.slice a nA2 c, .bool ob]) ∧ OF Y.heap.size w' (.slice a nA2 c) A2 xs ∧ Below Y.heap.size Y w') := fun Y v h1 => (rreturn_any x h1 (by rw [unhide h2L]; exact hL) (unhide h2S)).mono (by
      rintro e w' ⟨v', xs, e1, h2, h3⟩
      obtain ⟨a, c, e2, _⟩ := h2.row.shape
      rw [unhide h2A] at h2 e2
      rw [unhide h2N] at e2
      rw [unhide h2B] at e1
      subst e2
      exact ⟨a, c, xs, e1, h2, h3⟩)
    have HF2 : Hid (∀ (Y : World) (v : Value), FsV Y v l2 → Calls Try.prog 25 #[.agg #[.slice (some ⟨cg, co, none⟩) NC ccap, .slice (some ⟨fg, fo, none⟩) NF fcap], v, .agg #[.int .i64 x.1, .int .i64 x.2]] Y fun e w' => ∃ a c xs, e = .returned (.tuple #[.slice a nA2 c, .bool ob]) ∧ OF Y.heap.size w' (.slice a nA2 c) A2 xs ∧ Below Y.heap.size Y w') := fun Y v h1 => (return_any x ⟨_, _, rfl⟩ h1 (by rw [unhide h2L]; exact hL) (unhide h2S)).mono (by
      rintro e w' ⟨v', xs, e1, h2, h3⟩
      obtain ⟨a, c, e2, _⟩ := h2.row.shape
      rw [unhide h2A] at h2 e2
      rw [unhide h2N] at e2
      rw [unhide h2B] at e1
      subst e2
      exact ⟨a, c, xs, e1, h2, h3⟩)
    have HFX : Hid (∀ (Y : World), Below X.heap.size X Y → FsV Y (.slice (some ⟨g, off, none⟩) n cap) l2) := fun Y hb => by have h1 := ((unhide HLF).keep hb).fsv (by rw [unhide h2L]; omega) hcp2; rw [unhide h2L] at h1; exact h1
    have HC22 : Hid (∀ (Y : World), FsV Y (.slice (some ⟨g, off, none⟩) n cap) l2 → Calls Try.prog 22 #[.slice (some ⟨g, off, none⟩) n cap] Y fun e w' => ∃ a c xs, e = .returned (.slice a n c) ∧ OF Y.heap.size w' (.slice a n c) l2 xs ∧ Below Y.heap.size Y w') := fun Y h1 => (copyMs_any h1 (by rw [unhide h2L]; exact hL) (unhide h2S)).mono (by
      rintro e w' ⟨v', xs, e1, h2, h3⟩
      obtain ⟨a, c, e2, _⟩ := h2.row.shape
      rw [unhide h2L] at e2
      subst e2
      exact ⟨a, c, xs, e1, h2, h3⟩)
    have HD : Hid (Below X.heap.size X X.drew) := below_drw (Below.refl _ X)
    have HSP := hide (fun (Y : World) (hb : Below X.heap.size X Y) => (have q := ((unhide HU).below ((unhide HBX).trans (hb.mono (unhide HBX).size))).cells; (⟨q.2.2.2.2.1, q.2.2.2.2.2⟩ : Y.cell? ⟨T, 0, none⟩ = some (.int .i64 x.1) ∧ Y.cell? ⟨T, 1, none⟩ = some (.int .i64 x.2))))
    go_wp2_with fail
    go_cut [13, 14] from 18 (fun t13 t14 wc => ∃ (a : Option Addr) (c : Nat) (xs : List Fmv), t13 = .slice a nA2 c ∧ t14 = .bool ob ∧ Hid (OF X.heap.size wc (.slice a nA2 c) A2 xs ∧ Below X.heap.size X wc))
    case first =>
     as_aux_lemma =>
      go_region_held3 (fun w' => w'.cell? ⟨T, 0, none⟩ = some (.int .i64 x.1) ∧ w'.cell? ⟨T, 1, none⟩ = some (.int .i64 x.2)) (first | exact hS4 | exact hS5 | go_keep)
        (first
         | (go_at_call 22; refine (unhide HC22 _ (unhide HFX _ (unhide HD))).mono ?_; rintro e w4 ⟨a4, c4, xs4, rfl, ho4, hb4⟩; have hb4X : Below X.heap.size X w4 := (unhide HD).trans hb4; have hS4 : w4.cell? ⟨T, 0, none⟩ = some (.int .i64 x.1) ∧ w4.cell? ⟨T, 1, none⟩ = some (.int .i64 x.2) := unhide HSP w4 hb4X; have HC24 := hide (unhide HR2 w4 _ ho4.fsv))
         | (go_at_call 24; refine (unhide HC24).mono ?_; rintro e w5 ⟨a5, c5, xs5, rfl, ho5, hb5⟩; have hS5 : w5.cell? ⟨T, 0, none⟩ = some (.int .i64 x.1) ∧ w5.cell? ⟨T, 1, none⟩ = some (.int .i64 x.2) := unhide HSP w5 (hb4X.trans (hb5.mono hb4X.size))))
      all_goals (have HO5 := hide (ho5.low hb4X.size); have HB5 := hide (hb4X.trans (hb5.mono hb4X.size)); go_wp2_with fail; go_meet; case rel => exact ⟨_, _, _, rfl, rfl, unhide HO5, unhide HB5⟩)
    case rest =>
     obtain ⟨va, vc, xsv, rfl, rfl, hcF⟩ := hcut
     have HV := hide (unhide hcF).1
     have hb9 := (unhide hcF).2
     have HLFn := hide ((unhide HLF).keep hb9)
     have HBXn : Hid (Below XB.heap.size XB wc) := (unhide HBX).trans (hb9.mono (unhide HBX).size)
     have HWn := hide ((unhide HW).fr (Fr.of_below (S := fun _ => False) hb9) (fun _ _ _ e => e))
     have HGn := hide ((unhide HG).fr (Fr.of_below (S := fun _ => False) hb9) (fun _ _ _ e => e))
     have HBGXn : Hid (BG ≤ wc.heap.size) := Nat.le_trans (unhide HBGX) hb9.size
     clear HLF HBX HW HG HBGX hb9 hcF HSP HD HFX g0 g1 g2 g3 g4 g5 lP lQ lT
     obtain ⟨X, hXn⟩ : ∃ Z, Z = wc := ⟨_, rfl⟩
     subst hXn
     have HLF := HLFn
     clear HLFn
     have HBX := HBXn
     clear HBXn
     have HW := HWn
     clear HWn
     have HG := HGn
     clear HGn
     have HBGX := HBGXn
     clear HBGXn
     obtain ⟨g0, g1, g2, g3, g4, g5⟩ := ((unhide HU).below (unhide HBX)).cells
     obtain ⟨lP, lQ, lT⟩ := ((unhide HU).below (unhide HBX)).ltt
     have HFX : Hid (∀ (Y : World), Below X.heap.size X Y → FsV Y (.slice (some ⟨g, off, none⟩) n cap) l2) := fun Y hb => by have h1 := ((unhide HLF).keep hb).fsv (by rw [unhide h2L]; omega) hcp2; rw [unhide h2L] at h1; exact h1
     have HC := hide (unhide HF2 X _ (unhide HFX X (Below.refl _ _)))
     have HX1 : Hid (∀ b, (Value.slice ga nA gc).ownBlock = some b → b < X.heap.size) := fun b e => (unhide HG).row.lt b e
     have HX2 : Hid (∀ (i : Nat) (y : Fmv) (b : Nat), xs1[i]? = some y → y.sv.ownBlock = some b → b < X.heap.size) := fun i y b hy e => (unhide HG).slt hy e
     obtain ⟨B2, hB2⟩ : ∃ B, Hid (X.heap.size = B) := ⟨_, hide rfl⟩
     rw [unhide hB2] at HX1 HX2
     go_wp2_with fail
     refine (unhide HC).mono ?_
     rintro e w6 ⟨ha, hc, xs2, rfl, hog, hb6⟩
     have HG2 := hide hog
     rw [unhide hB2] at HG2
     have HGB2 : Hid (BG ≤ B2) := by rw [← unhide hB2]; exact unhide HBGX
     have HB2X : Hid (B2 ≤ w6.heap.size) := by rw [← unhide hB2]; exact hb6.size
     clear HBGX
     have HLFn := hide ((unhide HLF).keep hb6)
     have HBXn : Hid (Below XB.heap.size XB w6) := (unhide HBX).trans (hb6.mono (unhide HBX).size)
     have HWn := hide ((unhide HW).fr (Fr.of_below (S := fun _ => False) hb6) (fun _ _ _ e => e))
     have HGn := hide ((unhide HG).fr (Fr.of_below (S := fun _ => False) hb6) (fun _ _ _ e => e))
     have HVn := hide ((unhide HV).fr (Fr.of_below (S := fun _ => False) hb6) (fun _ _ _ e => e))
     clear HLF HBX HW HG HV  hog hb6 HC HFX hB2 g0 g1 g2 g3 g4 g5 lP lQ lT
     obtain ⟨X, hXn⟩ : ∃ Z, Z = w6 := ⟨_, rfl⟩
     subst hXn
     have HLF := HLFn
     clear HLFn
     have HBX := HBXn
     clear HBXn
     have HW := HWn
     clear HWn
     have HG := HGn
     clear HGn
     have HV := HVn
     clear HVn
     obtain ⟨g0, g1, g2, g3, g4, g5⟩ := ((unhide HU).below (unhide HBX)).cells
     obtain ⟨lP, lQ, lT⟩ := ((unhide HU).below (unhide HBX)).ltt
     have hbe := bool_neqE
     have HC20 := hide (sameMs_any (unhide HG2).fsv (unhide HV).fsv (unhide HAB2).1 (unhide HAB2).2)
     go_wp2_with fail
     refine (unhide HC20).mono ?_
     rintro e w7 ⟨rfl, hb7⟩
     have HLFn := hide ((unhide HLF).keep hb7)
     have HBXn : Hid (Below XB.heap.size XB w7) := (unhide HBX).trans (hb7.mono (unhide HBX).size)
     have HWn := hide ((unhide HW).fr (Fr.of_below (S := fun _ => False) hb7) (fun _ _ _ e => e))
     have HGn := hide ((unhide HG).fr (Fr.of_below (S := fun _ => False) hb7) (fun _ _ _ e => e))
     have HG2n := hide ((unhide HG2).fr (Fr.of_below (S := fun _ => False) hb7) (fun _ _ _ e => e))
     have HB2Xn : Hid (B2 ≤ w7.heap.size) := Nat.le_trans (unhide HB2X) hb7.size
     clear HLF HBX HW HG HG2 HB2X hb7 HC20 HV g0 g1 g2 g3 g4 g5 lP lQ lT
     obtain ⟨X, hXn⟩ : ∃ Z, Z = w7 := ⟨_, rfl⟩
     subst hXn
     have HLF := HLFn
     clear HLFn
     have HBX := HBXn
     clear HBXn
     have HW := HWn
     clear HWn
     have HG := HGn
     clear HGn
     have HG2 := HG2n
     clear HG2n
     have HB2X := HB2Xn
     clear HB2Xn
     obtain ⟨g0, g1, g2, g3, g4, g5⟩ := ((unhide HU).below (unhide HBX)).cells
     obtain ⟨lP, lQ, lT⟩ := ((unhide HU).below (unhide HBX)).ltt
     have HC20 := hide (sameMs_any (unhide HG).fsv (unhide HW).fsv (unhide HAB).1 (unhide HAB).2)
     go_wp2_with fail
     refine (unhide HC20).mono ?_
     rintro e w8 ⟨rfl, hb8⟩
     have HLFn := hide ((unhide HLF).keep hb8)
     have HBXn : Hid (Below XB.heap.size XB w8) := (unhide HBX).trans (hb8.mono (unhide HBX).size)
     have HGn := hide ((unhide HG).fr (Fr.of_below (S := fun _ => False) hb8) (fun _ _ _ e => e))
     have HG2n := hide ((unhide HG2).fr (Fr.of_below (S := fun _ => False) hb8) (fun _ _ _ e => e))
     have HB2Xn : Hid (B2 ≤ w8.heap.size) := Nat.le_trans (unhide HB2X) hb8.size
     clear HLF HBX HG HG2 HB2X hb8 HC20 HW g0 g1 g2 g3 g4 g5 lP lQ lT
     obtain ⟨X, hXn⟩ : ∃ Z, Z = w8 := ⟨_, rfl⟩
     subst hXn
     have HLF := HLFn
     clear HLFn
     have HBX := HBXn
     clear HBXn
     have HG := HGn
     clear HGn
     have HG2 := HG2n
     clear HG2n
     have HB2X := HB2Xn
     clear HB2Xn
     obtain ⟨g0, g1, g2, g3, g4, g5⟩ := ((unhide HU).below (unhide HBX)).cells
     obtain ⟨lP, lQ, lT⟩ := ((unhide HU).below (unhide HBX)).ltt
     have HY1 : Hid (∀ b, (Value.slice ha nA2 hc).ownBlock = some b → b < X.heap.size) := fun b e => (unhide HG2).row.lt b e
     have HY2 : Hid (∀ (i : Nat) (y : Fmv) (b : Nat), xs2[i]? = some y → y.sv.ownBlock = some b → b < X.heap.size) := fun i y b hy e => (unhide HG2).slt hy e
     have HFX : FsV X (.slice (some ⟨g, off, none⟩) n cap) l2 := by have h1 := (unhide HLF).fsv (by rw [unhide h2L]; omega) hcp2; rw [unhide h2L] at h1; exact h1
     have HC := hide (unhide HC22 X HFX)
     clear HFX
     have HXS : Hid (B2 ≤ X.heap.size) := unhide HB2X
     obtain ⟨B3, hB3⟩ : ∃ B, Hid (X.heap.size = B) := ⟨_, hide rfl⟩
     rw [unhide hB3] at HY1 HY2 HXS
     go_wp2_with fail
     refine (unhide HC).mono ?_
     rintro e w9 ⟨na, nc, xs3, rfl, hog, hb9⟩
     have HN := hide hog
     rw [unhide hB3] at HN
     have HB3X : Hid (B3 ≤ w9.heap.size) := by rw [← unhide hB3]; exact hb9.size
     clear HB2X
     have HLFn := hide ((unhide HLF).keep hb9)
     have HBXn : Hid (Below XB.heap.size XB w9) := (unhide HBX).trans (hb9.mono (unhide HBX).size)
     have HGn := hide ((unhide HG).fr (Fr.of_below (S := fun _ => False) hb9) (fun _ _ _ e => e))
     have HG2n := hide ((unhide HG2).fr (Fr.of_below (S := fun _ => False) hb9) (fun _ _ _ e => e))
     clear HLF HBX HG HG2  hog hb9 HC hB3 g0 g1 g2 g3 g4 g5 lP lQ lT
     obtain ⟨X, hXn⟩ : ∃ Z, Z = w9 := ⟨_, rfl⟩
     subst hXn
     have HLF := HLFn
     clear HLFn
     have HBX := HBXn
     clear HBXn
     have HG := HGn
     clear HGn
     have HG2 := HG2n
     clear HG2n
     have HAS : Hid (∀ O : Obj, O = .cells #[.slice ga nA gc, .slice ha nA2 hc] 39 → AG (fun b => BG ≤ b ∧ b < B3) (X.alloc O) X.heap.size (fun k => if k = 0 then .slice ga nA gc else .slice ha nA2 hc) (fun k => if k = 0 then A.length else A2.length) (fun k => if k = 0 then xs1 else xs2) (fun j => (((A ++ A2)[j]?).map (fun f => f.sl)).getD [])) := fun O hO => by
       subst hO
       have hc := (blk_cells (heap_alloc_new X (.cells #[.slice ga nA gc, .slice ha nA2 hc] 39))).1
       exact AG.of ((unhide HG).fr ((Fr.refl (fun _ => False) X).alloc _) (fun _ _ _ e => e)) ((unhide HG2).fr ((Fr.refl (fun _ => False) X).alloc _) (fun _ _ _ e => e)) (unhide HGB2) (unhide HXS) (unhide HB3X) (unhide HX1) (unhide HX2) (unhide HY1) (unhide HY2) (hc 0) (hc 1) (unhide HAB) (unhide HAB2)
     have HC23 := hide (fun O hO => apartF (unhide HAS O hO))
     go_wp2_with fail
     refine (unhide HC23 _ rfl).mono ?_
     rintro e w10 ⟨rfl, hfr⟩
     have f10 : Fr (fun b => BG ≤ b ∧ b < B3) X w10 := ((Fr.refl _ X).alloc _).trans2 hfr (fun b _ e => e)
     have HLFn := hide ((unhide HLF).frS f10 (fun e => by have := unhide HGG; omega) (fun i y k hy hk e => by have := unhide HYB i y k hy hk; omega))
     have HNn := hide ((unhide HN).fr f10 (fun k h1 h2 e => by omega))
     have HBXn : Hid (Below XB.heap.size XB w10) := (unhide HBX).trans (f10.below (unhide HBX).size (fun k hk e => by have := unhide HGG; have := unhide HGW; omega))
     have HK21 : Hid (Calls Try.prog 21 #[.slice (some ⟨g, off, none⟩) n cap, .slice na n nc] w10 fun e w' => e = .returned (.bool true) ∧ Below w10.heap.size w10 w') := by
       have h1 := keptM_any (unhide HLFn) (unhide HNn).fsv (by rw [unhide h2L]; exact hL) (unhide h2S) (by rw [unhide h2L]; exact hcp1) hcp2
       rw [unhide h2L] at h1
       exact h1
     clear hfr f10 HC23 HAS HLF HN HBX HG HG2 HLFn HNn
     go_wp2_with fail
     refine (unhide HK21).mono ?_
     rintro e w11 ⟨rfl, hb11⟩
     have HE : Hid (Below w.heap.size w w11) := ((unhide HXB).trans ((unhide HBXn).mono (unhide HXB).size)).trans (hb11.mono (by have := (unhide HXB).size; have := (unhide HBXn).size; omega))
     clear hb11 HK21
     go_wp2_with fail
     go_ret
     exact ⟨rfl, unhide HE⟩
  · have h2L : Hid (l.length = n) := hn
    have H2S := HS
    have h2B := hoB
    obtain ⟨l2, hl2⟩ : ∃ l2, l2 = l := ⟨_, rfl⟩
    have n1 : ¬ ((1 : Int) < (n : Int)) := by omega
    rw [← hl2] at HLF h2L H2S h2B
    clear hl2
    go_wp2_with fail
    clear n1
    obtain ⟨A2, h2A⟩ : ∃ A, Hid ((rt l2 x).getD [] = A) := ⟨_, hide rfl⟩
    obtain ⟨nA2, h2N⟩ : ∃ n, Hid (A2.length = n) := ⟨_, hide rfl⟩
    have HAB2 : Hid (A2.length ≤ 1048576 ∧ ∀ f ∈ A2, f.sl.length ≤ 1048576) := by rw [← unhide h2A]; exact rt_bound l2 x (by rw [unhide h2L]; exact hL) (unhide H2S)
    have h2S : Hid (∀ f ∈ l2, f.sl.length ≤ 1048576) := fun f hf => Nat.le_of_lt (unhide H2S f hf)
    have HR2 : Hid (∀ (Y : World) (v : Value), FsV Y v l2 → Calls Try.prog 24 #[v, .agg #[.int .i64 x.1, .int .i64 x.2]] Y fun e w' => ∃ a c xs, e = .returned (.tuple #[.slice a nA2 c, .bool ob]) ∧ OF Y.heap.size w' (.slice a nA2 c) A2 xs ∧ Below Y.heap.size Y w') := fun Y v h1 => (rreturn_any x h1 (by rw [unhide h2L]; exact hL) (unhide h2S)).mono (by
      rintro e w' ⟨v', xs, e1, h2, h3⟩
      obtain ⟨a, c, e2, _⟩ := h2.row.shape
      rw [unhide h2A] at h2 e2
      rw [unhide h2N] at e2
      rw [unhide h2B] at e1
      subst e2
      exact ⟨a, c, xs, e1, h2, h3⟩)
    have HF2 : Hid (∀ (Y : World) (v : Value), FsV Y v l2 → Calls Try.prog 25 #[.agg #[.slice (some ⟨cg, co, none⟩) NC ccap, .slice (some ⟨fg, fo, none⟩) NF fcap], v, .agg #[.int .i64 x.1, .int .i64 x.2]] Y fun e w' => ∃ a c xs, e = .returned (.tuple #[.slice a nA2 c, .bool ob]) ∧ OF Y.heap.size w' (.slice a nA2 c) A2 xs ∧ Below Y.heap.size Y w') := fun Y v h1 => (return_any x ⟨_, _, rfl⟩ h1 (by rw [unhide h2L]; exact hL) (unhide h2S)).mono (by
      rintro e w' ⟨v', xs, e1, h2, h3⟩
      obtain ⟨a, c, e2, _⟩ := h2.row.shape
      rw [unhide h2A] at h2 e2
      rw [unhide h2N] at e2
      rw [unhide h2B] at e1
      subst e2
      exact ⟨a, c, xs, e1, h2, h3⟩)
    have HFX : Hid (∀ (Y : World), Below X.heap.size X Y → FsV Y (.slice (some ⟨g, off, none⟩) n cap) l2) := fun Y hb => by have h1 := ((unhide HLF).keep hb).fsv (by rw [unhide h2L]; omega) hcp2; rw [unhide h2L] at h1; exact h1
    have HC22 : Hid (∀ (Y : World), FsV Y (.slice (some ⟨g, off, none⟩) n cap) l2 → Calls Try.prog 22 #[.slice (some ⟨g, off, none⟩) n cap] Y fun e w' => ∃ a c xs, e = .returned (.slice a n c) ∧ OF Y.heap.size w' (.slice a n c) l2 xs ∧ Below Y.heap.size Y w') := fun Y h1 => (copyMs_any h1 (by rw [unhide h2L]; exact hL) (unhide h2S)).mono (by
      rintro e w' ⟨v', xs, e1, h2, h3⟩
      obtain ⟨a, c, e2, _⟩ := h2.row.shape
      rw [unhide h2L] at e2
      subst e2
      exact ⟨a, c, xs, e1, h2, h3⟩)
    have HD : Hid (Below X.heap.size X X.drew) := below_drw (Below.refl _ X)
    have HSP := hide (fun (Y : World) (hb : Below X.heap.size X Y) => (have q := ((unhide HU).below ((unhide HBX).trans (hb.mono (unhide HBX).size))).cells; (⟨q.2.2.2.2.1, q.2.2.2.2.2⟩ : Y.cell? ⟨T, 0, none⟩ = some (.int .i64 x.1) ∧ Y.cell? ⟨T, 1, none⟩ = some (.int .i64 x.2))))
    go_wp2_with fail
    go_cut [13, 14] from 18 (fun t13 t14 wc => ∃ (a : Option Addr) (c : Nat) (xs : List Fmv), t13 = .slice a nA2 c ∧ t14 = .bool ob ∧ Hid (OF X.heap.size wc (.slice a nA2 c) A2 xs ∧ Below X.heap.size X wc))
    case first =>
     as_aux_lemma =>
      go_region_held3 (fun w' => w'.cell? ⟨T, 0, none⟩ = some (.int .i64 x.1) ∧ w'.cell? ⟨T, 1, none⟩ = some (.int .i64 x.2)) (first | exact hS4 | exact hS5 | go_keep)
        (first
         | (go_at_call 22; refine (unhide HC22 _ (unhide HFX _ (unhide HD))).mono ?_; rintro e w4 ⟨a4, c4, xs4, rfl, ho4, hb4⟩; have hb4X : Below X.heap.size X w4 := (unhide HD).trans hb4; have hS4 : w4.cell? ⟨T, 0, none⟩ = some (.int .i64 x.1) ∧ w4.cell? ⟨T, 1, none⟩ = some (.int .i64 x.2) := unhide HSP w4 hb4X; have HC24 := hide (unhide HR2 w4 _ ho4.fsv))
         | (go_at_call 24; refine (unhide HC24).mono ?_; rintro e w5 ⟨a5, c5, xs5, rfl, ho5, hb5⟩; have hS5 : w5.cell? ⟨T, 0, none⟩ = some (.int .i64 x.1) ∧ w5.cell? ⟨T, 1, none⟩ = some (.int .i64 x.2) := unhide HSP w5 (hb4X.trans (hb5.mono hb4X.size))))
      all_goals (have HO5 := hide (ho5.low hb4X.size); have HB5 := hide (hb4X.trans (hb5.mono hb4X.size)); go_wp2_with fail; go_meet; case rel => exact ⟨_, _, _, rfl, rfl, unhide HO5, unhide HB5⟩)
    case rest =>
     obtain ⟨va, vc, xsv, rfl, rfl, hcF⟩ := hcut
     have HV := hide (unhide hcF).1
     have hb9 := (unhide hcF).2
     have HLFn := hide ((unhide HLF).keep hb9)
     have HBXn : Hid (Below XB.heap.size XB wc) := (unhide HBX).trans (hb9.mono (unhide HBX).size)
     have HWn := hide ((unhide HW).fr (Fr.of_below (S := fun _ => False) hb9) (fun _ _ _ e => e))
     have HGn := hide ((unhide HG).fr (Fr.of_below (S := fun _ => False) hb9) (fun _ _ _ e => e))
     have HBGXn : Hid (BG ≤ wc.heap.size) := Nat.le_trans (unhide HBGX) hb9.size
     clear HLF HBX HW HG HBGX hb9 hcF HSP HD HFX g0 g1 g2 g3 g4 g5 lP lQ lT
     obtain ⟨X, hXn⟩ : ∃ Z, Z = wc := ⟨_, rfl⟩
     subst hXn
     have HLF := HLFn
     clear HLFn
     have HBX := HBXn
     clear HBXn
     have HW := HWn
     clear HWn
     have HG := HGn
     clear HGn
     have HBGX := HBGXn
     clear HBGXn
     obtain ⟨g0, g1, g2, g3, g4, g5⟩ := ((unhide HU).below (unhide HBX)).cells
     obtain ⟨lP, lQ, lT⟩ := ((unhide HU).below (unhide HBX)).ltt
     have HFX : Hid (∀ (Y : World), Below X.heap.size X Y → FsV Y (.slice (some ⟨g, off, none⟩) n cap) l2) := fun Y hb => by have h1 := ((unhide HLF).keep hb).fsv (by rw [unhide h2L]; omega) hcp2; rw [unhide h2L] at h1; exact h1
     have HC := hide (unhide HF2 X _ (unhide HFX X (Below.refl _ _)))
     have HX1 : Hid (∀ b, (Value.slice ga nA gc).ownBlock = some b → b < X.heap.size) := fun b e => (unhide HG).row.lt b e
     have HX2 : Hid (∀ (i : Nat) (y : Fmv) (b : Nat), xs1[i]? = some y → y.sv.ownBlock = some b → b < X.heap.size) := fun i y b hy e => (unhide HG).slt hy e
     obtain ⟨B2, hB2⟩ : ∃ B, Hid (X.heap.size = B) := ⟨_, hide rfl⟩
     rw [unhide hB2] at HX1 HX2
     go_wp2_with fail
     refine (unhide HC).mono ?_
     rintro e w6 ⟨ha, hc, xs2, rfl, hog, hb6⟩
     have HG2 := hide hog
     rw [unhide hB2] at HG2
     have HGB2 : Hid (BG ≤ B2) := by rw [← unhide hB2]; exact unhide HBGX
     have HB2X : Hid (B2 ≤ w6.heap.size) := by rw [← unhide hB2]; exact hb6.size
     clear HBGX
     have HLFn := hide ((unhide HLF).keep hb6)
     have HBXn : Hid (Below XB.heap.size XB w6) := (unhide HBX).trans (hb6.mono (unhide HBX).size)
     have HWn := hide ((unhide HW).fr (Fr.of_below (S := fun _ => False) hb6) (fun _ _ _ e => e))
     have HGn := hide ((unhide HG).fr (Fr.of_below (S := fun _ => False) hb6) (fun _ _ _ e => e))
     have HVn := hide ((unhide HV).fr (Fr.of_below (S := fun _ => False) hb6) (fun _ _ _ e => e))
     clear HLF HBX HW HG HV  hog hb6 HC HFX hB2 g0 g1 g2 g3 g4 g5 lP lQ lT
     obtain ⟨X, hXn⟩ : ∃ Z, Z = w6 := ⟨_, rfl⟩
     subst hXn
     have HLF := HLFn
     clear HLFn
     have HBX := HBXn
     clear HBXn
     have HW := HWn
     clear HWn
     have HG := HGn
     clear HGn
     have HV := HVn
     clear HVn
     obtain ⟨g0, g1, g2, g3, g4, g5⟩ := ((unhide HU).below (unhide HBX)).cells
     obtain ⟨lP, lQ, lT⟩ := ((unhide HU).below (unhide HBX)).ltt
     have hbe := bool_neqE
     have HC20 := hide (sameMs_any (unhide HG2).fsv (unhide HV).fsv (unhide HAB2).1 (unhide HAB2).2)
     go_wp2_with fail
     refine (unhide HC20).mono ?_
     rintro e w7 ⟨rfl, hb7⟩
     have HLFn := hide ((unhide HLF).keep hb7)
     have HBXn : Hid (Below XB.heap.size XB w7) := (unhide HBX).trans (hb7.mono (unhide HBX).size)
     have HWn := hide ((unhide HW).fr (Fr.of_below (S := fun _ => False) hb7) (fun _ _ _ e => e))
     have HGn := hide ((unhide HG).fr (Fr.of_below (S := fun _ => False) hb7) (fun _ _ _ e => e))
     have HG2n := hide ((unhide HG2).fr (Fr.of_below (S := fun _ => False) hb7) (fun _ _ _ e => e))
     have HB2Xn : Hid (B2 ≤ w7.heap.size) := Nat.le_trans (unhide HB2X) hb7.size
     clear HLF HBX HW HG HG2 HB2X hb7 HC20 HV g0 g1 g2 g3 g4 g5 lP lQ lT
     obtain ⟨X, hXn⟩ : ∃ Z, Z = w7 := ⟨_, rfl⟩
     subst hXn
     have HLF := HLFn
     clear HLFn
     have HBX := HBXn
     clear HBXn
     have HW := HWn
     clear HWn
     have HG := HGn
     clear HGn
     have HG2 := HG2n
     clear HG2n
     have HB2X := HB2Xn
     clear HB2Xn
     obtain ⟨g0, g1, g2, g3, g4, g5⟩ := ((unhide HU).below (unhide HBX)).cells
     obtain ⟨lP, lQ, lT⟩ := ((unhide HU).below (unhide HBX)).ltt
     have HC20 := hide (sameMs_any (unhide HG).fsv (unhide HW).fsv (unhide HAB).1 (unhide HAB).2)
     go_wp2_with fail
     refine (unhide HC20).mono ?_
     rintro e w8 ⟨rfl, hb8⟩
     have HLFn := hide ((unhide HLF).keep hb8)
     have HBXn : Hid (Below XB.heap.size XB w8) := (unhide HBX).trans (hb8.mono (unhide HBX).size)
     have HGn := hide ((unhide HG).fr (Fr.of_below (S := fun _ => False) hb8) (fun _ _ _ e => e))
     have HG2n := hide ((unhide HG2).fr (Fr.of_below (S := fun _ => False) hb8) (fun _ _ _ e => e))
     have HB2Xn : Hid (B2 ≤ w8.heap.size) := Nat.le_trans (unhide HB2X) hb8.size
     clear HLF HBX HG HG2 HB2X hb8 HC20 HW g0 g1 g2 g3 g4 g5 lP lQ lT
     obtain ⟨X, hXn⟩ : ∃ Z, Z = w8 := ⟨_, rfl⟩
     subst hXn
     have HLF := HLFn
     clear HLFn
     have HBX := HBXn
     clear HBXn
     have HG := HGn
     clear HGn
     have HG2 := HG2n
     clear HG2n
     have HB2X := HB2Xn
     clear HB2Xn
     obtain ⟨g0, g1, g2, g3, g4, g5⟩ := ((unhide HU).below (unhide HBX)).cells
     obtain ⟨lP, lQ, lT⟩ := ((unhide HU).below (unhide HBX)).ltt
     have HY1 : Hid (∀ b, (Value.slice ha nA2 hc).ownBlock = some b → b < X.heap.size) := fun b e => (unhide HG2).row.lt b e
     have HY2 : Hid (∀ (i : Nat) (y : Fmv) (b : Nat), xs2[i]? = some y → y.sv.ownBlock = some b → b < X.heap.size) := fun i y b hy e => (unhide HG2).slt hy e
     have HFX : FsV X (.slice (some ⟨g, off, none⟩) n cap) l2 := by have h1 := (unhide HLF).fsv (by rw [unhide h2L]; omega) hcp2; rw [unhide h2L] at h1; exact h1
     have HC := hide (unhide HC22 X HFX)
     clear HFX
     have HXS : Hid (B2 ≤ X.heap.size) := unhide HB2X
     obtain ⟨B3, hB3⟩ : ∃ B, Hid (X.heap.size = B) := ⟨_, hide rfl⟩
     rw [unhide hB3] at HY1 HY2 HXS
     go_wp2_with fail
     refine (unhide HC).mono ?_
     rintro e w9 ⟨na, nc, xs3, rfl, hog, hb9⟩
     have HN := hide hog
     rw [unhide hB3] at HN
     have HB3X : Hid (B3 ≤ w9.heap.size) := by rw [← unhide hB3]; exact hb9.size
     clear HB2X
     have HLFn := hide ((unhide HLF).keep hb9)
     have HBXn : Hid (Below XB.heap.size XB w9) := (unhide HBX).trans (hb9.mono (unhide HBX).size)
     have HGn := hide ((unhide HG).fr (Fr.of_below (S := fun _ => False) hb9) (fun _ _ _ e => e))
     have HG2n := hide ((unhide HG2).fr (Fr.of_below (S := fun _ => False) hb9) (fun _ _ _ e => e))
     clear HLF HBX HG HG2  hog hb9 HC hB3 g0 g1 g2 g3 g4 g5 lP lQ lT
     obtain ⟨X, hXn⟩ : ∃ Z, Z = w9 := ⟨_, rfl⟩
     subst hXn
     have HLF := HLFn
     clear HLFn
     have HBX := HBXn
     clear HBXn
     have HG := HGn
     clear HGn
     have HG2 := HG2n
     clear HG2n
     have HAS : Hid (∀ O : Obj, O = .cells #[.slice ga nA gc, .slice ha nA2 hc] 39 → AG (fun b => BG ≤ b ∧ b < B3) (X.alloc O) X.heap.size (fun k => if k = 0 then .slice ga nA gc else .slice ha nA2 hc) (fun k => if k = 0 then A.length else A2.length) (fun k => if k = 0 then xs1 else xs2) (fun j => (((A ++ A2)[j]?).map (fun f => f.sl)).getD [])) := fun O hO => by
       subst hO
       have hc := (blk_cells (heap_alloc_new X (.cells #[.slice ga nA gc, .slice ha nA2 hc] 39))).1
       exact AG.of ((unhide HG).fr ((Fr.refl (fun _ => False) X).alloc _) (fun _ _ _ e => e)) ((unhide HG2).fr ((Fr.refl (fun _ => False) X).alloc _) (fun _ _ _ e => e)) (unhide HGB2) (unhide HXS) (unhide HB3X) (unhide HX1) (unhide HX2) (unhide HY1) (unhide HY2) (hc 0) (hc 1) (unhide HAB) (unhide HAB2)
     have HC23 := hide (fun O hO => apartF (unhide HAS O hO))
     go_wp2_with fail
     refine (unhide HC23 _ rfl).mono ?_
     rintro e w10 ⟨rfl, hfr⟩
     have f10 : Fr (fun b => BG ≤ b ∧ b < B3) X w10 := ((Fr.refl _ X).alloc _).trans2 hfr (fun b _ e => e)
     have HLFn := hide ((unhide HLF).frS f10 (fun e => by have := unhide HGG; omega) (fun i y k hy hk e => by have := unhide HYB i y k hy hk; omega))
     have HNn := hide ((unhide HN).fr f10 (fun k h1 h2 e => by omega))
     have HBXn : Hid (Below XB.heap.size XB w10) := (unhide HBX).trans (f10.below (unhide HBX).size (fun k hk e => by have := unhide HGG; have := unhide HGW; omega))
     have HK21 : Hid (Calls Try.prog 21 #[.slice (some ⟨g, off, none⟩) n cap, .slice na n nc] w10 fun e w' => e = .returned (.bool true) ∧ Below w10.heap.size w10 w') := by
       have h1 := keptM_any (unhide HLFn) (unhide HNn).fsv (by rw [unhide h2L]; exact hL) (unhide h2S) (by rw [unhide h2L]; exact hcp1) hcp2
       rw [unhide h2L] at h1
       exact h1
     clear hfr f10 HC23 HAS HLF HN HBX HG HG2 HLFn HNn
     go_wp2_with fail
     refine (unhide HK21).mono ?_
     rintro e w11 ⟨rfl, hb11⟩
     have HE : Hid (Below w.heap.size w w11) := ((unhide HXB).trans ((unhide HBXn).mono (unhide HXB).size)).trans (hb11.mono (by have := (unhide HXB).size; have := (unhide HBXn).size; omega))
     clear hb11 HK21
     go_wp2_with fail
     go_ret
     exact ⟨rfl, unhide HE⟩
end Go.Proofs.Ytfcgpafjhifogaa
