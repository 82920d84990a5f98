/-
  What is wanted behind each block: the program's own way.
-/
import Derived.Test.YtpbdmbmafjkinaaDoorWm0
import Derived.ChangeKeysEq
import Derived.Deep.Cut
import Derived.Deep.CutRange
namespace Go.Proofs.YtpbdmbmafjkinaaDoor
open Go.RowKit
set_option linter.unusedVariables false
set_option linter.unusedSimpArgs false
theorem eq57 (X : World) (a b : Int) : (Op.equalIn 9999 60 (.int .u64 a) (.int .u64 b)).run Tryd.prog X = .ok (a == b) X := by
  go_simp
theorem eqStep (X : World) (xs ys : Array Value) (j : Nat) (js : List Nat) (a b : Int) (hx : xs[j]? = some (.int .u64 a)) (hy : ys[j]? = some (.int .u64 b)) : (Op.eqItems 9999 60 1 xs ys (j :: js)).run Tryd.prog X = if a = b then (Op.eqItems 9999 60 1 xs ys js).run Tryd.prog X else .ok false X := by
  have p1 := run_part_plain (P := Tryd.prog) X (e := 60) (by kernel_rfl) (off := j) hx
  have p2 := run_part_plain (P := Tryd.prog) X (e := 60) (by kernel_rfl) (off := j) hy
  simp only [Op.eqItems, Sem.run_bind, Nat.mul_one, p1, p2, eq57, Result.andThen_ok]
  by_cases h : a = b
  · simp [h]
  · simp [h]
theorem eqSet (A B : Wd) (X : World) (hh : ∀ j, j < 8 → A j = B j) : (Op.equalIn 10000 62 (.agg (wdA A)) (.agg (wdA B))).run Tryd.prog X = .ok true X := by
  obtain ⟨i, hi, _, hs, _⟩ := info_parts (show (Tryd.prog.info? 60).map (fun i => (i.zero, i.size, i.bytes)) = some (some (.int .u64 0), 1, 8) by kernel_rfl)
  have hc : Tryd.prog.cellsOf 60 = 1 := by kernel_rfl
  rw [run_equalIn_array X 9999 (wdA A) (wdA B) (show Tryd.prog.underlying 62 = some (.array 8 60) by kernel_rfl) hi, hc]
  rw [show List.range 8 = [0, 1, 2, 3, 4, 5, 6, 7] from rfl]
  rw [eqStep X _ _ 0 _ _ _ rfl rfl, if_pos (by rw [hh 0 (by omega)]), eqStep X _ _ 1 _ _ _ rfl rfl, if_pos (by rw [hh 1 (by omega)]), eqStep X _ _ 2 _ _ _ rfl rfl, if_pos (by rw [hh 2 (by omega)]), eqStep X _ _ 3 _ _ _ rfl rfl, if_pos (by rw [hh 3 (by omega)]), eqStep X _ _ 4 _ _ _ rfl rfl, if_pos (by rw [hh 4 (by omega)]), eqStep X _ _ 5 _ _ _ rfl rfl, if_pos (by rw [hh 5 (by omega)]), eqStep X _ _ 6 _ _ _ rfl rfl, if_pos (by rw [hh 6 (by omega)]), eqStep X _ _ 7 _ _ _ rfl rfl, if_pos (by rw [hh 7 (by omega)])]
  simp [Op.eqItems]
theorem eqSet_no (A B : Wd) (X : World) (hh : ¬ ∀ j, j < 8 → A j = B j) : (Op.equalIn 10000 62 (.agg (wdA A)) (.agg (wdA B))).run Tryd.prog X = .ok false X := by
  obtain ⟨i, hi, _, hs, _⟩ := info_parts (show (Tryd.prog.info? 60).map (fun i => (i.zero, i.size, i.bytes)) = some (some (.int .u64 0), 1, 8) by kernel_rfl)
  have hc : Tryd.prog.cellsOf 60 = 1 := by kernel_rfl
  rw [run_equalIn_array X 9999 (wdA A) (wdA B) (show Tryd.prog.underlying 62 = some (.array 8 60) by kernel_rfl) hi, hc]
  rw [show List.range 8 = [0, 1, 2, 3, 4, 5, 6, 7] from rfl]
  rw [eqStep X _ _ 0 _ _ _ rfl rfl, eqStep X _ _ 1 _ _ _ rfl rfl, eqStep X _ _ 2 _ _ _ rfl rfl, eqStep X _ _ 3 _ _ _ rfl rfl, eqStep X _ _ 4 _ _ _ rfl rfl, eqStep X _ _ 5 _ _ _ rfl rfl, eqStep X _ _ 6 _ _ _ rfl rfl, eqStep X _ _ 7 _ _ _ rfl rfl]
  by_cases h0 : (A 0 : Int) = (B 0 : Int) <;> by_cases h1 : (A 1 : Int) = (B 1 : Int) <;> by_cases h2 : (A 2 : Int) = (B 2 : Int) <;> by_cases h3 : (A 3 : Int) = (B 3 : Int) <;> simp only [h0, h1, h2, h3, if_true, if_false]
  by_cases h4 : (A 4 : Int) = (B 4 : Int)
  · rw [if_pos h4]
    by_cases h5 : (A 5 : Int) = (B 5 : Int)
    · rw [if_pos h5]
      by_cases h6 : (A 6 : Int) = (B 6 : Int)
      · rw [if_pos h6]
        by_cases h7 : (A 7 : Int) = (B 7 : Int)
        · refine absurd (fun j hj => ?_) hh
          match j, hj with
          | 0, _ => omega
          | 1, _ => omega
          | 2, _ => omega
          | 3, _ => omega
          | 4, _ => omega
          | 5, _ => omega
          | 6, _ => omega
          | 7, _ => omega
          | (n + 8), h => omega
        · rw [if_neg h7]
      · rw [if_neg h6]
    · rw [if_neg h5]
  · rw [if_neg h4]

set_option linter.unusedVariables false
set_option linter.unusedSimpArgs false
theorem infSet : (Tryd.prog.info? 62).map (fun i => (i.zero, i.size, i.bytes)) = some (some (stV (fun _ => 0)), 8, 64) := by kernel_rfl
theorem infBool : (Tryd.prog.info? 4).map (fun i => (i.zero, i.size, i.bytes)) = some (some (.bool false), 1, 1) := by kernel_rfl
def moS (N : Nat) : Obj := .cells (madeCells (stV (fun _ => 0)).cells (N * 8)) 62
def moI (N : Nat) : Obj := .cells (madeCells (Value.int .i64 0).cells (N * 1)) 3
def moB (N : Nat) : Obj := .cells (madeCells (Value.bool false).cells (N * 1)) 4
theorem mk52 {N : Nat} (hN : N ≤ 1048576) (W : World) : (Instr.makeSlice 63 (.int .i64 (N : Int)) (.int .i64 (N : Int))).run Tryd.prog W = .ok (.slice (some ⟨W.heap.size, 0, none⟩) N N) (W.alloc (moS N)) := by
  obtain ⟨i3, hi3, hz3, hs3, hb3⟩ := info_parts infSet
  have := run_make (P := Tryd.prog) W 63 62 i3 _ Tryd.underlying63 hi3 hz3 .i64 .i64 (N : Int) (N : Int) (by omega) (by omega) (by rw [hb3]; omega) (by omega)
  rw [hs3] at this
  simpa [moS] using this
theorem mk37 {N : Nat} (hN : N ≤ 1048576) (W : World) : (Instr.makeSlice 25 (.int .i64 (N : Int)) (.int .i64 (N : Int))).run Tryd.prog W = .ok (.slice (some ⟨W.heap.size, 0, none⟩) N N) (W.alloc (moI N)) := by
  obtain ⟨i3, hi3, hz3, hs3, hb3⟩ := info_parts infIC
  have := run_make (P := Tryd.prog) W 25 3 i3 _ Tryd.underlying25 hi3 hz3 .i64 .i64 (N : Int) (N : Int) (by omega) (by omega) (by rw [hb3]; omega) (by omega)
  rw [hs3] at this
  simpa [moI] using this
theorem mk72 {N : Nat} (hN : N ≤ 1048576) (W : World) : (Instr.makeSlice 42 (.int .i64 (N : Int)) (.int .i64 (N : Int))).run Tryd.prog W = .ok (.slice (some ⟨W.heap.size, 0, none⟩) N N) (W.alloc (moB N)) := by
  obtain ⟨i3, hi3, hz3, hs3, hb3⟩ := info_parts infBool
  have := run_make (P := Tryd.prog) W 42 4 i3 _ Tryd.underlying42 hi3 hz3 .i64 .i64 (N : Int) (N : Int) (by omega) (by omega) (by rw [hb3]; omega) (by omega)
  rw [hs3] at this
  simpa [moB] using this
/-- What is laid out: all sets empty, nothing in the row of work yet. -/
structure WS0 (w : World) (bl : List Bk) (N lm : Nat) (us : List (List Int)) (xs : List Value) (X : World) : Prop where
  bel : Below w.heap.size w X
  ld : SL (fun k => w.heap.size < k ∧ k < lm) X (.slice (some ⟨w.heap.size + 1, 0, none⟩) N N) us xs
  lo : LdO bl 1048576 N 0 us
  bh : Ro X 8 (.slice (some ⟨w.heap.size, 0, none⟩) N N) N (flt enW (List.replicate N (fun _ => 0)))
  hz : X.heap.size = lm
theorem WS0.of {w X : World} {bl : List Bk} {N : Nat} (hN : N ≤ 1048576) (h : LdW (w.alloc (moS N)) bl N 1048576 N 0 X) : ∃ us xs, WS0 w bl N X.heap.size us xs X := by
  obtain ⟨hb, us, xs, h1, h2⟩ := h
  have hs : (w.alloc (moS N)).heap.size = w.heap.size + 1 := by simp
  have hm := made_ro enW (fun _ => 0) (stV (fun _ => 0)).cells 8 zW (by decide) rfl w 62 N (by unfold maxLen; omega)
  have hv : LdV (w.alloc (moS N)) N = .slice (some ⟨w.heap.size + 1, 0, none⟩) N N := by simp
  rw [hv] at h2
  rw [hs] at h2
  refine ⟨us, xs, (box1n w _).trans (hb.mono (by omega)), h2.mono (fun k hk q => ⟨Nat.lt_of_succ_le q, hk⟩), h1, ?_, rfl⟩
  exact hm.fr (Fr.of_below (S := fun _ => False) hb) (fun _ _ e => e)
theorem WS0.on {w X : World} {bl : List Bk} {N lm : Nat} {us : List (List Int)} {xs : List Value} (h : WS0 w bl N lm us xs X) {Y : World} {a b : Nat} (f : Below X.heap.size X Y) (hab : a ≠ b) (ha : lm ≤ a) (hb : lm ≤ b) (h1 : Ro Y 1 (.slice (some ⟨a, 0, none⟩) N N) N (flt enN (List.replicate N 0))) (h2 : Ro Y 1 (.slice (some ⟨b, 0, none⟩) N N) N (flt enBo (List.replicate N false))) :
    WM w N w.heap.size lm b us xs (.slice (some ⟨w.heap.size + 1, 0, none⟩) N N) (List.replicate N (fun _ => 0)) (.slice (some ⟨a, 0, none⟩) N N) (List.replicate N 0) (List.replicate N false) Y := by
  have hl := h.hz
  have hbl := h.bh.lt w.heap.size rfl
  refine ⟨h.bel.trans (f.mono h.bel.size), fun A hA => ?_, by simp, by simp, h.bh.fr (Fr.of_below (S := fun _ => False) f) (fun _ _ e => e), h.ld.below staysL f, h2, by rw [List.length_replicate]; exact h1, ⟨Nat.le_refl _, by omega, hb⟩, fun k hk => ?_⟩
  · rw [List.eq_of_mem_replicate hA]; intro k; show (0 : Nat) < _; decide
  · have := own_eq hk; omega
theorem WS0.ab {w X : World} {bl : List Bk} {N lm : Nat} {us : List (List Int)} {xs : List Value} (h : WS0 w bl N lm us xs X) (hN : N ≤ 1048576) :
    WM w N w.heap.size lm (lm + 1) us xs (.slice (some ⟨w.heap.size + 1, 0, none⟩) N N) (List.replicate N (fun _ => 0)) (.slice (some ⟨lm, 0, none⟩) N N) (List.replicate N 0) (List.replicate N false) ((X.drew.alloc (moI N)).alloc (moB N)) := by
  have hl := h.hz
  have hd : X.drew.heap.size = lm := hl
  have m1 := made_ro enN 0 (Value.int .i64 0).cells 1 zN (by decide) rfl X.drew 3 N (by unfold maxLen; omega)
  have m2 := made_ro enBo false (Value.bool false).cells 1 zBo (by decide) rfl (X.drew.alloc (moI N)) 4 N (by unfold maxLen; omega)
  rw [hd] at m1
  rw [show (X.drew.alloc (moI N)).heap.size = lm + 1 by rw [World.size_alloc, hd]] at m2
  refine h.on ?_ (by omega) (by omega) (by omega) (m1.fr (Fr.of_below (S := fun _ => False) (box1n _ _)) (fun _ _ e => e)) m2
  exact (bl_drew X).trans ((bl_two X.drew _ _))
theorem WS0.ba {w X : World} {bl : List Bk} {N lm : Nat} {us : List (List Int)} {xs : List Value} (h : WS0 w bl N lm us xs X) (hN : N ≤ 1048576) :
    WM w N w.heap.size lm lm us xs (.slice (some ⟨w.heap.size + 1, 0, none⟩) N N) (List.replicate N (fun _ => 0)) (.slice (some ⟨lm + 1, 0, none⟩) N N) (List.replicate N 0) (List.replicate N false) ((X.drew.alloc (moB N)).alloc (moI N)) := by
  have hl := h.hz
  have hd : X.drew.heap.size = lm := hl
  have m1 := made_ro enBo false (Value.bool false).cells 1 zBo (by decide) rfl X.drew 4 N (by unfold maxLen; omega)
  have m2 := made_ro enN 0 (Value.int .i64 0).cells 1 zN (by decide) rfl (X.drew.alloc (moB N)) 3 N (by unfold maxLen; omega)
  rw [hd] at m1
  rw [show (X.drew.alloc (moB N)).heap.size = lm + 1 by rw [World.size_alloc, hd]] at m2
  refine h.on ?_ (by omega) (by omega) (by omega) m2 (m1.fr (Fr.of_below (S := fun _ => False) (box1n _ _)) (fun _ _ e => e))
  exact (bl_drew X).trans ((bl_two X.drew _ _))
theorem WM.setW {w X : World} {N q lm m a : Nat} {us : List (List Int)} {xs : List Value} {lv : Value} {As : List Wd} {wl : List Nat} {wts : List Bool} (h : WM w N q lm m us xs lv As (.slice (some ⟨a, 0, none⟩) N N) wl wts X) {k : Nat} (hk : k < N) (n : Nat) : WM w N q lm m us xs lv As (.slice (some ⟨a, 0, none⟩) N N) (wl.set k n) wts (X.setCell ⟨a, k, none⟩ (.int .i64 (n : Int))) := by
  have hl : wl.length = N := by obtain ⟨_, _, e, _⟩ := h.wk.shape; cases e; rfl
  have hw := h.wk
  rw [hl] at hw
  obtain ⟨r1, r2⟩ := hw.putAt zN hl rfl hk n
  have e2 : X.setCells a (0 + k * 1) (enN n) = X.setCell ⟨a, k, none⟩ (.int .i64 (n : Int)) := by simp [enN, World.setCells]
  rw [e2] at r1 r2
  have hq := h.qm
  have ha := h.wb a rfl
  refine ⟨h.bel.trans (r2.below h.bel.size (fun z hz e => by omega)), h.ok, h.la, h.lw, h.bh.fr r2 (fun z hz e => ?_), h.ld.frZ staysL r2 (fun z _ hz e => by omega), h.wt.fr r2 (fun z hz e => ?_), by rw [List.length_set, hl]; exact r1, hq, h.wb⟩
  · have hz := own_eq hz; omega
  · have hz := own_eq hz; omega
theorem WM.atW {w X : World} {N q lm m a : Nat} {us : List (List Int)} {xs : List Value} {lv : Value} {As : List Wd} {wl : List Nat} {wts : List Bool} (h : WM w N q lm m us xs lv As (.slice (some ⟨a, 0, none⟩) N N) wl wts X) {k : Nat} (hk : k < N) : a < X.heap.size ∧ (∃ n : Nat, X.cell? ⟨a, k, none⟩ = some (.int .i64 (n : Int))) ∧ X.frozen? ⟨a, k, none⟩ = false := by
  have hl : wl.length = N := by obtain ⟨_, _, e, _⟩ := h.wk.shape; cases e; rfl
  have hw := h.wk
  rw [hl] at hw
  obtain ⟨n, hn⟩ : ∃ n, wl[k]? = some n := ⟨_, List.getElem?_eq_getElem (by omega)⟩
  obtain ⟨h1, h2⟩ := hw.cellAt zN hl hn
  refine ⟨h1, ⟨n, ?_⟩, hw.free rfl k⟩
  have := h2 0 _ rfl
  simpa using this
def wlK (N k : Nat) : List Nat := (List.range N).map (fun i => if i < k then N - 1 - i else 0)
def wtK (N k : Nat) : List Bool := (List.range N).map (fun i => decide (i < k))
theorem wlK_zero (N : Nat) : wlK N 0 = List.replicate N 0 := by
  refine List.ext_getElem? (fun i => ?_)
  simp only [wlK, List.getElem?_map, List.getElem?_replicate]
  by_cases h : i < N
  · simp [h]
  · simp [h]
theorem wtK_zero (N : Nat) : wtK N 0 = List.replicate N false := by
  refine List.ext_getElem? (fun i => ?_)
  simp only [wtK, List.getElem?_map, List.getElem?_replicate]
  by_cases h : i < N
  · simp [h]
  · simp [h]
theorem wlK_set {N k : Nat} (hk : k < N) : (wlK N k).set k (N - 1 - k) = wlK N (k + 1) := by
  refine List.ext_getElem? (fun i => ?_)
  by_cases h : i = k
  · subst h
    rw [List.getElem?_set_self (by simp [wlK]; exact hk)]
    simp [wlK, hk]
  · rw [List.getElem?_set_ne (fun q => h q.symm)]
    simp only [wlK, List.getElem?_map]
    by_cases h2 : i < N
    · have : (i < k) = (i < k + 1) := by apply propext; omega
      simp [h2, this]
    · simp [h2]
theorem wtK_set {N k : Nat} (hk : k < N) : (wtK N k).set k true = wtK N (k + 1) := by
  refine List.ext_getElem? (fun i => ?_)
  by_cases h : i = k
  · subst h
    rw [List.getElem?_set_self (by simp [wtK]; exact hk)]
    simp [wtK, hk]
  · rw [List.getElem?_set_ne (fun q => h q.symm)]
    simp only [wtK, List.getElem?_map]
    by_cases h2 : i < N
    · have : (i < k) = (i < k + 1) := by apply propext; omega
      simp [h2, this]
    · simp [h2]
theorem Bof_zero (N b : Nat) : Bof (List.replicate N (fun _ => 0)) b = fun _ => false := by
  unfold Bof
  rw [List.getElem?_replicate]
  split
  · rename_i A h
    split at h
    · cases h; exact sS_zero
    · cases h
  · rfl
/-- Where the work begins. -/
theorem WI.begin (bl : List Bk) (N : Nat) (hN : bl.length = N) : WI bl (Bof (List.replicate N (fun _ => 0))) (wlK N N) (wtf (wtK N N)) := by
  have hall : ∀ n, n < N → n ∈ wlK N N := fun n hn => by
    refine List.mem_map.2 ⟨N - 1 - n, by simp; omega, ?_⟩
    rw [if_pos (by omega)]; omega
  have hwt : ∀ n, n < N → wtf (wtK N N) n = true := fun n hn => by simp [wtf, wtK, hn]
  refine ⟨fun b r hr => ?_, fun b n u t _ ht _ => .inl (hwt n ?_), fun n hn => hall n ?_, fun n hn => ?_⟩
  · rw [Bof_zero] at hr; cases hr
  · rw [← hN]; exact (List.getElem?_eq_some_iff.1 ht).1
  · refine Classical.byContradiction (fun q => ?_)
    have : wtf (wtK N N) n = false := by simp [wtf, wtK, q]
    rw [this] at hn; cases hn
  · obtain ⟨i, hi, e⟩ := List.mem_map.1 hn
    simp at hi
    rw [if_pos hi] at e
    omega
/-- All that the outer loop holds. -/
structure WX (w : World) (bl : List Bk) (N lm m : Nat) (us : List (List Int)) (xs : List Value) (G : Nat) (wv : Value) (As : List Wd) (wl : List Nat) (wts : List Bool) (X : World) : Prop where
  wi : WI bl (Bof As) wl (wtf wts)
  mu : muW N (Bof As) wl.length ≤ G
  gl : G ≤ 1074790400
  wm : WM w N w.heap.size lm m us xs (.slice (some ⟨w.heap.size + 1, 0, none⟩) N N) As wv wl wts X
/-- While those that lead to one block are gone through. -/
structure WZ (w : World) (N lm m : Nat) (us : List (List Int)) (xs : List Value) (p : Nat) (C : Wd) (lx : Value) (dl : List Int) (wv : Value) (As : List Wd) (wl : List Nat) (wts : List Bool) (X : World) : Prop where
  wm : WM w N w.heap.size lm m us xs (.slice (some ⟨w.heap.size + 1, 0, none⟩) N N) As wv wl wts X
  bx : X.heap[p]? = some (.cells (wdA C) 62)
  wp : wv.ownBlock ≠ some p
  mp : m < p
  dr : Ro X 1 lx dl.length (flt enI dl)
  dq : ∀ k, lx.ownBlock = some k → w.heap.size < k ∧ k < lm
section
variable {w X Y : World} {N lm m p : Nat} {us : List (List Int)} {xs : List Value} {C : Wd} {lx : Value} {dl : List Int} {wv : Value} {As : List Wd} {wl : List Nat} {wts : List Bool}
theorem WZ.on (h : WZ w N lm m us xs p C lx dl wv As wl wts X) (f : Below X.heap.size X Y) : WZ w N lm m us xs p C lx dl wv As wl wts Y :=
  ⟨h.wm.on f, (f.block _ (Array.getElem?_eq_some_iff.1 h.bx).1).trans h.bx, h.wp, h.mp, h.dr.fr (Fr.of_below (S := fun _ => False) f) (fun _ _ e => e), h.dq⟩
theorem WZ.of {As' : List Wd} {wts' : List Bool} {S : Nat → Prop} (h : WZ w N lm m us xs p C lx dl wv As wl wts X) (f : Fr S X Y) (hS : ∀ k, S k → k ≤ w.heap.size ∨ lm ≤ k ∧ k < p) (h2 : WM w N w.heap.size lm m us xs (.slice (some ⟨w.heap.size + 1, 0, none⟩) N N) As' wv wl wts' Y) : WZ w N lm m us xs p C lx dl wv As' wl wts' Y := by
  have hq := h.wm.qm
  have hm := h.mp
  exact ⟨h2, (f.block _ (Array.getElem?_eq_some_iff.1 h.bx).1 (fun e => by have := hS _ e; omega)).trans h.bx, h.wp, h.mp, h.dr.fr f (fun k hk e => by have := hS _ e; have := h.dq k hk; omega), h.dq⟩
theorem WZ.push (h : WZ w N lm m us xs p C lx dl wv As wl wts X) (f : Nat) (hl : wl.length ≤ 4294967296) : ∃ va vc ya yc w1, wv = .slice va wl.length vc ∧ (Builtin.append_ #[25, 25] 25 #[.slice va wl.length vc, .slice (some ⟨X.heap.size, 0, none⟩) 1 1]).run Tryd.prog (X.alloc (.cells #[.int .i64 (f : Int)] 3)) = .ok (.slice ya (wl.length + 1) yc) w1 ∧ WZ w N lm m us xs p C lx dl (.slice ya (wl.length + 1) yc) As (wl ++ [f]) wts w1 := by
  obtain ⟨va, vc, ya, yc, w1, h1, h2, h3, h4, h5⟩ := h.wm.push f hl
  have hpl := (Array.getElem?_eq_some_iff.1 h.bx).1
  refine ⟨va, vc, ya, yc, w1, h1, h2, h3, (h4.block _ hpl h.wp).trans h.bx, fun e => ?_, h.mp, h.dr.fr h4 (fun k hk e => ?_), h.dq⟩
  · rcases h5 _ e with q | q
    · exact h.wp q
    · omega
  · have := h.wm.wb k e
    have := h.dq k hk
    omega
theorem WZ.atC (h : WZ w N lm m us xs p C lx dl wv As wl wts X) : p < X.heap.size ∧ X.cell? ⟨p, 0, none⟩ = some (.int .u64 (C 0)) ∧ X.cell? ⟨p, 1, none⟩ = some (.int .u64 (C 1)) ∧ X.cell? ⟨p, 2, none⟩ = some (.int .u64 (C 2)) ∧ X.cell? ⟨p, 3, none⟩ = some (.int .u64 (C 3)) ∧ X.cell? ⟨p, 4, none⟩ = some (.int .u64 (C 4)) ∧ X.cell? ⟨p, 5, none⟩ = some (.int .u64 (C 5)) ∧ X.cell? ⟨p, 6, none⟩ = some (.int .u64 (C 6)) ∧ X.cell? ⟨p, 7, none⟩ = some (.int .u64 (C 7)) := by
  obtain ⟨h1, h2, h3⟩ := blk_cells h.bx
  exact ⟨h3, h1 0, h1 1, h1 2, h1 3, h1 4, h1 5, h1 6, h1 7⟩
theorem WZ.atD (h : WZ w N lm m us xs p C lx dl wv As wl wts X) {j : Nat} {d : Int} (hd : dl[j]? = some d) : ∃ b off c, lx = .slice (some ⟨b, off, none⟩) dl.length c ∧ b < X.heap.size ∧ X.cell? ⟨b, off + j, none⟩ = some (.int .i64 d) := by
  obtain ⟨b, off, c, e, _, _, hb, hc⟩ := (Rx.of_ro h.dr).elem zI hd
  refine ⟨b, off, c, e, hb, ?_⟩
  have := hc 0 _ rfl
  rwa [Nat.mul_one, Nat.add_zero] at this
end
theorem box8g {X : World} {d : Nat} {z0 z1 z2 z3 z4 z5 z6 z7 : Value} (x0 x1 x2 x3 x4 x5 x6 x7 : Value) (h : X.heap[d]? = some (.cells #[z0, z1, z2, z3, z4, z5, z6, z7] 62)) : ((((((((X.setCell ⟨d, 0, none⟩ x0).setCell ⟨d, 1, none⟩ x1).setCell ⟨d, 2, none⟩ x2).setCell ⟨d, 3, none⟩ x3).setCell ⟨d, 4, none⟩ x4).setCell ⟨d, 5, none⟩ x5).setCell ⟨d, 6, none⟩ x6).setCell ⟨d, 7, none⟩ x7).heap[d]? = some (.cells #[x0, x1, x2, x3, x4, x5, x6, x7] 62) ∧ Fr (fun k => k = d) X ((((((((X.setCell ⟨d, 0, none⟩ x0).setCell ⟨d, 1, none⟩ x1).setCell ⟨d, 2, none⟩ x2).setCell ⟨d, 3, none⟩ x3).setCell ⟨d, 4, none⟩ x4).setCell ⟨d, 5, none⟩ x5).setCell ⟨d, 6, none⟩ x6).setCell ⟨d, 7, none⟩ x7) := by
  refine ⟨?_, ?_⟩
  · have s0 : (X.setCell ⟨d, 0, none⟩ x0).heap[d]? = some (.cells #[x0, z1, z2, z3, z4, z5, z6, z7] 62) := setCell_block (o := 0) h x0
    have s1 : ((X.setCell ⟨d, 0, none⟩ x0).setCell ⟨d, 1, none⟩ x1).heap[d]? = some (.cells #[x0, x1, z2, z3, z4, z5, z6, z7] 62) := setCell_block (o := 1) s0 x1
    have s2 : (((X.setCell ⟨d, 0, none⟩ x0).setCell ⟨d, 1, none⟩ x1).setCell ⟨d, 2, none⟩ x2).heap[d]? = some (.cells #[x0, x1, x2, z3, z4, z5, z6, z7] 62) := setCell_block (o := 2) s1 x2
    have s3 : ((((X.setCell ⟨d, 0, none⟩ x0).setCell ⟨d, 1, none⟩ x1).setCell ⟨d, 2, none⟩ x2).setCell ⟨d, 3, none⟩ x3).heap[d]? = some (.cells #[x0, x1, x2, x3, z4, z5, z6, z7] 62) := setCell_block (o := 3) s2 x3
    have s4 : (((((X.setCell ⟨d, 0, none⟩ x0).setCell ⟨d, 1, none⟩ x1).setCell ⟨d, 2, none⟩ x2).setCell ⟨d, 3, none⟩ x3).setCell ⟨d, 4, none⟩ x4).heap[d]? = some (.cells #[x0, x1, x2, x3, x4, z5, z6, z7] 62) := setCell_block (o := 4) s3 x4
    have s5 : ((((((X.setCell ⟨d, 0, none⟩ x0).setCell ⟨d, 1, none⟩ x1).setCell ⟨d, 2, none⟩ x2).setCell ⟨d, 3, none⟩ x3).setCell ⟨d, 4, none⟩ x4).setCell ⟨d, 5, none⟩ x5).heap[d]? = some (.cells #[x0, x1, x2, x3, x4, x5, z6, z7] 62) := setCell_block (o := 5) s4 x5
    have s6 : (((((((X.setCell ⟨d, 0, none⟩ x0).setCell ⟨d, 1, none⟩ x1).setCell ⟨d, 2, none⟩ x2).setCell ⟨d, 3, none⟩ x3).setCell ⟨d, 4, none⟩ x4).setCell ⟨d, 5, none⟩ x5).setCell ⟨d, 6, none⟩ x6).heap[d]? = some (.cells #[x0, x1, x2, x3, x4, x5, x6, z7] 62) := setCell_block (o := 6) s5 x6
    have s7 : ((((((((X.setCell ⟨d, 0, none⟩ x0).setCell ⟨d, 1, none⟩ x1).setCell ⟨d, 2, none⟩ x2).setCell ⟨d, 3, none⟩ x3).setCell ⟨d, 4, none⟩ x4).setCell ⟨d, 5, none⟩ x5).setCell ⟨d, 6, none⟩ x6).setCell ⟨d, 7, none⟩ x7).heap[d]? = some (.cells #[x0, x1, x2, x3, x4, x5, x6, x7] 62) := setCell_block (o := 7) s6 x7
    exact s7
  · refine Fr.setCell (S := fun k => k = d) ?_ ⟨_, _, none⟩ (.inr rfl) _
    refine Fr.setCell (S := fun k => k = d) ?_ ⟨_, _, none⟩ (.inr rfl) _
    refine Fr.setCell (S := fun k => k = d) ?_ ⟨_, _, none⟩ (.inr rfl) _
    refine Fr.setCell (S := fun k => k = d) ?_ ⟨_, _, none⟩ (.inr rfl) _
    refine Fr.setCell (S := fun k => k = d) ?_ ⟨_, _, none⟩ (.inr rfl) _
    refine Fr.setCell (S := fun k => k = d) ?_ ⟨_, _, none⟩ (.inr rfl) _
    refine Fr.setCell (S := fun k => k = d) ?_ ⟨_, _, none⟩ (.inr rfl) _
    exact Fr.setCell (S := fun k => k = d) (Fr.refl _ _) ⟨_, _, none⟩ (.inr rfl) _
theorem box8 {X : World} {d : Nat} {Z C : Wd} (h : X.heap[d]? = some (.cells (wdA Z) 62)) : ((((((((X.setCell ⟨d, 0, none⟩ (.int .u64 (C 0 : Int))).setCell ⟨d, 1, none⟩ (.int .u64 (C 1 : Int))).setCell ⟨d, 2, none⟩ (.int .u64 (C 2 : Int))).setCell ⟨d, 3, none⟩ (.int .u64 (C 3 : Int))).setCell ⟨d, 4, none⟩ (.int .u64 (C 4 : Int))).setCell ⟨d, 5, none⟩ (.int .u64 (C 5 : Int))).setCell ⟨d, 6, none⟩ (.int .u64 (C 6 : Int))).setCell ⟨d, 7, none⟩ (.int .u64 (C 7 : Int))).heap[d]? = some (.cells (wdA C) 62) ∧ Fr (fun k => k = d) X ((((((((X.setCell ⟨d, 0, none⟩ (.int .u64 (C 0 : Int))).setCell ⟨d, 1, none⟩ (.int .u64 (C 1 : Int))).setCell ⟨d, 2, none⟩ (.int .u64 (C 2 : Int))).setCell ⟨d, 3, none⟩ (.int .u64 (C 3 : Int))).setCell ⟨d, 4, none⟩ (.int .u64 (C 4 : Int))).setCell ⟨d, 5, none⟩ (.int .u64 (C 5 : Int))).setCell ⟨d, 6, none⟩ (.int .u64 (C 6 : Int))).setCell ⟨d, 7, none⟩ (.int .u64 (C 7 : Int))) := box8g _ _ _ _ _ _ _ _ h
theorem cells8 {X : World} {p : Nat} {C : Wd} (h : X.heap[p]? = some (.cells (wdA C) 62)) : p < X.heap.size ∧ X.cell? ⟨p, 0, none⟩ = some (.int .u64 (C 0)) ∧ X.cell? ⟨p, 1, none⟩ = some (.int .u64 (C 1)) ∧ X.cell? ⟨p, 2, none⟩ = some (.int .u64 (C 2)) ∧ X.cell? ⟨p, 3, none⟩ = some (.int .u64 (C 3)) ∧ X.cell? ⟨p, 4, none⟩ = some (.int .u64 (C 4)) ∧ X.cell? ⟨p, 5, none⟩ = some (.int .u64 (C 5)) ∧ X.cell? ⟨p, 6, none⟩ = some (.int .u64 (C 6)) ∧ X.cell? ⟨p, 7, none⟩ = some (.int .u64 (C 7)) := by
  obtain ⟨h1, h2, h3⟩ := blk_cells h
  exact ⟨h3, h1 0, h1 1, h1 2, h1 3, h1 4, h1 5, h1 6, h1 7⟩
theorem frz8 {X : World} {p : Nat} {C : Wd} (h : X.heap[p]? = some (.cells (wdA C) 62)) (j : Nat) : X.frozen? ⟨p, j, none⟩ = false := (blk_cells h).2.1 j
def orW (A C : Wd) : Wd := fun k => A k ||| C k
theorem OkW.or {A C : Wd} (hA : OkW A) (hC : OkW C) : OkW (orW A C) := fun k => Nat.or_lt_two_pow (n := 64) (hA k) (hC k)
set_option maxRecDepth 100000 in
set_option maxHeartbeats 12800000 in
theorem wanted_any {w : World} {D : Nat → Prop} {bl : List Bk} {v : Value} (h : BksV D w bl v) (hN : bl.length ≤ 1048576) (hx : ∀ u ∈ bl, u.nx.length ≤ 1048576) (hi : ∀ u ∈ bl, u.ins.length ≤ 1048576) :
    Calls Tryd.prog 23 #[v] w fun e w' => ∃ As : List Wd, e = .returned (.slice (some ⟨w.heap.size, 0, none⟩) bl.length bl.length) ∧ Below w.heap.size w w' ∧ As.length = bl.length ∧ (∀ A ∈ As, OkW A) ∧ Ro w' 8 (.slice (some ⟨w.heap.size, 0, none⟩) bl.length bl.length) bl.length (flt enW As) ∧ ∀ b, Bof As b = wS bl b := by
  have HV : Hid (BksV (fun k => k < w.heap.size) w bl v) := BksV.mv D _ (fun _ => False) w w bl v h (Fr.refl _ w) (fun k hk _ => ⟨fun q => q, hk⟩)
  obtain ⟨va, vc, rfl, hv1, hv2⟩ := NV.shape h
  have HX := hide hx
  have HI := hide hi
  obtain ⟨N, hNN⟩ : ∃ z, Hid (bl.length = z) := ⟨_, hide rfl⟩
  have HLD : Hid (∀ W, Below w.heap.size w W → Calls Tryd.prog 42 #[.slice va N vc] W fun e w' => e = .returned (LdV W N) ∧ LdW W bl N 1048576 N 0 w') := fun W hW => by
    have := leading_any (w := W) (D := D) (BksV.mv D D (fun _ => False) w W bl _ h (Fr.of_below hW) (fun k hk d => ⟨fun q => q, d⟩)) hN hx
    rw [unhide hNN] at this
    exact this
  rw [unhide hNN] at hN hv1 ⊢
  unfold maxLen at hv2
  have hmk52 := mk52 hN
  clear h hx hi
  have n0 : (0 : Int) ≤ (N : Int) := by omega
  obtain ⟨MO, hMO⟩ : ∃ z, Hid (moS N = z) := ⟨_, hide rfl⟩
  rw [unhide hMO] at hmk52
  go_enter Tryd.func23, Tryd.ntmps23
  go_wp2_with fail
  refine (unhide HLD _ (box1n w MO)).mono ?_
  rintro e X ⟨rfl, hld⟩
  rw [← unhide hMO] at hld
  obtain ⟨us, xs, hws⟩ := WS0.of hN hld
  obtain ⟨lm, hlm⟩ : ∃ z, Hid (X.heap.size = z) := ⟨_, hide rfl⟩
  rw [unhide hlm] at hws
  have HWS := hide hws
  have hlv : LdV (w.alloc MO) N = .slice (some ⟨w.heap.size + 1, 0, none⟩) N N := by simp
  rw [hlv]
  clear hld hws hmk52 HLD hlv hMO MO
  go_wp2_with fail
  go_cut [5, 6] from 13 (fun s5 s6 wc => ∃ a b : Nat, s5 = .slice (some ⟨a, 0, none⟩) N N ∧ s6 = .slice (some ⟨b, 0, none⟩) N N ∧ Hid (WM w N w.heap.size lm b us xs (.slice (some ⟨w.heap.size + 1, 0, none⟩) N N) (List.replicate N (fun _ => 0)) (.slice (some ⟨a, 0, none⟩) N N) (List.replicate N 0) (List.replicate N false) wc))
  case first =>
    have hX := unhide hlm
    have hm1 := mk37 hN
    have hm2 := mk72 hN
    obtain ⟨MI, hMI⟩ : ∃ z, Hid (moI N = z) := ⟨_, hide rfl⟩
    obtain ⟨MB, hMB⟩ : ∃ z, Hid (moB N = z) := ⟨_, hide rfl⟩
    have HAB := hide ((unhide HWS).ab hN)
    have HBA := hide ((unhide HWS).ba hN)
    rw [unhide hMI] at hm1 HAB HBA
    rw [unhide hMB] at hm2 HAB HBA
    have hdr : X.drew.heap.size = lm := hX
    refine wp_region_held_drew (S := fun _ => True) (by kernel_rfl) trivial (fun hHeld => ?_)
    clear hHeld
    refine wpAnyH_take (i := 0) (oi := _) (v := .slice va N vc) rfl (by kernel_rfl) (by kernel_rfl) (by kernel_rfl) (fun _ _ _ h => h) (Or.inl ⟨by rfl, (by intro w' _; go_simp)⟩) trivial ?_
    go_simp
    refine wpAnyH_take (i := 1) (oi := _) (v := .int .i64 (N : Int)) rfl (by kernel_rfl) (by kernel_rfl) (by kernel_rfl) (fun _ _ _ h => h) (Or.inl ⟨by rfl, (by intro w' _; go_simp)⟩) trivial ?_
    go_simp
    refine wpAnyH_take (i := 3) (oi := _) (v := .slice va N vc) rfl (by kernel_rfl) (by kernel_rfl) (by kernel_rfl) (fun _ _ _ h => h) (Or.inl ⟨by rfl, (by intro w' _; go_simp)⟩) trivial ?_
    go_simp
    refine wpAnyH_take (i := 4) (oi := _) (v := .int .i64 (N : Int)) rfl (by kernel_rfl) (by kernel_rfl) (by kernel_rfl) (fun _ _ _ h => h) (Or.inl ⟨by rfl, (by intro w' _; go_simp)⟩) trivial ?_
    go_simp
    refine wpAnyH_ready (rs := [2, 5]) (by kernel_rfl) (by simp) ?_
    refine AllReadyH.cons (o := _) rfl (fun K hK => ?_) (AllReadyH.cons (o := _) rfl (fun K hK => ?_) AllReadyH.nil)
    · go_simp
      refine hK.out _ _ trivial (fun hHeld => ?_)
      clear hHeld hK K
      refine wpAnyH_take (i := 6) (oi := _) (v := .slice (some ⟨lm, 0, none⟩) N N) rfl (by kernel_rfl) (by kernel_rfl) (by kernel_rfl) (fun _ _ _ h => h) (Or.inl ⟨by rfl, (by intro w' _; go_simp)⟩) trivial ?_
      go_simp
      refine wpAnyH_ready (rs := [5]) (by kernel_rfl) (by simp) ?_
      refine AllReadyH.cons (o := _) rfl (fun K hK => ?_) AllReadyH.nil
      go_simp
      refine hK.out _ _ trivial (fun hHeld => ?_)
      clear hHeld hK K
      refine wpAnyH_take (i := 7) (oi := _) (v := .slice (some ⟨lm + 1, 0, none⟩) N N) rfl (by kernel_rfl) (by kernel_rfl) (by kernel_rfl) (fun _ _ _ h => h) (Or.inl ⟨by rfl, (by intro w' _; go_simp)⟩) trivial ?_
      go_simp
      refine wpAnyH_done (by kernel_rfl) ?_ _
      go_wp2_with fail
      go_meet
      case rel => exact ⟨lm, lm + 1, rfl, rfl, HAB⟩
    · go_simp
      refine hK.out _ _ trivial (fun hHeld => ?_)
      clear hHeld hK K
      refine wpAnyH_ready (rs := [2]) (by kernel_rfl) (by simp) ?_
      refine AllReadyH.cons (o := _) rfl (fun K hK => ?_) AllReadyH.nil
      go_simp
      refine hK.out _ _ trivial (fun hHeld => ?_)
      clear hHeld hK K
      refine wpAnyH_take (i := 6) (oi := _) (v := .slice (some ⟨lm + 1, 0, none⟩) N N) rfl (by kernel_rfl) (by kernel_rfl) (by kernel_rfl) (fun _ _ _ h => h) (Or.inl ⟨by rfl, (by intro w' _; go_simp)⟩) trivial ?_
      go_simp
      refine wpAnyH_take (i := 7) (oi := _) (v := .slice (some ⟨lm, 0, none⟩) N N) rfl (by kernel_rfl) (by kernel_rfl) (by kernel_rfl) (fun _ _ _ h => h) (Or.inl ⟨by rfl, (by intro w' _; go_simp)⟩) trivial ?_
      go_simp
      refine wpAnyH_done (by kernel_rfl) ?_ _
      go_wp2_with fail
      go_meet
      case rel => exact ⟨lm + 1, lm, rfl, rfl, HBA⟩
  case rest =>
    obtain ⟨a, m, rfl, rfl, HWM⟩ := hcut
    have HLO := hide (unhide HWS).lo
    have hlmX : lm ≤ m := (unhide HWM).qm.2.2
    clear HWS hlm X
    go_wp2_with fail
    go_loopg [26] N (fun gg t26 wr => ∃ k : Nat, Hid (k + gg = N) ∧ t26 = .int .i64 (k : Int) ∧ Hid (WM w N w.heap.size lm m us xs (.slice (some ⟨w.heap.size + 1, 0, none⟩) N N) (List.replicate N (fun _ => 0)) (.slice (some ⟨a, 0, none⟩) N N) (wlK N k) (wtK N k) wr))
    case atStart => exact ⟨0, by unfold Hid; omega, rfl, by rw [wlK_zero, wtK_zero]; exact HWM⟩
    case round =>
      clear HWM
      obtain ⟨k, hk, rfl, hG⟩ := hrel
      by_cases hlt : k < N
      · have k0 : (0 : Int) ≤ (k : Int) := by omega
        have k1 : (k : Int) < (N : Int) := by omega
        obtain ⟨a1, ⟨an, a2⟩, a3⟩ := (unhide hG).atW hlt
        have g1 := (unhide hG).setW hlt (N - 1 - k)
        rw [wlK_set hlt] at g1
        have hmk : (wtK N k)[k]? = some false := by simp [wtK, hlt]
        obtain ⟨b1, b2, b3⟩ := g1.atT hmk
        have g2 := g1.setT hlt true
        rw [wtK_set hlt] at g2
        have eN : (N : Int) - 1 - (k : Int) = ((N - 1 - k : Nat) : Int) := by omega
        have w1 : IntKind.i64.wrap ((N : Int) - 1) = (N : Int) - 1 := by go_arith
        have w2 : IntKind.i64.wrap ((N : Int) - 1 - (k : Int)) = ((N - 1 - k : Nat) : Int) := by rw [← eN]; go_arith
        have HG2 := hide g2
        clear g1 g2 hG hmk
        go_wp2_with fail
        go_roundg (gk - 1)
        case measure => have := unhide hk; omega
        case rel => exact ⟨k + 1, by have := unhide hk; unfold Hid; omega, by go_num, HG2⟩
      · have hkN : N = k := by have := unhide hk; omega
        subst hkN
        have i1 : ¬ (N : Int) < (N : Int) := by omega
        have HX0 : Hid (WX w bl N lm m us xs 1074790400 (.slice (some ⟨a, 0, none⟩) N N) (List.replicate N (fun _ => 0)) (wlK N N) (wtK N N) wr) := by
          refine ⟨WI.begin bl N (unhide hNN), ?_, Nat.le_refl _, unhide hG⟩
          have := muW_bound N (Bof (List.replicate N (fun _ => 0))) (wlK N N).length
          have hl : (wlK N N).length = N := by simp [wlK]
          rw [hl] at this ⊢
          omega
        clear hG hk
        obtain ⟨MU, hMU⟩ : ∃ z, Hid (1074790400 = z) := ⟨_, hide rfl⟩
        rw [unhide hMU] at HX0
        go_wp2_with fail
        go_loopg [5] MU (fun gg t5 wr => ∃ (ga : Option Addr) (gn gc : Nat) (As : List Wd) (wl : List Nat) (wts : List Bool), t5 = .slice ga gn gc ∧ Hid (gn = wl.length) ∧ Hid (WX w bl N lm m us xs gg (.slice ga gn gc) As wl wts wr))
        case atStart => exact ⟨_, _, _, _, _, _, rfl, by unfold Hid; simp [wlK], HX0⟩
        case round =>
          clear HX0
          obtain ⟨ga, gn, gc, As, wl, wts, rfl, hgn, hG⟩ := hrel
          cases wl with
          | nil =>
            have hg0 : gn = 0 := unhide hgn
            subst hg0
            have HE : Hid (∀ b, Bof As b = wS bl b) := fun b => (unhide hG).wi.done b
            go_wp2_with fail
            go_ret
            have g := (unhide hG).wm
            exact ⟨As, rfl, g.bel, g.la, g.ok, g.bh, unhide HE⟩
          | cons k0 r =>
            obtain ⟨wg, wo, wc1, wo2, gc2, ev, hr1, hr2, hwg, hc0, hcase, hpop⟩ := (unhide hG).wm.pop
            cases ev
            have hk0 : k0 < N := by rw [← unhide hNN]; exact (unhide hG).wi.rng k0 List.mem_cons_self
            obtain ⟨t, ht⟩ : ∃ t, bl[k0]? = some t := ⟨_, List.getElem?_eq_getElem (by rw [unhide hNN]; exact hk0)⟩
            have hwj := (unhide hG).wi.pop ht
            have hmu := (unhide hG).mu
            have hgl := (unhide hG).gl
            obtain ⟨RL, hRL⟩ : ∃ z, Hid (r.length = z) := ⟨_, hide rfl⟩
            have hkw : k0 < wts.length := by rw [(unhide hG).wm.lw]; exact hk0
            obtain ⟨bt, hbt⟩ : ∃ b, wts[k0]? = some b := ⟨_, List.getElem?_eq_getElem hkw⟩
            obtain ⟨m1, m2, m3⟩ := hpop.atT hbt
            have hset := hpop.setT hk0 false
            rw [← wtf_set hkw] at hwj
            obtain ⟨A, hA⟩ : ∃ A, As[k0]? = some A := ⟨_, List.getElem?_eq_getElem (by rw [hpop.la]; exact hk0)⟩
            rw [Bof_at hA] at hwj
            rw [unhide hRL] at hset hr1 hcase ⊢
            obtain ⟨X1, hX1⟩ : ∃ X1, Hid (wr.setCell ⟨m, k0, none⟩ (.bool false) = X1) := ⟨_, hide rfl⟩
            rw [unhide hX1] at hset
            have hX1' := unhide hX1
            obtain ⟨s0, d0, d1, d2, d3, d4, d5, d6, d7⟩ := hset.atA hA
            have hOA : OkW A := hset.ok A (List.mem_of_getElem? hA)
            have k00 : (0 : Int) ≤ (k0 : Int) := by omega
            have k01 : (k0 : Int) < (N : Int) := by omega
            have k02 : k0 < N := hk0
            have hX1s : X1.heap.size = wr.heap.size := by rw [← hX1']; simp [World.setCell]
            obtain ⟨p, hp⟩ : ∃ p, Hid (X1.heap.size = p) := ⟨_, hide rfl⟩
            have hp' := unhide hp
            obtain ⟨W, hW⟩ : ∃ W, Hid (X1.alloc (.cells #[.int .u64 (A 0), .int .u64 (A 1), .int .u64 (A 2), .int .u64 (A 3), .int .u64 (A 4), .int .u64 (A 5), .int .u64 (A 6), .int .u64 (A 7)] 62) = W) := ⟨_, hide rfl⟩
            have hW' := unhide hW
            have hbW : Below X1.heap.size X1 W := by rw [← hW']; exact box1n X1 _
            have hnW : W.heap[p]? = some (.cells (wdA A) 62) := by rw [← hW', ← hp']; exact heap_alloc_new X1 _
            have hmp : m < p := by rw [← hp', hX1s]; exact m1
            have hgp : wg < p := by rw [← hp', hX1s]; exact hwg
            have hwp : w.heap.size ≤ p := by rw [← hp']; exact hset.bel.size
            have hWM := hset.on hbW
            obtain ⟨tb, tof, tc, tr, te, htb, hDt, hPt, htc⟩ := NV.at zBk (unhide HV) ht
            rw [unhide hNN] at te
            cases te
            obtain ⟨tpc, tiv, tnv⟩ := tr
            obtain ⟨p1, p2, p3⟩ := hPt
            simp only at p1 p2 p3
            obtain ⟨ia, ic, rfl, _, _⟩ := NV.shape p2
            have tl : tb < W.heap.size := Nat.lt_of_lt_of_le htb hWM.bel.size
            have t1 : W.cell? ⟨tb, tof + k0 * 3 + 1, none⟩ = some (.slice ia t.ins.length ic) := (hWM.bel.cell (p := ⟨tb, tof + k0 * 3 + 1, none⟩) htb).trans (htc 1 _ rfl)
            obtain ⟨IL, hIL⟩ : ∃ z, Hid (t.ins.length = z) := ⟨_, hide rfl⟩
            have HGB := hide (goBack_any (D := fun k => k < w.heap.size) (InsV.mv _ _ (fun _ => False) w W t.ins _ p2 (Fr.of_below hWM.bel) (fun k hk d => ⟨fun q => q, d⟩)) (fun k hk => by have hk2 : k < w.heap.size := hk; omega) (⟨A, hOA, hnW, rfl⟩ : SB W p (sS A)) (unhide HI t (List.mem_of_getElem? ht)))
            rw [unhide hIL] at t1 HGB
            obtain ⟨dl, hdl⟩ : ∃ l, us[k0]? = some l := ⟨_, List.getElem?_eq_getElem (by rw [(unhide HLO).len, unhide hNN]; exact hk0)⟩
            have HWM := hide hWM
            have HWJ := hide hwj
            have HT := hide ht
            have HMU : Hid (muW N (Bof As) RL + 1 ≤ gk ∧ gk ≤ 1074790400) := ⟨by have h := hmu; unfold muW at h ⊢; simp only [List.length_cons, unhide hRL] at h; omega, hgl⟩
            clear hset hbW hnW hWM hwj ht htc p1 p2 p3 hDt hpop hbt hmu hgl hG hkw hX1s
            obtain ⟨G, hG0⟩ : ∃ z, Hid (gk - 1 = z) := ⟨_, hide rfl⟩
            rcases hcase with ⟨rfl, rfl, rfl, rfl⟩ | ⟨hne1, rfl, rfl⟩
            all_goals (
            go_wp2_with fail
            refine (unhide HGB).mono ?_
            rintro e Y ⟨⟨v2, rfl⟩, f2, hSB⟩
            obtain ⟨C, hOC, hCb, hCS⟩ := hSB
            have hWMY := (unhide HWM).frx f2 (fun k e => by have e2 : k = p := e; subst e2; exact ⟨by omega, by omega, fun q => by have := own_eq q; omega⟩)
            obtain ⟨lx, l1, l2, l3, l4⟩ := hWMY.atL hdl
            obtain ⟨xa, xc, rfl, hx1, hx2⟩ := l3.shape
            unfold maxLen at hx2
            have HZ : Hid (WZ w N lm m us xs p C (.slice xa dl.length xc) dl _ As r (wts.set k0 false) Y) := ⟨hWMY, hCb, fun q => by have := own_eq q; omega, hmp, l3, fun k hk => l4 k hk⟩
            have HWJ2 := unhide HWJ
            rw [← hCS] at HWJ2
            have HWJ2 := hide HWJ2
            have HDL := hide hdl
            obtain ⟨DL, hDL⟩ : ∃ z, Hid (dl.length = z) := ⟨_, hide rfl⟩
            rw [unhide hDL] at l2 HZ hx1
            have HM2 : Hid (muW N (Bof As) r.length ≤ G ∧ G + 1 ≤ 1074790400 ∧ G < gk) := by have h1 := unhide HMU; have h2 := unhide hG0; unfold Hid; rw [unhide hRL]; omega
            clear hWMY f2 hCb l3 l4 HWM HWJ HGB hdl hCS d0 d1 d2 d3 d4 d5 d6 d7 s0 hc0 hwg m1 m2 m3 t1 tl hA hW' hW hX1' hX1 hp' hp
            go_wp2_with fail
            go_loopg [67, 5] DL (fun gg t67 t5 wr => ∃ (j : Nat) (ga : Option Addr) (gn gc : Nat) (As : List Wd) (wl : List Nat) (wts : List Bool), Hid (j + gg = DL) ∧ t67 = .int .i64 (j : Int) ∧ t5 = .slice ga gn gc ∧ Hid (gn = wl.length) ∧ Hid (WJ bl k0 (sS C) ((dl.take j).map Int.toNat) (Bof As) wl (wtf wts)) ∧ Hid (muW N (Bof As) wl.length ≤ G) ∧ Hid (WZ w N lm m us xs p C (.slice xa DL xc) dl (.slice ga gn gc) As wl wts wr))
            case atStart => exact ⟨0, _, _, _, _, _, _, by unfold Hid; omega, rfl, rfl, hide (unhide hRL).symm, by simpa using HWJ2, hide (unhide HM2).1, HZ⟩
            case round =>
              clear HZ HWJ2 l1 l2
              obtain ⟨j, ga, gn, gc, As, wl, wts, hj, rfl, rfl, hgn2, HWJ, HMJ, HZ⟩ := hrel
              by_cases hjl : j < DL
              · have HJN : Hid (j + 1 + (gk - 1) = DL) := by have h1 := unhide hj; unfold Hid; clear HMJ HWJ HZ; omega
                have HJM : Hid (gk - 1 < gk) := by have h1 := unhide hj; unfold Hid; clear HMJ HWJ HZ; omega
                have j0 : (0 : Int) ≤ (j : Int) := by omega
                have j1 : (j : Int) < (DL : Int) := by omega
                obtain ⟨d, hd⟩ : ∃ d, dl[j]? = some d := ⟨_, List.getElem?_eq_getElem (by rw [unhide hDL]; exact hjl)⟩
                obtain ⟨f, u, rfl, hu, hf⟩ := (unhide HLO).snd k0 dl (unhide HDL) d (List.mem_of_getElem? hd)
                obtain ⟨xb, xo, xc2, xe, y1, y2⟩ := (unhide HZ).atD hd
                rw [unhide hDL] at xe
                cases xe
                have hfN : f < N := by rw [← unhide hNN]; exact (List.getElem?_eq_some_iff.1 hu).1
                obtain ⟨A2, hA2⟩ : ∃ A, As[f]? = some A := ⟨_, List.getElem?_eq_getElem (by rw [(unhide HZ).wm.la]; exact hfN)⟩
                have hO2 : OkW A2 := (unhide HZ).wm.ok A2 (List.mem_of_getElem? hA2)
                have f0 : (0 : Int) ≤ (f : Int) := by omega
                have f1 : (f : Int) < (N : Int) := by omega
                have HA2 := hide hA2
                have HD := hide hd
                have HU := hide hu
                have HF := hide hf
                clear hA2 hd hu hf
                go_wp2_with fail
                clear y1 y2
                go_cut [12] from 71 to 76 (fun s12 V => ∃ d : Nat, s12 = .pointer (some ⟨d, 0, none⟩) ∧ Hid (wr.heap.size ≤ d ∧ Below wr.heap.size wr V ∧ V.heap[d]? = some (.cells (wdA (orW A2 C)) 62)))
                case first =>
                  have HS0 : Hid (Below wr.heap.size wr wr.drew) := bl_drew wr
                  have HCS : Hid (∀ V, Below wr.heap.size wr V → (WZ w N lm m us xs p C (.slice (some ⟨xb, xo, none⟩) DL xc) dl (.slice ga gn gc) As wl wts V)) := fun V hV => (unhide HZ).on hV
                  have HJ : Hid (∀ V, Calls Tryd.prog 43 #[stV A2, stV C] V fun e w' => e = .returned (.agg #[.int .u64 (orW A2 C 0 : Nat), .int .u64 (orW A2 C 1 : Nat), .int .u64 (orW A2 C 2 : Nat), .int .u64 (orW A2 C 3 : Nat), .int .u64 (orW A2 C 4 : Nat), .int .u64 (orW A2 C 5 : Nat), .int .u64 (orW A2 C 6 : Nat), .int .u64 (orW A2 C 7 : Nat)]) ∧ Below V.heap.size V w') := fun V => join_any hO2 hOC
                  refine wp_region_held_drew (S := fun V => Below wr.heap.size wr V) (by kernel_rfl) (unhide HS0) (fun hHeld => ?_)
                  clear hHeld
                  refine wpAnyH_take (i := 0) (oi := _) (v := .slice (some ⟨w.heap.size, 0, none⟩) N N) rfl (by kernel_rfl) (by kernel_rfl) (by kernel_rfl) (fun _ _ _ h => h) (Or.inl ⟨by rfl, (by intro w' _; go_simp)⟩) (unhide HS0) ?_
                  go_simp
                  refine wpAnyH_take (i := 1) (oi := _) (v := .int .i64 (f : Int)) rfl (by kernel_rfl) (by kernel_rfl) (by kernel_rfl) (fun _ _ _ h => h) (Or.inl ⟨by rfl, (by intro w' _; go_simp)⟩) (unhide HS0) ?_
                  go_simp
                  refine wpAnyH_take (i := 2) (oi := _) (v := .pointer (some ⟨w.heap.size, f * 8, none⟩)) rfl (by kernel_rfl) (by kernel_rfl) (by kernel_rfl) (fun _ _ _ h => h) (Or.inl ⟨by rfl, (by intro w' _; go_simp)⟩) (unhide HS0) ?_
                  go_simp
                  refine wpAnyH_take (i := 3) (oi := _) (v := .agg (wdA A2)) rfl (by kernel_rfl) (by kernel_rfl) (by kernel_rfl) (fun _ _ _ h => h) (Or.inl ⟨by rfl, (by intro w' hSw; obtain ⟨e0, a0, a1, a2, a3, a4, a5, a6, a7⟩ := (unhide HCS w' hSw).wm.atA (unhide HA2); go_simp; first | done | rfl)⟩) (unhide HS0) ?_
                  go_simp
                  refine wpAnyH_take (i := 4) (oi := _) (v := .agg (wdA C)) rfl (by kernel_rfl) (by kernel_rfl) (by kernel_rfl) (fun _ _ _ h => h) (Or.inl ⟨by rfl, (by intro w' hSw; obtain ⟨e0, a0, a1, a2, a3, a4, a5, a6, a7⟩ := (unhide HCS w' hSw).atC; go_simp; first | done | rfl)⟩) (unhide HS0) ?_
                  go_simp
                  refine wpAnyH_ready (rs := [5, 6]) (by kernel_rfl) (by simp) ?_
                  refine AllReadyH.cons (o := _) rfl (fun K hK => ?_) (AllReadyH.cons (o := _) rfl (fun K hK => ?_) AllReadyH.nil)
                  · go_simp
                    refine (unhide HJ _).mono ?_
                    rintro e w3 ⟨rfl, hb3⟩
                    have HB3 : Hid (Below wr.heap.size wr w3) := (unhide HS0).trans hb3
                    refine hK.out _ _ (unhide HB3) (fun hHeld => ?_)
                    clear hHeld hK K hb3
                    refine wpAnyH_ready (rs := [6]) (by kernel_rfl) (by simp) ?_
                    refine AllReadyH.cons (o := _) rfl (fun K hK => ?_) AllReadyH.nil
                    go_simp
                    obtain ⟨w4, hw4⟩ : ∃ w4, Hid (w3.alloc (Obj.cells #[.int .u64 0, .int .u64 0, .int .u64 0, .int .u64 0, .int .u64 0, .int .u64 0, .int .u64 0, .int .u64 0] 62) = w4) := ⟨_, hide rfl⟩
                    rw [unhide hw4]
                    have HB4 : Hid (Below wr.heap.size wr w4) := by rw [← unhide hw4]; exact (unhide HB3).trans ((box1n w3 _).mono (unhide HB3).size)
                    have HZB : Hid (w4.heap[w3.heap.size]? = some (.cells (wdA (fun _ => 0)) 62)) := by rw [← unhide hw4]; exact heap_alloc_new w3 _
                    have hle := (unhide HB3).size
                    refine hK.out _ _ (unhide HB4) (fun hHeld => ?_)
                    clear hHeld hK K hw4
                    obtain ⟨el, c0, c1, c2, c3, c4, c5, c6, c7⟩ := cells8 (unhide HZB)
                    have g0 := frz8 (unhide HZB) 0
                    have g1 := frz8 (unhide HZB) 1
                    have g2 := frz8 (unhide HZB) 2
                    have g3 := frz8 (unhide HZB) 3
                    have g4 := frz8 (unhide HZB) 4
                    have g5 := frz8 (unhide HZB) 5
                    have g6 := frz8 (unhide HZB) 6
                    have g7 := frz8 (unhide HZB) 7
                    refine wpAnyH_ready (rs := [7]) (by kernel_rfl) (by simp) ?_
                    refine AllReadyH.cons (o := _) rfl (fun K hK => ?_) AllReadyH.nil
                    go_simp
                    have HFB := hide (box8 (C := orW A2 C) (unhide HZB))
                    have HB5 := hide ((unhide HB4).trans ((unhide HFB).2.below (unhide HB4).size (fun k hk e => by omega)))
                    refine hK.out _ _ (unhide HB5) (fun hHeld => ?_)
                    clear hHeld hK K c0 c1 c2 c3 c4 c5 c6 c7 g0 g1 g2 g3 g4 g5 g6 g7
                    refine wpAnyH_done (by kernel_rfl) ?_ _
                    go_wp2_with fail
                    go_meet
                    case rel => exact ⟨_, rfl, hle, unhide HB5, (unhide HFB).1⟩
                  · go_simp
                    obtain ⟨w2, hw2⟩ : ∃ w2, Hid ((wr.alloc (Obj.cells #[.int .u64 0, .int .u64 0, .int .u64 0, .int .u64 0, .int .u64 0, .int .u64 0, .int .u64 0, .int .u64 0] 62)).drew = w2) := ⟨_, hide rfl⟩
                    rw [unhide hw2]
                    have HB2 : Hid (Below wr.heap.size wr w2) := by rw [← unhide hw2]; exact (bl_drew wr).trans (box1n wr.drew _)
                    have HZ2 : Hid (w2.heap[wr.heap.size]? = some (.cells (wdA (fun _ => 0)) 62)) := by rw [← unhide hw2]; exact heap_alloc_new wr.drew _
                    refine hK.out _ _ (unhide HB2) (fun hHeld => ?_)
                    clear hHeld hK K hw2
                    refine wpAnyH_ready (rs := [5]) (by kernel_rfl) (by simp) ?_
                    refine AllReadyH.cons (o := _) rfl (fun K hK => ?_) AllReadyH.nil
                    go_simp
                    refine (unhide HJ _).mono ?_
                    rintro e w4 ⟨rfl, hb4⟩
                    have HB4 : Hid (Below wr.heap.size wr w4) := (unhide HB2).trans (hb4.mono (unhide HB2).size)
                    have HZB : Hid (w4.heap[wr.heap.size]? = some (.cells (wdA (fun _ => 0)) 62)) := (hb4.block _ (Array.getElem?_eq_some_iff.1 (unhide HZ2)).1).trans (unhide HZ2)
                    have hle : wr.heap.size ≤ wr.heap.size := Nat.le_refl _
                    refine hK.out _ _ (unhide HB4) (fun hHeld => ?_)
                    clear hHeld hK K hb4
                    obtain ⟨el, c0, c1, c2, c3, c4, c5, c6, c7⟩ := cells8 (unhide HZB)
                    have g0 := frz8 (unhide HZB) 0
                    have g1 := frz8 (unhide HZB) 1
                    have g2 := frz8 (unhide HZB) 2
                    have g3 := frz8 (unhide HZB) 3
                    have g4 := frz8 (unhide HZB) 4
                    have g5 := frz8 (unhide HZB) 5
                    have g6 := frz8 (unhide HZB) 6
                    have g7 := frz8 (unhide HZB) 7
                    refine wpAnyH_ready (rs := [7]) (by kernel_rfl) (by simp) ?_
                    refine AllReadyH.cons (o := _) rfl (fun K hK => ?_) AllReadyH.nil
                    go_simp
                    have HFB := hide (box8 (C := orW A2 C) (unhide HZB))
                    have HB5 := hide ((unhide HB4).trans ((unhide HFB).2.below (unhide HB4).size (fun k hk e => by omega)))
                    refine hK.out _ _ (unhide HB5) (fun hHeld => ?_)
                    clear hHeld hK K c0 c1 c2 c3 c4 c5 c6 c7 g0 g1 g2 g3 g4 g5 g6 g7
                    refine wpAnyH_done (by kernel_rfl) ?_ _
                    go_wp2_with fail
                    go_meet
                    case rel => exact ⟨_, rfl, hle, unhide HB5, (unhide HFB).1⟩
                case rest =>
                  obtain ⟨d, rfl, HDV⟩ := hcut
                  have HZ1 := hide ((unhide HZ).on (unhide HDV).2.1)
                  clear HZ
                  go_wp2_with fail
                  have HS0 : Hid (Below wc.heap.size wc wc.drew) := bl_drew wc
                  have HCS : Hid (∀ V, Below wc.heap.size wc V → (WZ w N lm m us xs p C (.slice (some ⟨xb, xo, none⟩) DL xc) dl (.slice ga gn gc) As wl wts V ∧ V.heap[d]? = some (.cells (wdA (orW A2 C)) 62))) := fun V hV => ⟨(unhide HZ1).on hV, (hV.block _ (Array.getElem?_eq_some_iff.1 (unhide HDV).2.2).1).trans (unhide HDV).2.2⟩
                  by_cases hsame : ∀ k, k < 8 → orW A2 C k = A2 k
                  · have HSA := hide hsame
                    clear hsame
                    refine wp_region_held_drew (S := fun V => Below wc.heap.size wc V) (by kernel_rfl) (unhide HS0) (fun hHeld => ?_)
                    clear hHeld
                    refine wpAnyH_take (i := 0) (oi := _) (v := .agg (wdA (orW A2 C))) rfl (by kernel_rfl) (by kernel_rfl) (by kernel_rfl) (fun _ _ _ h => h) (Or.inl ⟨by rfl, (by intro w' hSw; obtain ⟨e0, a0, a1, a2, a3, a4, a5, a6, a7⟩ := cells8 (unhide HCS w' hSw).2; go_simp; first | done | rfl)⟩) (unhide HS0) ?_
                    go_simp
                    refine wpAnyH_take (i := 1) (oi := _) (v := .slice (some ⟨w.heap.size, 0, none⟩) N N) rfl (by kernel_rfl) (by kernel_rfl) (by kernel_rfl) (fun _ _ _ h => h) (Or.inl ⟨by rfl, (by intro w' hSw; go_simp; first | done | rfl)⟩) (unhide HS0) ?_
                    go_simp
                    refine wpAnyH_take (i := 2) (oi := _) (v := .int .i64 (f : Int)) rfl (by kernel_rfl) (by kernel_rfl) (by kernel_rfl) (fun _ _ _ h => h) (Or.inl ⟨by rfl, (by intro w' hSw; go_simp; first | done | rfl)⟩) (unhide HS0) ?_
                    go_simp
                    refine wpAnyH_take (i := 3) (oi := _) (v := .pointer (some ⟨w.heap.size, f * 8, none⟩)) rfl (by kernel_rfl) (by kernel_rfl) (by kernel_rfl) (fun _ _ _ h => h) (Or.inl ⟨by rfl, (by intro w' hSw; go_simp; first | done | rfl)⟩) (unhide HS0) ?_
                    go_simp
                    refine wpAnyH_take (i := 4) (oi := _) (v := .agg (wdA A2)) rfl (by kernel_rfl) (by kernel_rfl) (by kernel_rfl) (fun _ _ _ h => h) (Or.inl ⟨by rfl, (by intro w' hSw; obtain ⟨e0, a0, a1, a2, a3, a4, a5, a6, a7⟩ := (unhide HCS w' hSw).1.wm.atA (unhide HA2); go_simp; first | done | rfl)⟩) (unhide HS0) ?_
                    go_simp
                    refine wpAnyH_take (i := 5) (oi := _) (v := .bool true) rfl (by kernel_rfl) (by kernel_rfl) (by kernel_rfl) (fun _ _ _ h => h) (Or.inl ⟨by rfl, (by intro w' hSw; have heq := eqSet (orW A2 C) A2 w' (unhide HSA); go_simp)⟩) (unhide HS0) ?_
                    go_simp
                    refine wpAnyH_done (by kernel_rfl) ?_ _
                    have HZ2 := hide ((unhide HZ1).on (bl_drew wc))
                    have HWJ2 : Hid (WJ bl k0 (sS C) ((dl.take (j + 1)).map Int.toNat) (Bof As) wl (wtf wts)) := by
                      have h1 := (unhide HWJ).same (f := f) (by
                        rw [Bof_at (unhide HA2), ← sS_join]
                        exact sS_congr (unhide HSA))
                      rw [take_push (unhide HD), List.map_append]
                      exact h1
                    clear HSA HCS HS0 HZ1 HWJ HDV
                    go_wp2_with fail
                    go_roundg (gk - 1)
                    case measure => exact unhide HJM
                    case rel => exact ⟨j + 1, ga, gn, gc, As, wl, wts, HJN, by go_num, rfl, hgn2, HWJ2, HMJ, HZ2⟩
                  · have HSA := hide hsame
                    clear hsame
                    refine wp_region_held_drew (S := fun V => Below wc.heap.size wc V) (by kernel_rfl) (unhide HS0) (fun hHeld => ?_)
                    clear hHeld
                    refine wpAnyH_take (i := 0) (oi := _) (v := .agg (wdA (orW A2 C))) rfl (by kernel_rfl) (by kernel_rfl) (by kernel_rfl) (fun _ _ _ h => h) (Or.inl ⟨by rfl, (by intro w' hSw; obtain ⟨e0, a0, a1, a2, a3, a4, a5, a6, a7⟩ := cells8 (unhide HCS w' hSw).2; go_simp; first | done | rfl)⟩) (unhide HS0) ?_
                    go_simp
                    refine wpAnyH_take (i := 1) (oi := _) (v := .slice (some ⟨w.heap.size, 0, none⟩) N N) rfl (by kernel_rfl) (by kernel_rfl) (by kernel_rfl) (fun _ _ _ h => h) (Or.inl ⟨by rfl, (by intro w' hSw; go_simp; first | done | rfl)⟩) (unhide HS0) ?_
                    go_simp
                    refine wpAnyH_take (i := 2) (oi := _) (v := .int .i64 (f : Int)) rfl (by kernel_rfl) (by kernel_rfl) (by kernel_rfl) (fun _ _ _ h => h) (Or.inl ⟨by rfl, (by intro w' hSw; go_simp; first | done | rfl)⟩) (unhide HS0) ?_
                    go_simp
                    refine wpAnyH_take (i := 3) (oi := _) (v := .pointer (some ⟨w.heap.size, f * 8, none⟩)) rfl (by kernel_rfl) (by kernel_rfl) (by kernel_rfl) (fun _ _ _ h => h) (Or.inl ⟨by rfl, (by intro w' hSw; go_simp; first | done | rfl)⟩) (unhide HS0) ?_
                    go_simp
                    refine wpAnyH_take (i := 4) (oi := _) (v := .agg (wdA A2)) rfl (by kernel_rfl) (by kernel_rfl) (by kernel_rfl) (fun _ _ _ h => h) (Or.inl ⟨by rfl, (by intro w' hSw; obtain ⟨e0, a0, a1, a2, a3, a4, a5, a6, a7⟩ := (unhide HCS w' hSw).1.wm.atA (unhide HA2); go_simp; first | done | rfl)⟩) (unhide HS0) ?_
                    go_simp
                    refine wpAnyH_take (i := 5) (oi := _) (v := .bool false) rfl (by kernel_rfl) (by kernel_rfl) (by kernel_rfl) (fun _ _ _ h => h) (Or.inl ⟨by rfl, (by intro w' hSw; have heq := eqSet_no (orW A2 C) A2 w' (unhide HSA); go_simp)⟩) (unhide HS0) ?_
                    go_simp
                    refine wpAnyH_done (by kernel_rfl) ?_ _
                    obtain ⟨X, hX⟩ : ∃ X, Hid (wc.drew = X) := ⟨_, hide rfl⟩
                    rw [unhide hX]
                    have hzX : WZ w N lm m us xs p C (.slice (some ⟨xb, xo, none⟩) DL xc) dl (.slice ga gn gc) As wl wts X := by rw [← unhide hX]; exact (unhide HZ1).on (bl_drew wc)
                    have hdX : X.heap[d]? = some (.cells (wdA (orW A2 C)) 62) := by rw [← unhide hX]; exact (unhide HDV).2.2
                    obtain ⟨e0, a0, a1, a2, a3, a4, a5, a6, a7⟩ := hzX.wm.atA (unhide HA2)
                    obtain ⟨e8, b0, b1, b2, b3, b4, b5, b6, b7⟩ := cells8 hdX
                    have z0 := hzX.wm.frA (f * 8)
                    have z1 := hzX.wm.frA (f * 8 + 1)
                    have z2 := hzX.wm.frA (f * 8 + 2)
                    have z3 := hzX.wm.frA (f * 8 + 3)
                    have z4 := hzX.wm.frA (f * 8 + 4)
                    have z5 := hzX.wm.frA (f * 8 + 5)
                    have z6 := hzX.wm.frA (f * 8 + 6)
                    have z7 := hzX.wm.frA (f * 8 + 7)
                    have hset := hzX.wm.setA hfN (hO2.or hOC)
                    obtain ⟨X2, hX2⟩ : ∃ X2, Hid (((((((((X.setCell ⟨w.heap.size, f * 8, none⟩ (.int .u64 (orW A2 C 0 : Nat))).setCell ⟨w.heap.size, f * 8 + 1, none⟩ (.int .u64 (orW A2 C 1 : Nat))).setCell ⟨w.heap.size, f * 8 + 2, none⟩ (.int .u64 (orW A2 C 2 : Nat))).setCell ⟨w.heap.size, f * 8 + 3, none⟩ (.int .u64 (orW A2 C 3 : Nat))).setCell ⟨w.heap.size, f * 8 + 4, none⟩ (.int .u64 (orW A2 C 4 : Nat))).setCell ⟨w.heap.size, f * 8 + 5, none⟩ (.int .u64 (orW A2 C 5 : Nat))).setCell ⟨w.heap.size, f * 8 + 6, none⟩ (.int .u64 (orW A2 C 6 : Nat))).setCell ⟨w.heap.size, f * 8 + 7, none⟩ (.int .u64 (orW A2 C 7 : Nat))) = X2) := ⟨_, hide rfl⟩
                    rw [unhide hX2] at hset
                    have hfX : Fr (fun k => k = w.heap.size) X X2 := by
                      rw [← unhide hX2]
                      refine Fr.setCell (S := fun k => k = w.heap.size) ?_ ⟨_, _, none⟩ (.inr rfl) _
                      refine Fr.setCell (S := fun k => k = w.heap.size) ?_ ⟨_, _, none⟩ (.inr rfl) _
                      refine Fr.setCell (S := fun k => k = w.heap.size) ?_ ⟨_, _, none⟩ (.inr rfl) _
                      refine Fr.setCell (S := fun k => k = w.heap.size) ?_ ⟨_, _, none⟩ (.inr rfl) _
                      refine Fr.setCell (S := fun k => k = w.heap.size) ?_ ⟨_, _, none⟩ (.inr rfl) _
                      refine Fr.setCell (S := fun k => k = w.heap.size) ?_ ⟨_, _, none⟩ (.inr rfl) _
                      refine Fr.setCell (S := fun k => k = w.heap.size) ?_ ⟨_, _, none⟩ (.inr rfl) _
                      exact Fr.setCell (S := fun k => k = w.heap.size) (Fr.refl _ _) ⟨_, _, none⟩ (.inr rfl) _
                    have hz2 := hzX.of hfX (fun k e => .inl (by have e2 : k = w.heap.size := e; omega)) hset
                    have hfl : f < As.length := by rw [hzX.wm.la]; exact hfN
                    obtain ⟨bf, hbf⟩ : ∃ b, wts[f]? = some b := ⟨_, List.getElem?_eq_getElem (by rw [hzX.wm.lw]; exact hfN)⟩
                    obtain ⟨v1, v2, v3⟩ := hset.atT hbf
                    have HNE : Hid (orS (Bof As f) (sS C) ≠ Bof As f) := fun e => by
                      rw [Bof_at (unhide HA2), ← sS_join] at e
                      exact unhide HSA (sS_inj (hO2.or hOC) hO2 e)
                    have HMU2 : Hid (muW N (Bof (As.set f (orW A2 C))) (wl.length + 1) < muW N (Bof As) wl.length) := by
                      have h1 := muW_up (L := N) (B := Bof As) (f := f) (ah := sS C) (work := wl.length) hfN (by rw [Bof_at (unhide HA2), ← sS_join]; exact sS_sup (orW A2 C)) (unhide HNE)
                      have h2 : orS (Bof As f) (sS C) = sS (orW A2 C) := by rw [Bof_at (unhide HA2), ← sS_join]; rfl
                      unfold Hid
                      rw [Bof_set hfl, ← h2]
                      exact h1
                    have HBS : Hid (Bof (As.set f (orW A2 C)) = updN (Bof As) f (orS (Bof As f) (sS C))) := by
                      have h2 : orS (Bof As f) (sS C) = sS (orW A2 C) := by rw [Bof_at (unhide HA2), ← sS_join]; rfl
                      unfold Hid
                      rw [Bof_set hfl, h2]
                    have hX2' := unhide hX2
                    have hwlen : wl.length ≤ 1074790400 := by
                      have h1 := unhide HMJ
                      have h2 := (unhide HM2).2.1
                      unfold muW at h1
                      omega
                    have HZ3 := hide hz2
                    have HBF := hide hbf
                    have hGN := unhide hgn2
                    clear hzX hset hz2 hfX HSA HCS HS0 HZ1 HDV hdX hfl hbf
                    cases bf with
                    | true =>
                      have HWJ2 : Hid (WJ bl k0 (sS C) ((dl.take (j + 1)).map Int.toNat) (Bof (As.set f (orW A2 C))) wl (wtf wts)) := by
                        have h3 : updN (wtf wts) f true = wtf wts := by
                          funext n
                          unfold updN
                          by_cases q : n = f
                          · rw [if_pos q, q, wtf_at (unhide HBF)]
                          · rw [if_neg q]
                        have h1 := (unhide HWJ).more (unhide HU) (unhide HF) (work' := wl) (fun n hn => .inl hn) (fun n hn => hn) ((unhide HWJ).wk f (wtf_at (unhide HBF)))
                        rw [h3] at h1
                        unfold Hid
                        rw [unhide HBS, take_push (unhide HD), List.map_append]
                        exact h1
                      have HMJ2 : Hid (muW N (Bof (As.set f (orW A2 C))) wl.length ≤ G) := by have h1 := unhide HMU2; have h2 := unhide HMJ; unfold Hid; unfold muW at h1 h2 ⊢; omega
                      clear HWJ HNE HBS HMU2 HMJ
                      go_wp2_with fail
                      go_roundg (gk - 1)
                      case measure => exact unhide HJM
                      case rel => exact ⟨j + 1, ga, gn, gc, _, wl, wts, HJN, by go_num, rfl, hgn2, HWJ2, HMJ2, HZ3⟩
                    | false =>
                      obtain ⟨va2, vc2, ya, yc, w1, q1, q2, q3⟩ := (unhide HZ3).push f (by omega)
                      cases q1
                      have hbf3 := unhide HBF
                      obtain ⟨t1, t2, t3⟩ := q3.wm.atT hbf3
                      have q4 := q3.wm.setT hfN true
                      have q5 : WZ w N lm m us xs p C (.slice (some ⟨xb, xo, none⟩) DL xc) dl (.slice ya (wl.length + 1) yc) (As.set f (orW A2 C)) (wl ++ [f]) (wts.set f true) (w1.setCell ⟨m, f, none⟩ (.bool true)) := q3.of (Fr.setCell (S := fun k => k = m) (Fr.refl _ w1) ⟨m, f, none⟩ (.inr rfl) _) (fun k e => .inr (by have e2 : k = m := e; have := q3.mp; omega)) q4
                      have HRUN := hide q2
                      have HZ5 := hide q5
                      have HWJ2 : Hid (WJ bl k0 (sS C) ((dl.take (j + 1)).map Int.toNat) (Bof (As.set f (orW A2 C))) (wl ++ [f]) (wtf (wts.set f true))) := by
                        have h1 := (unhide HWJ).more (unhide HU) (unhide HF) (work' := wl ++ [f]) (fun n hn => (List.mem_append.1 hn).imp id (fun q => by simpa using q)) (fun n hn => List.mem_append_left _ hn) (List.mem_append_right _ (by simp))
                        unfold Hid
                        rw [unhide HBS, take_push (unhide HD), List.map_append, wtf_set (List.getElem?_eq_some_iff.1 hbf3).1]
                        exact h1
                      have HMJ2 : Hid (muW N (Bof (As.set f (orW A2 C))) (wl ++ [f]).length ≤ G) := by have h1 := unhide HMU2; have h2 := unhide HMJ; unfold Hid; rw [List.length_append]; exact Nat.le_trans (Nat.le_of_lt h1) h2
                      have HGN : Hid (wl.length + 1 = (wl ++ [f]).length) := by unfold Hid; simp
                      clear HWJ HNE HBS HMU2 HMJ q2 q3 q4 q5
                      go_wp2_with (first | (at_builtin; refine wpList_appRunC rfl _ _ rfl rfl rfl (unhide HRUN) ?_))
                      go_roundg (gk - 1)
                      case measure => exact unhide HJM
                      case rel => exact ⟨j + 1, ya, _, yc, _, _, _, HJN, by go_num, rfl, HGN, HWJ2, HMJ2, HZ5⟩
              · have hjD : j = DL := by have := unhide hj; omega
                subst hjD
                have i1 : ¬ (j : Int) < (j : Int) := by omega
                have HX2 : Hid (WX w bl N lm m us xs G (.slice ga gn gc) As wl wts wr) := by
                  have hW := unhide HWJ
                  rw [List.take_of_length_le (by rw [unhide hDL]; exact Nat.le_refl _)] at hW
                  refine ⟨hW.close (fun b u hb hn => ?_), unhide HMJ, by have := (unhide HM2).2.1; omega, (unhide HZ).wm⟩
                  refine List.mem_map.2 ⟨(b : Int), (unhide HLO).cm1 k0 dl (unhide HDL) b u ?_ hb hn, by simp⟩
                  rw [← unhide hNN]
                  exact (List.getElem?_eq_some_iff.1 hb).1
                clear HWJ HMJ HZ
                go_wp2_with fail
                go_roundg G
                case measure => exact (unhide HM2).2.2
                case rel => exact ⟨ga, gn, gc, As, wl, wts, rfl, hgn2, HX2⟩
            )
end Go.Proofs.YtpbdmbmafjkinaaDoor
