/-
  The instructions but moves, without operands.
-/
import Derived.Test.YtpbdpejhjdoleaaStp
import Derived.Test.YtpbdpejhjdoleaaSm3
namespace Go.Proofs.Ytpbdpejhjdoleaa
open Go.RowKit
set_option linter.unusedVariables false
set_option linter.unusedSimpArgs false
structure GS (w : World) (l : List RIn) (lv : Value) (rs : List InR) (wr : World) : Prop where
  bl : Below w.heap.size w wr
  len : rs.length = l.length
  row : Ro wr 8 lv l.length (flt enIn rs)
  rb : ∀ b, lv.ownBlock = some b → w.heap.size ≤ b
  el : ∀ (i : Nat) (x : RIn) (r : InR), l[i]? = some x → rs[i]? = some r → InP (fun k => w.heap.size ≤ k ∧ lv.ownBlock ≠ some k) wr x r
section
variable {w wr w' : World} {l : List RIn} {lv : Value} {rs : List InR}
theorem GS.on (h : GS w l lv rs wr) (b : Below wr.heap.size wr w') : GS w l lv rs w' := by
  have f : Fr (fun _ => False) wr w' := Fr.of_below b
  exact ⟨bl_past h.bl b, h.len, h.row.fr f (fun _ _ e => e), h.rb, fun i x r hx hr => InP.mv _ _ _ _ _ _ _ (h.el i x r hx hr) f (fun k _ e => ⟨fun q => q, e⟩)⟩
/-- One more: it lies in memory that is newer than the row. -/
theorem GS.push (h : GS w l lv rs wr) {x : RIn} {r : InR} {w1 w2 : World} {v' : Value} {m : Nat} (hb : Below wr.heap.size wr w1) (hx : InP (fun k => wr.heap.size ≤ k) w1 x r) (hr : Ro w2 8 v' m (flt enIn rs ++ enIn r)) (hm : m = l.length + 1) (hg : w1.grownBy w2 lv.ownBlock) (hat : v'.ownBlock = lv.ownBlock ∨ v'.ownBlock = some w1.heap.size) : GS w (l ++ [x]) v' (rs ++ [r]) w2 := by
  subst hm
  have h1 := h.on hb
  have hs := h.bl.size
  have hs1 := hb.size
  have f : Fr (fun k => lv.ownBlock = some k) w1 w2 := (Fr.refl _ w1).grown hg (fun k e => .inr e)
  have hlt : ∀ k, lv.ownBlock = some k → k < wr.heap.size := fun k hk => h.row.lt k hk
  have hmv : ∀ k, k < w1.heap.size → (w.heap.size ≤ k ∧ lv.ownBlock ≠ some k) → ¬ (lv.ownBlock = some k) ∧ (w.heap.size ≤ k ∧ v'.ownBlock ≠ some k) := fun k hk e => ⟨e.2, e.1, fun q => by
    rcases hat with a | a
    · rw [a] at q; exact e.2 q
    · rw [a] at q; have : w1.heap.size = k := Option.some.inj q; omega⟩
  refine ⟨h1.bl.trans (f.below h1.bl.size (fun k hk e => by have := h.rb k e; omega)), by simp [h.len], by rw [List.length_append, flt_append]; simpa [flt] using hr, fun b hb' => ?_, fun i y q hy hq => ?_⟩
  · rcases hat with a | a
    · rw [a] at hb'; exact h.rb b hb'
    · rw [a] at hb'; have : w1.heap.size = b := Option.some.inj hb'; omega
  · have hll := h.len
    by_cases c : i < l.length
    · rw [List.getElem?_append_left c] at hy
      rw [List.getElem?_append_left (by omega)] at hq
      exact InP.mv _ _ _ _ _ _ _ (h1.el i y q hy hq) f hmv
    · rw [List.getElem?_append_right (by omega)] at hy hq
      have hi : i - l.length = 0 := by have := (List.getElem?_eq_some_iff.1 hy).1; simp at this; omega
      rw [hi] at hy
      rw [hll, hi] at hq
      cases hy
      cases hq
      exact InP.mv _ _ _ _ _ _ _ hx f (fun k hk e => hmv k hk ⟨by omega, fun q => by have := hlt k q; omega⟩)
end
structure GH (w : World) (l : List Sh) (lv : Value) (rs : List ShR) (wr : World) : Prop where
  bl : Below w.heap.size w wr
  len : rs.length = l.length
  row : Ro wr 3 lv l.length (flt enSh rs)
  rb : ∀ b, lv.ownBlock = some b → w.heap.size ≤ b
  el : ∀ (i : Nat) (x : Sh) (r : ShR), l[i]? = some x → rs[i]? = some r → ShP (fun k => w.heap.size ≤ k ∧ lv.ownBlock ≠ some k) wr x r
section
variable {w wr w' : World} {l : List Sh} {lv : Value} {rs : List ShR}
theorem GH.on (h : GH w l lv rs wr) (b : Below wr.heap.size wr w') : GH w l lv rs w' := by
  have f : Fr (fun _ => False) wr w' := Fr.of_below b
  exact ⟨bl_past h.bl b, h.len, h.row.fr f (fun _ _ e => e), h.rb, fun i x r hx hr => ShP.mv _ _ _ _ _ _ _ (h.el i x r hx hr) f (fun k _ e => ⟨fun q => q, e⟩)⟩
/-- One more: it lies in memory that is newer than the row. -/
theorem GH.push (h : GH w l lv rs wr) {x : Sh} {r : ShR} {w1 w2 : World} {v' : Value} {m : Nat} (hb : Below wr.heap.size wr w1) (hx : ShP (fun k => wr.heap.size ≤ k) w1 x r) (hr : Ro w2 3 v' m (flt enSh rs ++ enSh r)) (hm : m = l.length + 1) (hg : w1.grownBy w2 lv.ownBlock) (hat : v'.ownBlock = lv.ownBlock ∨ v'.ownBlock = some w1.heap.size) : GH w (l ++ [x]) v' (rs ++ [r]) w2 := by
  subst hm
  have h1 := h.on hb
  have hs := h.bl.size
  have hs1 := hb.size
  have f : Fr (fun k => lv.ownBlock = some k) w1 w2 := (Fr.refl _ w1).grown hg (fun k e => .inr e)
  have hlt : ∀ k, lv.ownBlock = some k → k < wr.heap.size := fun k hk => h.row.lt k hk
  have hmv : ∀ k, k < w1.heap.size → (w.heap.size ≤ k ∧ lv.ownBlock ≠ some k) → ¬ (lv.ownBlock = some k) ∧ (w.heap.size ≤ k ∧ v'.ownBlock ≠ some k) := fun k hk e => ⟨e.2, e.1, fun q => by
    rcases hat with a | a
    · rw [a] at q; exact e.2 q
    · rw [a] at q; have : w1.heap.size = k := Option.some.inj q; omega⟩
  refine ⟨h1.bl.trans (f.below h1.bl.size (fun k hk e => by have := h.rb k e; omega)), by simp [h.len], by rw [List.length_append, flt_append]; simpa [flt] using hr, fun b hb' => ?_, fun i y q hy hq => ?_⟩
  · rcases hat with a | a
    · rw [a] at hb'; exact h.rb b hb'
    · rw [a] at hb'; have : w1.heap.size = b := Option.some.inj hb'; omega
  · have hll := h.len
    by_cases c : i < l.length
    · rw [List.getElem?_append_left c] at hy
      rw [List.getElem?_append_left (by omega)] at hq
      exact ShP.mv _ _ _ _ _ _ _ (h1.el i y q hy hq) f hmv
    · rw [List.getElem?_append_right (by omega)] at hy hq
      have hi : i - l.length = 0 := by have := (List.getElem?_eq_some_iff.1 hy).1; simp at this; omega
      rw [hi] at hy
      rw [hll, hi] at hq
      cases hy
      cases hq
      exact ShP.mv _ _ _ _ _ _ _ hx f (fun k hk e => hmv k hk ⟨by omega, fun q => by have := hlt k q; omega⟩)
end
def zOp : Op := ⟨0, 0⟩
def plS (s : Sh) : Sh := ⟨s.fn, s.pc, List.replicate s.sl.length zOp⟩
def plI (x : RIn) : RIn := ⟨x.op, x.code, x.dst, List.replicate x.args.length zOp, x.n, x.pc, x.need, x.ex.map plS⟩
/-- The instructions but moves, without operands. -/
def plP (l : List RIn) : List RIn := (l.filter (fun x => !(x.op == 1))).map plI
theorem plP_push {l : List RIn} {k : Nat} {x : RIn} (hx : l[k]? = some x) : plP (l.take (k + 1)) = if x.op = 1 then plP (l.take k) else plP (l.take k) ++ [plI x] := by
  rw [take_push hx]
  unfold plP
  rw [List.filter_append, List.map_append]
  by_cases h : x.op = 1
  · rw [if_pos h]; simp [h]
  · rw [if_neg h]; simp [h]
theorem made_at (z : Array Value) (m j : Nat) (hj : j < m) : (madeCells z m)[j]? = some (z[j % z.size]!) := by
  simp [madeCells, hj]
theorem size_mc (z : Array Value) (n : Nat) : (madeCells z n).size = n := by simp [madeCells]
theorem made_op (N : Nat) : (madeCells (Value.agg #[.int .i64 0, .int .i64 0]).cells (N * 2)).toList = flt enO (List.replicate N zOp) := by
  refine List.ext_getElem? (fun j => ?_)
  rw [Array.getElem?_toList]
  by_cases hj : j < N * 2
  · rw [made_at _ _ _ hj]
    have hq : j / 2 < N := by omega
    have ej : j = j / 2 * 2 + j % 2 := by omega
    conv => rhs; rw [ej]
    rw [flt_at zO (p := zOp) (by simp [hq]) (j % 2) (by omega)]
    rcases Nat.mod_two_eq_zero_or_one j with h | h <;> simp [h, Value.cells, enO, zOp]
  · rw [Array.getElem?_eq_none (by rw [size_mc]; omega), List.getElem?_eq_none (by rw [flt_length zO, List.length_replicate]; omega)]
theorem mkO {N : Nat} (hN : N ≤ 1048576) (W : World) : (Instr.makeSlice 47 (.int .i64 (N : Int)) (.int .i64 (N : Int))).run Try.prog W = .ok (.slice (some ⟨W.heap.size, 0, none⟩) N N) (W.alloc (.cells (madeCells (Value.agg #[.int .i64 0, .int .i64 0]).cells (N * 2)) 52)) := by
  obtain ⟨i0, hi0, hz0, hz1, hz2⟩ := info_parts infO
  have := run_make (P := Try.prog) W 47 52 i0 _ Try.underlying47 hi0 hz0 .i64 .i64 (N : Int) (N : Int) (by omega) (by omega) (by rw [hz2]; omega) (by omega)
  rw [hz1] at this
  simpa using this
theorem Rx.box1 {W : World} {p : Nat} {arr : Array Value} {t : TypeId} {sz n : Nat} (h : W.heap[p]? = some (.cells arr t)) (hs : arr.size = n * sz) (hn : n ≤ maxLen) : Rx W sz (.slice (some ⟨p, 0, none⟩) n n) n arr.toList := by
  obtain ⟨q1, q2, q3⟩ := blk_cells h
  exact ⟨by rw [Array.length_toList]; exact hs, _, n, rfl, Nat.le_refl _, hn, fun _ => ⟨p, 0, rfl, q3, fun j hj => by rw [Nat.zero_add, q1]; simp⟩⟩
/-- append of one, as a run. -/
theorem runSh {W : World} {v : Value} {n : Nat} {xs : List Value} {p : Nat} (r : ShR) (h : Ro W 3 v n xs) (hp : W.heap[p]? = some (.cells #[.int .i64 r.fn, .int .i64 r.pc, r.v] 65)) (h1 : r.v.oneCell' = true) (hn : n ≤ 1048576) (ty : TypeId) :
    ∃ v' w', (Builtin.append_ #[48, 48] ty #[v, .slice (some ⟨p, 0, none⟩) 1 1]).run Try.prog W = .ok v' w' ∧ Ro w' 3 v' (n + 1) (xs ++ enSh r) ∧ W.grownBy w' v.ownBlock ∧ (v'.ownBlock = v.ownBlock ∨ v'.ownBlock = some W.heap.size) :=
  Ro.appX (P := Try.prog) 48 ty 65 _ Try.underlying48 infSh rfl (by decide) h (Rx.box1 hp rfl (by unfold maxLen; omega)) (by intro u hu; simp only [enSh, List.mem_cons, List.not_mem_nil, or_false] at hu; rcases hu with rfl | rfl | rfl <;> first | rfl | exact h1) (by unfold maxLen; omega) (by omega)
theorem runIn {W : World} {v : Value} {n : Nat} {xs : List Value} {p : Nat} (r : InR) (h : Ro W 8 v n xs) (hp : W.heap[p]? = some (.cells #[.int .i64 r.op, .int .i64 r.code, .int .i64 r.dst, r.av, .int .i64 r.n, .int .i64 r.pc, .int .i64 r.need, r.ev] 50)) (h1 : r.av.oneCell' = true) (h2 : r.ev.oneCell' = true) (hn : n ≤ 1048576) (ty : TypeId) :
    ∃ v' w', (Builtin.append_ #[40, 40] ty #[v, .slice (some ⟨p, 0, none⟩) 1 1]).run Try.prog W = .ok v' w' ∧ Ro w' 8 v' (n + 1) (xs ++ enIn r) ∧ W.grownBy w' v.ownBlock ∧ (v'.ownBlock = v.ownBlock ∨ v'.ownBlock = some W.heap.size) :=
  Ro.appX (P := Try.prog) 40 ty 50 _ Try.underlying40 infIn rfl (by decide) h (Rx.box1 hp rfl (by unfold maxLen; omega)) (by intro u hu; simp only [enIn, List.mem_cons, List.not_mem_nil, or_false] at hu; rcases hu with rfl | rfl | rfl | rfl | rfl | rfl | rfl | rfl <;> first | rfl | exact h1 | exact h2) (by unfold maxLen; omega) (by omega)
end Go.Proofs.Ytpbdpejhjdoleaa
