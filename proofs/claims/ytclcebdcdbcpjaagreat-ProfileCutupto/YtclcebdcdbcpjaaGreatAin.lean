/-
  ApartInts.
-/
import Derived.Deep.RegionHeld3
import Derived.Test.YtclcebdcdbcpjaaGreatPMk
namespace Go.Proofs.YtclcebdcdbcpjaaGreat
open Go.RowKit
set_option linter.unusedVariables false
set_option linter.unusedSimpArgs false
set_option maxRecDepth 100000
theorem Tryz.info3 : (Tryz.prog.info? 3).map (fun i => (i.zero, i.size, i.bytes)) = some (some (.int .i64 0), 1, 8) := by kernel_rfl
def enN (x : Int) : List Value := [.int .i64 x]
theorem zN : ∀ p, (enN p).length = 1 := fun _ => rfl
theorem flt_map (xs : List Int) : flt enN xs = xs.map (Value.int .i64) := by
  induction xs with
  | nil => rfl
  | cons x r ih => simp only [flt, List.flatMap_cons, List.map_cons] at ih ⊢; rw [ih]; rfl
theorem Ro.putN {w : World} {n : Nat} {xs : List Int} {g off cap : Nat} (h : Ro w 1 (.slice (some ⟨g, off, none⟩) n cap) n (flt enN xs)) {i : Nat} (hi : i < n) (x : Int) :
    Ro (w.setCell ⟨g, off + i, none⟩ (.int .i64 x)) 1 (.slice (some ⟨g, off, none⟩) n cap) n (flt enN (xs.set i x)) := by
  have hl := h.1
  obtain ⟨_, _, e, hc, _⟩ := h.shape
  cases e
  rw [flt_map] at hl
  refine (h.sets (v := .slice (some ⟨g, off, none⟩) n cap) rfl (o := off + i) (m := n) (vs := [.int .i64 x]) (ys := flt enN (xs.set i x)) (by omega) (by simp; omega) hc (by rw [flt_map] ; simpa using hl) (fun j hj => ?_) (fun j hj q => by omega)).1
  rw [flt_map, flt_map, List.map_set]
  by_cases q : j = i
  · subst q
    rw [if_pos (by simp), List.getElem?_set_self (by omega)]
    simp
  · rw [if_neg (by simp; omega), List.getElem?_set_ne (by omega)]
theorem Tryz.info65 : (Tryz.prog.info? 65).map (fun i => (i.zero, i.size, i.bytes)) = some (some (.slice none 0 0), 1, 24) := by kernel_rfl
theorem Fr.step {S T : Nat → Prop} {a b c : World} (h : Fr S a b) (k : Fr T b c) (hs : ∀ i, i < a.heap.size → T i → S i) : Fr S a c :=
  ⟨k.os.trans h.os, k.tape.trans h.tape, k.output.trans h.output, Nat.le_trans h.size k.size,
    fun i hi hn => (k.block i (Nat.lt_of_lt_of_le hi h.size) (fun e => hn (hs i hi e))).trans (h.block i hi hn)⟩
theorem flt_enV (l : List Value) : flt enV l = l := by
  induction l with
  | nil => rfl
  | cons a r ih => rw [show a :: r = [a] ++ r from rfl, flt_append, ih, flt_one]; rfl

/-- append onto a row: the old one still reads; it is grown where it lies, or lies anew. -/
theorem Ro.appK {P : Program} {w : World} {v : Value} {n : Nat} {xs : List Value} (t ty e : TypeId) (i : TypeInfo) (z : Value) (size bytes : Nat) (ht : P.underlying t = some (.slice e)) (hi : P.info? e = some i) (hz : i.zero = some z)
    (hsize : i.size = size) (hby : i.bytes = bytes) (hzs : z.cells.size = size) (hsz : 0 < size) (h : Ro w size v n xs)
    (a : Addr) (m c : Nat) (news : List Value) (hl : news.length = m * size) (hnews : ∀ j u, news[j]? = some u → w.cell? (a.add j) = some u) (h1 : ∀ u ∈ news, u.oneCell' = true)
    (h0 : 0 < m) (h63 : n + m ≤ maxLen) (hbytes : (n + m) * bytes ≤ 140737488355328) :
    ∃ v' w', (Builtin.append_ #[t, t] ty #[v, .slice (some a) m c]).run P w = .ok v' w' ∧ Ro w' size v' (n + m) (xs ++ news) ∧ w.grownBy w' v.ownBlock ∧ ((∃ q d, v = .slice (some q) n d ∧ v' = .slice (some q) (n + m) d) ∨ v'.ownBlock = some w.heap.size) ∧ Ro w' size v n xs := by
  obtain ⟨v0, w0, hrun0, r1, r2, _⟩ := Ro.app (P := P) t ty e i z size bytes ht hi hz hsize hby hzs hsz h a m c news hl hnews h1 h0 h63 hbytes
  have hxl := h.1
  rcases h.2 with ⟨e2, h0n⟩ | ⟨g, off, cap, cur, t', e2, hh, h3, h4, h5, h6⟩
  · subst e2; subst h0n
    obtain rfl : xs = [] := List.eq_nil_of_length_eq_zero (by omega)
    have hr := run_append_nil (P := P) w t ty e i z ht hi hz a m c news (by rw [hsize]; exact hl) hnews h0 (by unfold maxLen at h63; omega) (by rw [hby]; simp only [Nat.zero_add] at hbytes; omega)
    rw [hr] at hrun0
    cases hrun0
    exact ⟨_, _, hr, r1, r2, .inr rfl, Ro.nil _ _⟩
  · subst e2
    by_cases hroom : n + m ≤ cap
    · have hfit : n * size + m * size ≤ cap * size := by rw [← Nat.add_mul]; exact Nat.mul_le_mul_right _ hroom
      have hr := run_append_room_cells (P := P) w t ty e i ht hi g off n cap a m c news (by rw [hsize]; exact hl) hnews h1 hroom (fun j hj => by
        rw [hsize, hl] at *
        have : off + n * size + j < cur.size := by omega
        simp [World.cell?, hh]
        omega) (fun j hj => by simp [World.frozen?, hh])
      rw [hsize] at hr
      rw [hr] at hrun0
      cases hrun0
      refine ⟨_, _, hr, r1, r2, .inl ⟨_, _, rfl, rfl⟩, ?_⟩
      exact (h.sets (v := .slice (some ⟨g, off, none⟩) n cap) rfl (o := off + n * size) (m := n) (vs := news) (ys := xs) (by omega) (by rw [hl]; omega) h3 hxl (fun j hj => by rw [if_neg (by omega)]) (fun j hj hq => by omega)).1
    · have hr := run_append_grow (P := P) w t ty e i z ht hi hz ⟨g, off, none⟩ n cap xs (by rw [hsize]; exact hxl) (fun j u hu => by
          have hj : j < n * size := by have := (List.getElem?_eq_some_iff.1 hu).1; omega
          rw [Go.WideShapes.add_plain, ← hu, ← h6 j hj]
          simp [World.cell?, hh]) a m c news (by rw [hsize]; exact hl) hnews (by omega) (by unfold maxLen at h63; omega) (by rw [hby]; exact growslice_fits (by omega) hbytes)
      rw [hr] at hrun0
      cases hrun0
      refine ⟨_, _, hr, r1, r2, .inr rfl, h.keep (fun k hk => ?_)⟩
      exact Below.heap_alloc _ _ _ (by have := h.lt k hk; simpa using this)

theorem wpList_appK {w : World} {ops : Array Oper} {rest : List Oper} {o : Oper} {a : Act} {Q : Exit → Act → World → Prop}
    (hg : o.guard = none) (s x : Operand) (hop : o.op = Op.call { callee := Callee.builtin Builtin.append, args := #[s, x], argTypes := #[65, 65] })
    (v : Value) (l : List Int) (hs : a.eval s = v) (hr : Ro w 1 v l.length (flt enN l)) (ad : Addr) (c : Nat) (k : Int) (hx : a.eval x = .slice (some ad) 1 c) (hc : ∀ j u, [Value.int .i64 k][j]? = some u → w.cell? (ad.add j) = some u)
    (hN : l.length < 17592186044416)
    (hK : ∀ v' w', Ro w' 1 v' (l.length + 1) (flt enN l ++ enN k) → w.grownBy w' v.ownBlock → ((∃ q d, v = .slice (some q) l.length d ∧ v' = .slice (some q) (l.length + 1) d) ∨ v'.ownBlock = some w.heap.size) → Ro w' 1 v l.length (flt enN l) → wpList Tryz.prog ops Q rest (a.put o.dst v') w') :
    wpList Tryz.prog ops Q (o :: rest) a w := by
  obtain ⟨i0, hi0, hz0, hz1, hz2⟩ := info_parts Tryz.info3
  refine wpList_plain hg fun K hK' => ?_
  obtain ⟨v', w', hrun, r1, r2, r3, r4⟩ := Ro.appK (P := Tryz.prog) 65 o.type 3 i0 _ 1 8 Tryz.underlying65 hi0 hz0 hz1 hz2 rfl (by decide) hr ad 1 c [.int .i64 k] rfl hc (by simp [Value.oneCell']) (by omega) (by unfold maxLen; omega) (by omega)
  unfold Oper.wp
  simp [execOp, hop, resolve, invoke, builtin, hs, hx, hrun, Result.andThen]
  exact hK' _ _ (hK v' w' r1 r2 r3 r4)

/-- The mark at place t of row j; the marks of a row. -/
def mi (j t : Nat) : Int := 1000003 * ((j : Int) + 1) + t
def ms (j n : Nat) : List Int := (List.range n).map (mi j)
theorem ms_length (j n : Nat) : (ms j n).length = n := by simp [ms]
theorem ms_succ (j n : Nat) : ms j (n + 1) = ms j n ++ [mi j n] := by simp [ms, List.range_succ]
theorem ms_at {j n t : Nat} (h : t < n) : (ms j n)[t]? = some (mi j t) := by simp [ms, h]
theorem ms_of (j n : Nat) (xs : List Int) (hl : xs.length = n) (h : ∀ t, t < n → xs[t]? = some (mi j t)) : xs = ms j n := by
  refine List.ext_getElem? fun t => ?_
  by_cases q : t < n
  · rw [h t q, ms_at q]
  · rw [List.getElem?_eq_none (by omega), List.getElem?_eq_none (by rw [ms_length]; omega)]
theorem ms_take {j n m : Nat} (h : n ≤ m) : (ms j m).take n = ms j n := by
  refine ms_of j n _ (by rw [List.length_take, ms_length]; omega) fun t ht => ?_
  rw [List.getElem?_take, if_pos ht, ms_at (by omega)]

abbrev nilS : Value := .slice none 0 0
/-- Row j. -/
abbrev rw_ (vs : List Value) (j : Nat) : Value := vs.getD j nilS
/-- The rows' blocks. -/
def bk (vs : List Value) (b : Nat) : Prop := ∃ j, j < vs.length ∧ (rw_ vs j).ownBlock = some b
def Apt (vs : List Value) : Prop := ∀ j j' b, j < vs.length → j' < vs.length → j ≠ j' → (rw_ vs j).ownBlock = some b → (rw_ vs j').ownBlock ≠ some b

/-- So many rows are marked, and so much of the next. -/
structure MK (w0 : World) (vs : List Value) (ns : Nat → Nat) (k i : Nat) (w : World) : Prop where
  own : ∀ j, j < vs.length → ∃ xs : List Int, xs.length = ns j ∧ Ro w 1 (rw_ vs j) (ns j) (flt enN xs) ∧ (j < k → ∀ t, t < ns j → xs[t]? = some (mi j t)) ∧ (j = k → ∀ t, t < i → xs[t]? = some (mi j t))
  fr : Fr (bk vs) w0 w
section
variable {w0 w w2 : World} {vs : List Value} {ns : Nat → Nat} {k i : Nat}
theorem MK.next (h : MK w0 vs ns k (ns k) w) : MK w0 vs ns (k + 1) 0 w := by
  refine ⟨fun j hj => ?_, h.fr⟩
  obtain ⟨xs, h1, h2, h3, h4⟩ := h.own j hj
  refine ⟨xs, h1, h2, fun q t ht => ?_, fun _ t ht => absurd ht (by omega)⟩
  by_cases e : j = k
  · subst e; exact h4 rfl t ht
  · exact h3 (by omega) t ht
theorem MK.fr2 {S : Nat → Prop} (h : MK w0 vs ns k i w) (f : Fr S w w2) (hn : ∀ b, bk vs b → ¬ S b) (hs : ∀ b, b < w0.heap.size → S b → bk vs b) : MK w0 vs ns k i w2 := by
  refine ⟨fun j hj => ?_, h.fr.step f hs⟩
  obtain ⟨xs, h1, h2, h3⟩ := h.own j hj
  exact ⟨xs, h1, h2.fr f (fun b hb => hn b ⟨j, hj, hb⟩), h3⟩
/-- Where the next mark goes. -/
theorem MK.cell (h : MK w0 vs ns k i w) (hk : k < vs.length) : ∃ a cap, rw_ vs k = .slice a (ns k) cap ∧ (i < ns k → ∃ g off z, a = some ⟨g, off, none⟩ ∧ (rw_ vs k).ownBlock = some g ∧ w.cell? ⟨g, off + i, none⟩ = some (.int .i64 z) ∧ w.frozen? ⟨g, off + i, none⟩ = false) := by
  obtain ⟨xs, h1, h2, h3, h4⟩ := h.own k hk
  obtain ⟨a, cap, e, _, _⟩ := h2.shape
  refine ⟨a, cap, e, fun hi => ?_⟩
  obtain ⟨g, off, cap', e', _, _, hg, hc⟩ := h2.full (by omega)
  rw [e] at e'
  cases e'
  obtain ⟨z, hz⟩ : ∃ z, xs[i]? = some z := ⟨_, List.getElem?_eq_getElem (by omega)⟩
  refine ⟨g, off, z, rfl, by rw [e]; rfl, ?_, h2.free e _⟩
  rw [hc i (by omega), flt_map, List.getElem?_map, hz]
  rfl
theorem MK.step {g off cap : Nat} (h : MK w0 vs ns k i w) (ha : Apt vs) (hk : k < vs.length) (hi : i < ns k) (hv : rw_ vs k = .slice (some ⟨g, off, none⟩) (ns k) cap) : MK w0 vs ns k (i + 1) (w.setCell ⟨g, off + i, none⟩ (.int .i64 (mi k i))) := by
  have hb : (rw_ vs k).ownBlock = some g := by rw [hv]; rfl
  refine ⟨fun j hj => ?_, h.fr.setCell _ (.inr ⟨k, hk, hb⟩) _⟩
  obtain ⟨xs, h1, h2, h3, h4⟩ := h.own j hj
  by_cases e : j = k
  · subst e
    refine ⟨xs.set i (mi j i), by rw [List.length_set]; exact h1, ?_, fun q => by omega, fun _ t ht => ?_⟩
    · rw [hv] at h2 ⊢
      exact Ro.putN h2 hi _
    · by_cases q : t = i
      · subst q; rw [List.getElem?_set_self (by omega)]
      · rw [List.getElem?_set_ne (by omega)]; exact h4 rfl t (by omega)
  · refine ⟨xs, h1, h2.keep (fun b hb2 => ?_), h3, fun q => absurd q e⟩
    exact Below.heap_setCell _ _ _ _ (fun q => ha j k b hj hk e hb2 (by rw [hb]; exact congrArg some q.symm))
end

/-- The one begins where the other does. -/
def pren (v u : Value) : Prop := ∃ a n c m d, v = .slice a n c ∧ u = .slice a m d
theorem pren.block {v u : Value} (h : pren v u) : v.ownBlock = u.ownBlock := by
  obtain ⟨a, n, c, m, d, rfl, rfl⟩ := h
  cases a <;> rfl
theorem Rx.pren {w w0 : World} {v u : Value} {n m : Nat} {ys zs : List Value} (h : Rx w 1 u m ys) (hp : pren v u) (h0 : Rx w0 1 v n zs) (hn : n ≤ m) (hy : ys.take n = zs) : Rx w 1 v n zs := by
  obtain ⟨a, n', c, m', d, rfl, rfl⟩ := hp
  obtain ⟨h1, a1, c1, e1, h2, h3, h4⟩ := h
  cases e1
  obtain ⟨k1, a2, c2, e2, k2, k3, k4⟩ := h0
  cases e2
  refine ⟨k1, a, c, rfl, k2, k3, fun hn0 => ?_⟩
  obtain ⟨b, off, e3, hb, hc⟩ := h4 (by omega)
  refine ⟨b, off, e3, hb, fun j hj => ?_⟩
  rw [hc j (by omega), ← hy, List.getElem?_take, if_pos (by omega)]


def updVn (f : Nat → Value) (k : Nat) (x : Value) : Nat → Value := fun j => if j = k then x else f j
theorem updVn_at (f : Nat → Value) (k : Nat) (x : Value) : updVn f k x k = x := if_pos rfl
theorem updVn_ne (f : Nat → Value) {k j : Nat} (x : Value) (h : j ≠ k) : updVn f k x j = f j := if_neg h
theorem updVn_range (f : Nat → Value) (k : Nat) (x : Value) : (List.range k).map (updVn f k x) = (List.range k).map f := by
  apply List.map_congr_left
  intro j hj
  rw [List.mem_range] at hj
  exact updVn_ne f x (by omega)

/-- How long row j is. -/
def glnn (ns : Nat → Nat) (k i j : Nat) : Nat := if j < k then ns j + 64 else if j = k then ns j + i else ns j
theorem glnn_at (ns : Nat → Nat) (k i : Nat) : glnn ns k i k = ns k + i := by unfold glnn; rw [if_neg (by omega), if_pos rfl]
theorem glnn_next (ns : Nat → Nat) (k j : Nat) : glnn ns k 64 j = glnn ns (k + 1) 0 j := by
  unfold glnn
  by_cases h : j < k
  · rw [if_pos h, if_pos (by omega)]
  · by_cases e : j = k
    · rw [if_neg h, if_pos e, if_pos (by omega)]
    · rw [if_neg h, if_neg e, if_neg (by omega)]
      split <;> omega
theorem glnn_step (ns : Nat → Nat) (k i j : Nat) (h : j ≠ k) : glnn ns k (i + 1) j = glnn ns k i j := by
  unfold glnn
  by_cases h1 : j < k
  · rw [if_pos h1, if_pos h1]
  · rw [if_neg h1, if_neg h1, if_neg h, if_neg h]

/-- What stays so. -/
structure GCn (w0 : World) (vs : List Value) : Prop where
  lt : ∀ b, bk vs b → b < w0.heap.size
  ap : Apt vs
/-- The rows up to k are grown, row k by i. -/
structure GR (w0 : World) (vs : List Value) (ns : Nat → Nat) (k i : Nat) (cur : Nat → Value) (gs : Value) (w : World) : Prop where
  own : ∀ j, j < vs.length → Ro w 1 (cur j) (glnn ns k i j) (flt enN (ms j (glnn ns k i j)))
  ap : ∀ j j' b, j < vs.length → j' < vs.length → j ≠ j' → (cur j).ownBlock = some b → (cur j').ownBlock ≠ some b
  old : ∀ j, j < vs.length → Rx w 1 (rw_ vs j) (ns j) (flt enN (ms j (ns j)))
  cor : ∀ j, j < vs.length → pren (rw_ vs j) (cur j) ∨ ∀ b, (cur j).ownBlock = some b → w0.heap.size ≤ b
  gown : Ro w 1 gs k ((List.range k).map cur)
  gge : ∀ b, gs.ownBlock = some b → w0.heap.size ≤ b
  gap : ∀ j b, j < vs.length → gs.ownBlock = some b → (cur j).ownBlock ≠ some b
  fr : Fr (bk vs) w0 w
section
variable {w0 w w2 : World} {vs : List Value} {ns : Nat → Nat} {k i : Nat} {cur : Nat → Value} {gs gs' v' : Value} {o : Obj}
theorem GR.lo (h : GR w0 vs ns k i cur gs w) {j b : Nat} (hj : j < vs.length) (hb : (cur j).ownBlock = some b) : (rw_ vs j).ownBlock = some b ∨ w0.heap.size ≤ b := by
  rcases h.cor j hj with q | q
  · exact .inl (q.block.trans hb)
  · exact .inr (q b hb)
theorem GR.alloc (h : GR w0 vs ns k i cur gs w) (o : Obj) : GR w0 vs ns k i cur gs (w.alloc o) := by
  have f : Fr (fun _ => False) w (w.alloc o) := (Fr.refl _ w).alloc o
  exact ⟨fun j hj => (h.own j hj).fr f (fun _ _ e => e), h.ap, fun j hj => (h.old j hj).fr f (fun _ _ e => e), h.cor, h.gown.fr f (fun _ _ e => e), h.gge, h.gap, h.fr.alloc o⟩
/-- A row is grown in place, or moved. -/
theorem GR.step (h : GR w0 vs ns k i cur gs w) (c : GCn w0 vs) (hk : k < vs.length)
    (hown : Ro w2 1 v' (ns k + (i + 1)) (flt enN (ms k (ns k + (i + 1))))) (hg : (w.alloc o).grownBy w2 (cur k).ownBlock)
    (hat : (∃ q d, cur k = .slice (some q) (ns k + i) d ∧ v' = .slice (some q) (ns k + i + 1) d) ∨ v'.ownBlock = some (w.heap.size + 1))
    (hR : Ro w2 1 (cur k) (ns k + i) (flt enN (ms k (ns k + i)))) : GR w0 vs ns k (i + 1) (updVn cur k v') gs w2 := by
  have hat2 : v'.ownBlock = (cur k).ownBlock ∨ v'.ownBlock = some (w.heap.size + 1) := by
    rcases hat with ⟨q, d, e1, e2⟩ | q
    · exact .inl (by rw [e1, e2]; rfl)
    · exact .inr q
  have f : Fr (fun b => (cur k).ownBlock = some b) w w2 := ((Fr.refl _ w).alloc o).grown hg (fun b e => .inr e)
  have hws := h.fr.size
  refine ⟨fun j hj => ?_, fun j j' b hj hj' hn h1 h2 => ?_, fun j hj => ?_, fun j hj => ?_, ?_, h.gge, fun j b hj hb e => ?_, ?_⟩
  · by_cases e : j = k
    · subst e
      rw [updVn_at, glnn_at]
      exact hown
    · rw [updVn_ne _ _ e, glnn_step _ _ _ _ e]
      exact (h.own j hj).fr f (fun b hb e2 => h.ap j k b hj hk e hb e2)
  · by_cases e : j = k
    · subst e
      rw [updVn_at] at h1
      rw [updVn_ne _ _ (fun e => hn e.symm)] at h2
      rcases hat2 with q | q
      · exact h.ap j j' b hj hj' hn (q.symm.trans h1) h2
      · have := (h.own j' hj').lt b h2
        rw [q] at h1
        simp at h1
        omega
    · rw [updVn_ne _ _ e] at h1
      by_cases e2 : j' = k
      · subst e2
        rw [updVn_at] at h2
        rcases hat2 with q | q
        · exact h.ap j j' b hj hj' hn h1 (q.symm.trans h2)
        · have := (h.own j hj).lt b h1
          rw [q] at h2
          simp at h2
          omega
      · rw [updVn_ne _ _ e2] at h2
        exact h.ap j j' b hj hj' hn h1 h2
  · by_cases e : j = k
    · subst e
      rcases h.cor j hj with q | q
      · refine (Rx.of_ro hR).pren q (h.old j hj) (by omega) ?_
        rw [flt_map, flt_map, ← List.map_take, ms_take (by omega)]
      · exact (h.old j hj).fr f (fun b hb e2 => by have := q b e2; have := c.lt b ⟨j, hj, hb⟩; omega)
    · refine (h.old j hj).fr f (fun b hb e2 => ?_)
      have hl := c.lt b ⟨j, hj, hb⟩
      rcases h.lo hk e2 with q | q
      · exact c.ap j k b hj hk e hb q
      · omega
  · by_cases e : j = k
    · subst e
      rw [updVn_at]
      rcases hat with ⟨q, d, e1, e2⟩ | q
      · rcases h.cor j hj with p | p
        · obtain ⟨a, n, c1, m, d1, p1, p2⟩ := p
          rw [e1] at p2
          cases p2
          exact .inl ⟨_, _, _, _, _, p1, e2⟩
        · exact .inr (fun b hb => p b (by rw [e1]; rw [e2] at hb; exact hb))
      · exact .inr (fun b hb => by rw [q] at hb; simp at hb; omega)
    · rw [updVn_ne _ _ e]
      exact h.cor j hj
  · rw [updVn_range]
    exact h.gown.fr f (fun b hb e => h.gap k b hk hb e)
  · by_cases e2 : j = k
    · subst e2
      rw [updVn_at] at e
      rcases hat2 with q | q
      · exact h.gap j b hj hb (q.symm.trans e)
      · have := h.gown.lt b hb
        rw [q] at e
        simp at e
        omega
    · rw [updVn_ne _ _ e2] at e
      exact h.gap j b hj hb e
  · refine (h.fr.alloc o).grown hg (fun b e => ?_)
    rcases h.lo hk e with q | q
    · exact .inr ⟨k, hk, q⟩
    · exact .inl q
/-- The grown row is laid behind the others. -/
theorem GR.push (h : GR w0 vs ns k 64 cur gs w) (c : GCn w0 vs)
    (hown : Ro w2 1 gs' (k + 1) ((List.range k).map cur ++ [cur k])) (hg : (w.alloc o).grownBy w2 gs.ownBlock) (hat : gs'.ownBlock = gs.ownBlock ∨ gs'.ownBlock = some (w.heap.size + 1)) : GR w0 vs ns (k + 1) 0 cur gs' w2 := by
  have f : Fr (fun b => gs.ownBlock = some b) w w2 := ((Fr.refl _ w).alloc o).grown hg (fun b e => .inr e)
  have hws := h.fr.size
  refine ⟨fun j hj => ?_, h.ap, fun j hj => ?_, h.cor, ?_, fun b hb => ?_, fun j b hj hb e => ?_, ?_⟩
  · rw [← glnn_next]
    exact (h.own j hj).fr f (fun b hb e => h.gap j b hj e hb)
  · exact (h.old j hj).fr f (fun b hb e => by have := h.gge b e; have := c.lt b ⟨j, hj, hb⟩; omega)
  · rw [List.range_succ, List.map_append]
    exact hown
  · rcases hat with q | q
    · exact h.gge b (q.symm.trans hb)
    · rw [q] at hb; simp at hb; omega
  · rcases hat with q | q
    · exact h.gap j b hj (q.symm.trans hb) e
    · have := (h.own j hj).lt b e
      rw [q] at hb
      simp at hb
      omega
  · exact (h.fr.alloc o).grown hg (fun b e => .inl (h.gge b e))
/-- Ahead of the first growing. -/
theorem GR.start (h : MK w0 vs ns vs.length 0 w) (c : GCn w0 vs) : GR w0 vs ns 0 0 (rw_ vs) nilS w := by
  have hg0 : ∀ j, glnn ns 0 0 j = ns j := fun j => by unfold glnn; rw [if_neg (by omega)]; split <;> omega
  have ho : ∀ j, j < vs.length → Ro w 1 (rw_ vs j) (ns j) (flt enN (ms j (ns j))) := fun j hj => by
    obtain ⟨xs, h1, h2, h3, _⟩ := h.own j hj
    rw [ms_of j (ns j) xs h1 (h3 hj)] at h2
    exact h2
  refine ⟨fun j hj => by rw [hg0]; exact ho j hj, c.ap, fun j hj => Rx.of_ro (ho j hj), fun j hj => ?_, Ro.nil _ _, fun b hb => by simp [Value.ownBlock] at hb, fun j b hj hb => by simp [Value.ownBlock] at hb, h.fr⟩
  obtain ⟨a, cap, e, _⟩ := (ho j hj).shape
  exact .inl ⟨a, _, cap, _, cap, e, e⟩
end
theorem rw_at {vs : List Value} {j : Nat} (h : j < vs.length) : vs[j]? = some (rw_ vs j) := by
  rw [rw_, List.getD_eq_getElem?_getD, List.getElem?_eq_getElem h]; rfl
/-- The list of the rows, where the rows don't lie. -/
theorem Rx.far {w : World} {a : Option Addr} {n cap : Nat} {vs : List Value} (h : Rx w 1 (.slice a n cap) vs.length vs) (hf : ∀ b, (Value.slice a n cap).ownBlock = some b → ¬ bk vs b) :
    ∀ j, j < vs.length → ∃ cb co, a = some ⟨cb, co, none⟩ ∧ cb < w.heap.size ∧ w.cell? ⟨cb, co + j, none⟩ = some (rw_ vs j) ∧ ¬ bk vs cb := by
  intro j hj
  obtain ⟨_, a', cap', e, _, _, h4⟩ := h
  cases e
  obtain ⟨b, off, e, hb, hc⟩ := h4 (by omega)
  subst e
  exact ⟨b, off, rfl, hb, (hc j (by omega)).trans (rw_at hj), hf b rfl⟩
theorem mi_eq (j t : Nat) : mi j t = 1000003 * ((j : Int) + 1) + (t : Int) := rfl

section
variable {B B2 : Nat} {w w' : World} {hv mv : Value} {n : Nat} {vs : List Value}
end
end Go.Proofs.YtclcebdcdbcpjaaGreat
