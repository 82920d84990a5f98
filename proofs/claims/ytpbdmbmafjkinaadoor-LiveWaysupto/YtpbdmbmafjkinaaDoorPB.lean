/-
  Frames; rows; append; rows of one's own.
-/
import Derived.Test.YtpbdmbmafjkinaaDoorProg
import Derived.ArgAppend
import Derived.Below
import Derived.BigQuiet
import Derived.Deep.AppendLies
import Derived.Deep.Draws
import Derived.Deep.LoopGhost
import Derived.Deep.QuietTactic
import Derived.Deep.RegionHeld3
import Derived.Deep.RegionLaw
import Derived.Deep.Upon
import Derived.Handy
import Derived.KernelRfl
import Derived.Laws.NewBlocks
import Derived.Laws.Pointers
import Derived.Lib.SliceRun
import Derived.OwnWalk
import Derived.StillTactics
import Derived.WalkKit
import Derived.WalkLawsBesides
import Derived.WalkSpells
namespace Go.Proofs.YtpbdmbmafjkinaaDoor
open Go.RowKit
set_option linter.unusedVariables false
set_option linter.unusedSimpArgs false

set_option linter.unusedVariables false

def Hid (p : Prop) : Prop := p
theorem hide {p : Prop} (h : p) : Hid p := h
theorem unhide {p : Prop} (h : Hid p) : p := h

/-- From w to w' nothing has turned but the blocks of which S holds, and new ones. -/
structure Fr (S : Nat → Prop) (w w' : World) : Prop where
  os : w'.os = w.os
  tape : w'.tape = w.tape
  output : w'.output = w.output
  size : w.heap.size ≤ w'.heap.size
  block : ∀ k, k < w.heap.size → ¬ S k → w'.heap[k]? = w.heap[k]?

theorem Fr.refl (S : Nat → Prop) (w : World) : Fr S w w := ⟨rfl, rfl, rfl, Nat.le_refl _, fun _ _ _ => rfl⟩
theorem Fr.mono {S T : Nat → Prop} {w w' : World} (h : Fr S w w') (hs : ∀ k, k < w.heap.size → S k → T k) : Fr T w w' :=
  ⟨h.os, h.tape, h.output, h.size, fun k hk hn => h.block k hk (fun hS => hn (hs k hk hS))⟩
theorem Fr.trans {S : Nat → Prop} {a b c : World} (h : Fr S a b) (k : Fr S b c) : Fr S a c :=
  ⟨k.os.trans h.os, k.tape.trans h.tape, k.output.trans h.output, Nat.le_trans h.size k.size,
    fun i hi hn => (k.block i (Nat.lt_of_lt_of_le hi h.size) hn).trans (h.block i hi hn)⟩
theorem Fr.alloc {S : Nat → Prop} {a w : World} (h : Fr S a w) (o : Obj) : Fr S a (w.alloc o) :=
  ⟨h.os, h.tape, h.output, Nat.le_trans h.size (by simp), fun k hk hn => (Below.heap_alloc _ _ _ (Nat.lt_of_lt_of_le hk h.size)).trans (h.block k hk hn)⟩
theorem Fr.drew {S : Nat → Prop} {a w : World} (h : Fr S a w) : Fr S a w.drew := ⟨h.os, h.tape, h.output, h.size, h.block⟩
theorem Fr.setCell {S : Nat → Prop} {a w : World} (h : Fr S a w) (p : Addr) (hp : a.heap.size ≤ p.block ∨ S p.block) (u : Value) : Fr S a (w.setCell p u) :=
  ⟨h.os, h.tape, h.output, Nat.le_trans h.size (by simp [World.setCell]), fun k hk hn => by
    rw [Below.heap_setCell _ _ _ _ ?_]
    · exact h.block k hk hn
    · intro e; subst e
      rcases hp with hp | hp
      · omega
      · exact hn hp⟩
theorem Fr.grown {S : Nat → Prop} {a w w' : World} {row : Option Nat} (h : Fr S a w) (hg : w.grownBy w' row) (hr : ∀ k, row = some k → a.heap.size ≤ k ∨ S k) : Fr S a w' :=
  ⟨hg.os.trans h.os, hg.tape.trans h.tape, hg.output.trans h.output, Nat.le_trans h.size hg.size, fun k hk hn => by
    rw [hg.block k (Nat.lt_of_lt_of_le hk h.size) ?_]
    · exact h.block k hk hn
    · intro e
      rcases hr k e.symm with hp | hp
      · omega
      · exact hn hp⟩
theorem Fr.below {S : Nat → Prop} {B : Nat} {w w' : World} (h : Fr S w w') (hB : B ≤ w.heap.size) (hs : ∀ k, k < B → ¬ S k) : Below B w w' :=
  ⟨h.os, h.tape, h.output, h.size, fun k hk => h.block k (by omega) (hs k hk)⟩
theorem Fr.of_below {S : Nat → Prop} {w w' : World} (h : Below w.heap.size w w') : Fr S w w' :=
  ⟨h.os, h.tape, h.output, h.size, fun k hk _ => h.block k hk⟩
theorem Fr.cell {S : Nat → Prop} {w w' : World} (h : Fr S w w') {a : Addr} (hb : a.block < w.heap.size) (hn : ¬ S a.block) : w'.cell? a = w.cell? a :=
  World.cell?_of_block (h.block a.block hb hn)
theorem Fr.frozen {S : Nat → Prop} {w w' : World} (h : Fr S w w') {a : Addr} (hb : a.block < w.heap.size) (hn : ¬ S a.block) : w'.frozen? a = w.frozen? a :=
  World.frozen?_of_block (h.block a.block hb hn)
theorem Fr.drewN {S : Nat → Prop} {w : World} (n : Nat) : Fr S w (w.drewN n) := ⟨rfl, rfl, rfl, Nat.le_refl _, fun _ _ _ => rfl⟩

theorem setCells_size (b : Nat) : ∀ (vs : List Value) (o : Nat) (w : World), (w.setCells b o vs).heap.size = w.heap.size
  | [], _, _ => rfl
  | v :: r, o, w => by rw [World.setCells, setCells_size b r]; simp [World.setCell]
theorem setCells_other (b k : Nat) (hk : k ≠ b) : ∀ (vs : List Value) (o : Nat) (w : World), (w.setCells b o vs).heap[k]? = w.heap[k]?
  | [], _, _ => rfl
  | v :: r, o, w => by rw [World.setCells, setCells_other b k hk r, Below.heap_setCell _ _ _ _ hk]
theorem setCells_rest (b : Nat) : ∀ (vs : List Value) (o : Nat) (w : World), (w.setCells b o vs).os = w.os ∧ (w.setCells b o vs).tape = w.tape ∧ (w.setCells b o vs).output = w.output
  | [], _, _ => ⟨rfl, rfl, rfl⟩
  | v :: r, o, w => by rw [World.setCells]; exact setCells_rest b r _ _
theorem setCell_block {w : World} {g o : Nat} {cur : Array Value} {t : TypeId} {fz : Nat × Nat} (h : w.heap[g]? = some (.cells cur t fz)) (u : Value) :
    (w.setCell ⟨g, o, none⟩ u).heap[g]? = some (.cells (cur.setIfInBounds o u) t fz) := by
  simp only [World.setCell, Array.getElem?_modify, ↓reduceIte, h, Option.map_some]
  simp
theorem setCells_block (g : Nat) {t : TypeId} {fz : Nat × Nat} : ∀ (vs : List Value) (o : Nat) (w : World) (cur : Array Value), w.heap[g]? = some (.cells cur t fz) → o + vs.length ≤ cur.size →
    ∃ cur', (w.setCells g o vs).heap[g]? = some (.cells cur' t fz) ∧ cur'.size = cur.size ∧ ∀ k, cur'[k]? = if o ≤ k ∧ k < o + vs.length then vs[k - o]? else cur[k]?
  | [], o, w, cur, h, _ => ⟨cur, h, rfl, fun k => by rw [if_neg (by simp)]⟩
  | v :: r, o, w, cur, h, hl => by
    simp only [List.length_cons] at hl
    obtain ⟨cur', h1, h2, h3⟩ := setCells_block g r (o + 1) (w.setCell ⟨g, o, none⟩ v) _ (setCell_block h v) (by simp; omega)
    refine ⟨cur', by rw [World.setCells]; exact h1, by rw [h2]; simp, fun k => ?_⟩
    rw [h3 k]
    simp only [List.length_cons]
    by_cases e : k = o
    · subst e
      rw [if_neg (by omega), if_pos (by omega), Array.getElem?_setIfInBounds_self_of_lt (by omega)]
      simp
    · by_cases q : o + 1 ≤ k ∧ k < o + 1 + r.length
      · rw [if_pos q, if_pos (by omega), show k - o = (k - (o + 1)) + 1 by omega]
        rfl
      · rw [if_neg q, if_neg (by omega), Array.getElem?_setIfInBounds_ne (by omega)]

/-- A row: n elements of sz cells each, which are xs; it may begin anywhere in its block. -/
def Ro (w : World) (sz : Nat) (v : Value) (n : Nat) (xs : List Value) : Prop :=
  xs.length = n * sz ∧ ((v = .slice none 0 0 ∧ n = 0) ∨
    ∃ g off cap cur t, v = .slice (some ⟨g, off, none⟩) n cap ∧ w.heap[g]? = some (.cells cur t (0, 0)) ∧ n ≤ cap ∧ cap ≤ maxLen ∧ off + cap * sz ≤ cur.size ∧ ∀ j, j < n * sz → cur[off + j]? = xs[j]?)

section
variable {w w' : World} {sz : Nat} {v : Value} {n : Nat} {xs : List Value}
theorem Ro.nil (w : World) (sz : Nat) : Ro w sz (.slice none 0 0) 0 [] := ⟨by simp, .inl ⟨rfl, rfl⟩⟩
theorem Ro.keep (h : Ro w sz v n xs) (hb : ∀ g, v.ownBlock = some g → w'.heap[g]? = w.heap[g]?) : Ro w' sz v n xs := by
  obtain ⟨h1, h2⟩ := h
  refine ⟨h1, ?_⟩
  rcases h2 with h2 | ⟨g, off, cap, cur, t, hv, hh, r⟩
  · exact .inl h2
  · exact .inr ⟨g, off, cap, cur, t, hv, by rw [hb g (by rw [hv]; rfl)]; exact hh, r⟩
theorem Ro.lt (h : Ro w sz v n xs) : ∀ k, v.ownBlock = some k → k < w.heap.size := by
  rcases h.2 with ⟨e, _⟩ | ⟨g, off, cap, cur, t, e, hh, _⟩
  · rw [e]; intro k hk; cases hk
  · rw [e]; intro k hk; cases hk
    exact (Array.getElem?_eq_some_iff.1 hh).1
theorem Ro.fr {S : Nat → Prop} (h : Ro w sz v n xs) (f : Fr S w w') (hn : ∀ k, v.ownBlock = some k → ¬ S k) : Ro w' sz v n xs :=
  h.keep (fun g hg => f.block g (h.lt g hg) (hn g hg))
theorem Ro.shape (h : Ro w sz v n xs) : ∃ a cap, v = .slice a n cap ∧ n ≤ cap ∧ cap ≤ maxLen := by
  rcases h.2 with ⟨e, h0⟩ | ⟨g, off, cap, cur, t, e, _, h1, h2, _⟩
  · exact ⟨none, 0, by rw [e, h0], by omega, Nat.zero_le _⟩
  · exact ⟨_, cap, e, h1, h2⟩
/-- A row that isn't empty: where it lies, and its cells. -/
theorem Ro.full (h : Ro w sz v n xs) (hn : 0 < n) : ∃ g off cap, v = .slice (some ⟨g, off, none⟩) n cap ∧ n ≤ cap ∧ cap ≤ maxLen ∧ g < w.heap.size ∧ ∀ j, j < n * sz → w.cell? ⟨g, off + j, none⟩ = xs[j]? := by
  rcases h.2 with ⟨_, h0⟩ | ⟨g, off, cap, cur, t, e, hh, h1, h2, _, h3⟩
  · omega
  · refine ⟨g, off, cap, e, h1, h2, (Array.getElem?_eq_some_iff.1 hh).1, fun j hj => ?_⟩
    rw [← h3 j hj]
    simp [World.cell?, hh]
theorem Ro.free (h : Ro w sz v n xs) {g off cap : Nat} (e : v = .slice (some ⟨g, off, none⟩) n cap) (k : Nat) : w.frozen? ⟨g, k, none⟩ = false := by
  rcases h.2 with ⟨e2, _⟩ | ⟨g', off', cap', cur, t, e2, hh, _⟩
  · rw [e] at e2; cases e2
  · rw [e] at e2; cases e2
    simp [World.frozen?, hh]
theorem Ro.of_own {base : Nat} {e : TypeId} (h : w.ownsRow base e sz v n xs) : Ro w sz v n xs := by
  obtain ⟨h1, h2⟩ := h
  refine ⟨h1, ?_⟩
  rcases h2 with h2 | ⟨g, cap, cur, hv, _, hh, h3, h4, h5, h6⟩
  · exact .inl h2
  · refine .inr ⟨g, 0, cap, cur, e, hv, hh, h3, h4, by omega, fun j hj => ?_⟩
    rw [← h6, List.getElem?_take, if_pos hj]
    simp
/-- Without its first elements. -/
theorem Ro.past (h : Ro w sz v n xs) {g off cap : Nat} (e : v = .slice (some ⟨g, off, none⟩) n cap) {k : Nat} (hk : k ≤ n) : Ro w sz (.slice (some ⟨g, off + k * sz, none⟩) (n - k) (cap - k)) (n - k) (xs.drop (k * sz)) := by
  obtain ⟨h1, h2⟩ := h
  have em : (n - k) * sz = n * sz - k * sz := Nat.sub_mul _ _ _
  have ecm : (cap - k) * sz = cap * sz - k * sz := Nat.sub_mul _ _ _
  have hkm : k * sz ≤ n * sz := Nat.mul_le_mul_right _ hk
  refine ⟨by rw [List.length_drop, h1, em], ?_⟩
  rcases h2 with ⟨e2, _⟩ | ⟨g', off', cap', cur, t, e2, hh, h3, h4, h5, h6⟩
  · rw [e] at e2; cases e2
  · rw [e] at e2; cases e2
    have hcm : n * sz ≤ cap * sz := Nat.mul_le_mul_right _ h3
    refine .inr ⟨g, _, cap - k, cur, t, rfl, hh, by omega, by omega, by omega, fun j hj => ?_⟩
    rw [List.getElem?_drop, ← h6 (k * sz + j) (by omega), Nat.add_assoc]
/-- Its first elements. -/
theorem Ro.upto (h : Ro w sz v n xs) {g off cap : Nat} (e : v = .slice (some ⟨g, off, none⟩) n cap) {k : Nat} (hk : k ≤ n) : Ro w sz (.slice (some ⟨g, off, none⟩) k cap) k (xs.take (k * sz)) := by
  obtain ⟨h1, h2⟩ := h
  have hkm : k * sz ≤ n * sz := Nat.mul_le_mul_right _ hk
  refine ⟨by rw [List.length_take, h1]; omega, ?_⟩
  rcases h2 with ⟨e2, _⟩ | ⟨g', off', cap', cur, t, e2, hh, h3, h4, h5, h6⟩
  · rw [e] at e2; cases e2
  · rw [e] at e2; cases e2
    refine .inr ⟨g, _, cap, cur, t, rfl, hh, by omega, h4, h5, fun j hj => ?_⟩
    rw [List.getElem?_take, if_pos hj, ← h6 j (by omega)]

/-- Cells of the row are set. -/
theorem Ro.sets (h : Ro w sz v n xs) {g off cap : Nat} (e : v = .slice (some ⟨g, off, none⟩) n cap) {o m : Nat} {vs ys : List Value} (ho : off ≤ o) (hl : o + vs.length ≤ off + cap * sz) (hm : m ≤ cap) (hy : ys.length = m * sz)
    (hys : ∀ j, j < m * sz → ys[j]? = if o ≤ off + j ∧ off + j < o + vs.length then vs[off + j - o]? else xs[j]?) (hmn : ∀ j, j < m * sz → n * sz ≤ j → o ≤ off + j ∧ off + j < o + vs.length) :
    Ro (w.setCells g o vs) sz (.slice (some ⟨g, off, none⟩) m cap) m ys ∧ w.grownBy (w.setCells g o vs) (some g) := by
  obtain ⟨r1, r2, r3⟩ := setCells_rest g vs o w
  refine ⟨⟨hy, ?_⟩, r1, r2, r3, by rw [setCells_size]; exact Nat.le_refl _, fun k _ hk => setCells_other g k (fun e => hk (by rw [e])) vs o w⟩
  rcases h.2 with ⟨e2, _⟩ | ⟨g', off', cap', cur, t, e2, hh, h3, h4, h5, h6⟩
  · rw [e] at e2; cases e2
  · rw [e] at e2; cases e2
    obtain ⟨cur', k1, k2, k3⟩ := setCells_block g vs o w cur hh (by omega)
    refine .inr ⟨g, off, cap, cur', t, rfl, k1, hm, h4, by omega, fun j hj => ?_⟩
    rw [k3, hys j hj]
    by_cases q : o ≤ off + j ∧ off + j < o + vs.length
    · rw [if_pos q, if_pos q]
    · rw [if_neg q, if_neg q]
      by_cases q2 : n * sz ≤ j
      · exact absurd (hmn j hj q2) q
      · exact h6 j (by omega)
end

/-- append onto a row. -/
theorem Ro.app {P : Program} {w : World} {v : Value} {n : Nat} {xs : List Value} (t ty e : TypeId) (i : TypeInfo) (z : Value) (size bytes : Nat) (ht : P.underlying t = some (.slice e)) (hi : P.info? e = some i) (hz : i.zero = some z)
    (hsize : i.size = size) (hby : i.bytes = bytes) (hzs : z.cells.size = size) (hsz : 0 < size) (h : Ro w size v n xs)
    (a : Addr) (m c : Nat) (news : List Value) (hl : news.length = m * size) (hnews : ∀ j u, news[j]? = some u → w.cell? (a.add j) = some u) (h1 : ∀ u ∈ news, u.oneCell' = true)
    (h0 : 0 < m) (h63 : n + m ≤ maxLen) (hbytes : (n + m) * bytes ≤ 140737488355328) :
    ∃ v' w', (Builtin.append_ #[t, t] ty #[v, .slice (some a) m c]).run P w = .ok v' w' ∧ Ro w' size v' (n + m) (xs ++ news) ∧ w.grownBy w' v.ownBlock ∧ (v'.ownBlock = v.ownBlock ∨ v'.ownBlock = some w.heap.size) := by
  have hlen : (xs ++ news).length = (n + m) * size := by rw [List.length_append, h.1, hl, Nat.add_mul]
  have hxl := h.1
  rcases h.2 with ⟨e2, h0n⟩ | ⟨g, off, cap, cur, t', e2, hh, h3, h4, h5, h6⟩
  · subst e2; subst h0n
    obtain rfl : xs = [] := List.eq_nil_of_length_eq_zero (by omega)
    have hge := grownCap_ge w m 0 e
    have hcm : grownCap w m 0 e ≤ maxLen := grownCap_le_maxLen w m 0 e (by omega)
    have hr := run_append_nil (P := P) w t ty e i z ht hi hz a m c news (by rw [hsize]; exact hl) hnews h0 (by unfold maxLen at h63; omega) (by rw [hby]; simp only [Nat.zero_add] at hbytes; omega)
    refine ⟨_, _, hr, ⟨hlen, .inr ⟨w.heap.size, 0, _, _, e, by rw [Nat.zero_add], heap_alloc_new w.drew _, by omega, hcm, ?_, fun j hj => ?_⟩⟩, ⟨rfl, rfl, rfl, by simp, fun k hk _ => Below.heap_alloc _ _ _ (by simpa using hk)⟩, .inr rfl⟩
    · simp only [Array.size_append, List.size_toArray, size_zeroCells, hzs, hl, ← Nat.add_mul, Nat.zero_add]
      refine Nat.mul_le_mul_right _ ?_
      omega
    · simp only [Nat.zero_add, List.nil_append] at hj ⊢
      rw [Array.getElem?_append_left (by simp; omega)]
      simp
  · subst e2
    by_cases hroom : n + m ≤ cap
    · have hfit : n * size + m * size ≤ cap * size := by rw [← Nat.add_mul]; exact Nat.mul_le_mul_right _ hroom
      have hr := run_append_room_cells (P := P) w t ty e i ht hi g off n cap a m c news (by rw [hsize]; exact hl) hnews h1 hroom (fun j hj => by
        rw [hsize, hl] at *
        have : off + n * size + j < cur.size := by omega
        simp [World.cell?, hh]
        omega) (fun j hj => by simp [World.frozen?, hh])
      rw [hsize] at hr
      obtain ⟨k1, k2⟩ := h.sets (v := .slice (some ⟨g, off, none⟩) n cap) rfl (o := off + n * size) (m := n + m) (vs := news) (ys := xs ++ news) (by omega) (by rw [hl]; omega) hroom hlen (fun j hj => by
        rw [Nat.add_mul] at hj
        by_cases q : n * size ≤ j
        · rw [if_pos (by omega), List.getElem?_append_right (by omega)]
          congr 1
          omega
        · rw [if_neg (by omega), List.getElem?_append_left (by omega)]) (fun j hj hq => by rw [Nat.add_mul] at hj; omega)
      exact ⟨_, _, hr, k1, k2, .inl rfl⟩
    · have hge := grownCap_ge w (n + m) cap e
      have hcm : grownCap w (n + m) cap e ≤ maxLen := grownCap_le_maxLen w (n + m) cap e h63
      have hr := run_append_grow (P := P) w t ty e i z ht hi hz ⟨g, off, none⟩ n cap xs (by rw [hsize]; exact hxl) (fun j u hu => by
          have hj : j < n * size := by have := (List.getElem?_eq_some_iff.1 hu).1; omega
          rw [Go.WideShapes.add_plain, ← hu, ← h6 j hj]
          simp [World.cell?, hh]) a m c news (by rw [hsize]; exact hl) hnews (by omega) (by unfold maxLen at h63; omega) (by rw [hby]; exact growslice_fits (by omega) hbytes)
      refine ⟨_, _, hr, ⟨hlen, .inr ⟨w.heap.size, 0, _, _, e, rfl, heap_alloc_new w.drew _, by omega, hcm, ?_, fun j hj => ?_⟩⟩, ⟨rfl, rfl, rfl, by simp, fun k hk _ => Below.heap_alloc _ _ _ (by simpa using hk)⟩, .inr rfl⟩
      · simp only [Array.size_append, List.size_toArray, size_zeroCells, hzs, hl, hxl, ← Nat.add_mul, Nat.zero_add]
        refine Nat.mul_le_mul_right _ ?_
        omega
      · rw [Nat.zero_add, Array.getElem?_append_left (by rw [Array.size_append, List.size_toArray, List.size_toArray, hl, hxl, ← Nat.add_mul]; exact hj)]
        simp

set_option linter.unusedVariables false

section
variable {T : Type}
/-- Things as their cells. -/
def flt (en : T → List Value) (l : List T) : List Value := l.flatMap en
theorem flt_length {en : T → List Value} {sz : Nat} (hz : ∀ x, (en x).length = sz) (l : List T) : (flt en l).length = l.length * sz := by
  induction l with
  | nil => simp [flt]
  | cons p r ih => simp only [flt, List.flatMap_cons, List.length_append, List.length_cons, hz] at ih ⊢; rw [ih, Nat.add_mul]; omega
theorem flt_append (en : T → List Value) (l m : List T) : flt en (l ++ m) = flt en l ++ flt en m := List.flatMap_append
theorem flt_one (en : T → List Value) (p : T) : flt en [p] = en p := by simp [flt]
theorem flt_take {en : T → List Value} {sz : Nat} (hz : ∀ x, (en x).length = sz) (l : List T) (k : Nat) : (flt en l).take (k * sz) = flt en (l.take k) := by
  induction l generalizing k with
  | nil => simp [flt]
  | cons p r ih =>
    cases k with
    | zero => simp [flt]
    | succ k =>
      have := ih k
      rw [List.take_succ_cons]
      simp only [flt, List.flatMap_cons] at this ⊢
      rw [Nat.add_mul, Nat.one_mul, Nat.add_comm, ← hz p, List.take_length_add_append, hz p, this]
theorem flt_drop {en : T → List Value} {sz : Nat} (hz : ∀ x, (en x).length = sz) (l : List T) (k : Nat) : (flt en l).drop (k * sz) = flt en (l.drop k) := by
  induction l generalizing k with
  | nil => simp [flt]
  | cons p r ih =>
    cases k with
    | zero => simp [flt]
    | succ k =>
      have := ih k
      rw [List.drop_succ_cons]
      simp only [flt, List.flatMap_cons] at this ⊢
      rw [Nat.add_mul, Nat.one_mul, Nat.add_comm, ← hz p, List.drop_length_add_append, hz p, this]
theorem flt_at {en : T → List Value} {sz : Nat} (hz : ∀ x, (en x).length = sz) {l : List T} {k : Nat} {p : T} (h : l[k]? = some p) (j : Nat) (hj : j < sz) : (flt en l)[k * sz + j]? = (en p)[j]? := by
  obtain ⟨hk, hp⟩ := List.getElem?_eq_some_iff.1 h
  have h1 := flt_drop hz l k
  have h2 : l.drop k = p :: l.drop (k + 1) := by rw [← hp]; exact List.drop_eq_getElem_cons hk
  rw [h2] at h1
  have e := congrArg (fun q => q[j]?) h1
  simp only [List.getElem?_drop, flt, List.flatMap_cons] at e
  rw [flt, e, List.getElem?_append_left (by rw [hz]; exact hj)]
theorem take_push {l : List T} {i : Nat} {p : T} (h : l[i]? = some p) : l.take (i + 1) = l.take i ++ [p] := by
  rw [List.take_add_one, h]; rfl
theorem flt_set {en : T → List Value} {sz : Nat} (hz : ∀ x, (en x).length = sz) (l : List T) (k : Nat) (p : T) (hk : k < l.length) (i : Nat) : (flt en (l.set k p))[i]? = if k * sz ≤ i ∧ i < k * sz + sz then (en p)[i - k * sz]? else (flt en l)[i]? := by
  have e1 : l.set k p = l.take k ++ [p] ++ l.drop (k + 1) := by
    rw [List.set_eq_take_append_cons_drop, if_pos hk]; simp
  have e2 : l = l.take k ++ [l[k]] ++ l.drop (k + 1) := by
    conv => lhs; rw [← List.take_append_drop k l, List.drop_eq_getElem_cons hk]
    simp
  have hl : (flt en (l.take k)).length = k * sz := by rw [flt_length hz, List.length_take, Nat.min_eq_left (by omega)]
  rw [e1]
  conv => rhs; rw [e2]
  simp only [flt_append, flt_one]
  by_cases q : k * sz ≤ i ∧ i < k * sz + sz
  · rw [if_pos q, List.getElem?_append_left (by rw [List.length_append, hl, hz]; omega), List.getElem?_append_right (by omega), hl]
  · rw [if_neg q]
    by_cases q1 : i < k * sz
    · rw [List.getElem?_append_left (by rw [List.length_append, hl, hz]; omega), List.getElem?_append_left (by omega), List.getElem?_append_left (by rw [List.length_append, hl, hz]; omega), List.getElem?_append_left (by omega)]
    · rw [List.getElem?_append_right (by rw [List.length_append, hl, hz]; omega), List.getElem?_append_right (by rw [List.length_append, hl, hz]; omega)]
      simp only [List.length_append, hz]

/-- A row that can be read. -/
def Rx (w : World) (sz : Nat) (v : Value) (n : Nat) (xs : List Value) : Prop :=
  xs.length = n * sz ∧ ∃ a cap, v = .slice a n cap ∧ n ≤ cap ∧ cap ≤ maxLen ∧ (0 < n → ∃ b off, a = some ⟨b, off, none⟩ ∧ b < w.heap.size ∧ ∀ j, j < n * sz → w.cell? ⟨b, off + j, none⟩ = xs[j]?)
theorem Rx.of_ro {w : World} {sz : Nat} {v : Value} {n : Nat} {xs : List Value} (h : Ro w sz v n xs) : Rx w sz v n xs := by
  refine ⟨h.1, ?_⟩
  obtain ⟨a, cap, e, h1, h2⟩ := h.shape
  refine ⟨a, cap, e, h1, h2, fun hn => ?_⟩
  obtain ⟨g, off, cap', e', _, _, hl, hc⟩ := h.full hn
  rw [e] at e'
  cases e'
  exact ⟨g, off, rfl, hl, hc⟩
theorem Rx.below {w w' : World} {sz : Nat} {v : Value} {n : Nat} {xs : List Value} {B : Nat} (h : Rx w sz v n xs) (f : Below B w w') (hB : w.heap.size ≤ B) : Rx w' sz v n xs := by
  obtain ⟨h1, a, cap, e, h2, h3, h4⟩ := h
  refine ⟨h1, a, cap, e, h2, h3, fun hn => ?_⟩
  obtain ⟨b, off, e2, hb, hc⟩ := h4 hn
  have hs := f.size
  exact ⟨b, off, e2, by omega, fun j hj => (f.cell (p := ⟨b, off + j, none⟩) (Nat.lt_of_lt_of_le hb hB)).trans (hc j hj)⟩
theorem Rx.fr {S : Nat → Prop} {w w' : World} {sz : Nat} {v : Value} {n : Nat} {xs : List Value} (h : Rx w sz v n xs) (f : Fr S w w') (hn : ∀ k, v.ownBlock = some k → ¬ S k) : Rx w' sz v n xs := by
  obtain ⟨h1, a, cap, e, h2, h3, h4⟩ := h
  refine ⟨h1, a, cap, e, h2, h3, fun h0 => ?_⟩
  obtain ⟨b, off, e2, hb, hc⟩ := h4 h0
  have hs := f.size
  have hnb := hn b (by rw [e, e2]; rfl)
  exact ⟨b, off, e2, by omega, fun j hj => (f.cell (a := ⟨b, off + j, none⟩) hb hnb).trans (hc j hj)⟩
theorem Rx.nil (w : World) (sz : Nat) : Rx w sz (.slice none 0 0) 0 [] := Rx.of_ro (Ro.nil w sz)
theorem Rx.elem {w : World} {sz : Nat} {en : T → List Value} (hz : ∀ x, (en x).length = sz) {v : Value} {l : List T} (h : Rx w sz v l.length (flt en l)) {i : Nat} {p : T} (hp : l[i]? = some p) :
    ∃ b off cap, v = .slice (some ⟨b, off, none⟩) l.length cap ∧ l.length ≤ cap ∧ cap ≤ maxLen ∧ b < w.heap.size ∧ ∀ j u, (en p)[j]? = some u → w.cell? ⟨b, off + i * sz + j, none⟩ = some u := by
  have hi := (List.getElem?_eq_some_iff.1 hp).1
  obtain ⟨h1, a, cap, e, h2, h3, h4⟩ := h
  obtain ⟨b, off, rfl, hb, hc⟩ := h4 (by omega)
  refine ⟨b, off, cap, e, h2, h3, hb, fun j u hu => ?_⟩
  have hj : j < sz := by have := (List.getElem?_eq_some_iff.1 hu).1; rw [hz] at this; exact this
  have hm : i * sz + j < l.length * sz := Nat.lt_of_lt_of_le (by rw [Nat.add_mul, Nat.one_mul]; omega : i * sz + j < (i + 1) * sz) (Nat.mul_le_mul_right _ hi)
  rw [Nat.add_assoc, hc _ hm, flt_at hz hp j hj, hu]
/-- A row of one's own that grows. -/
def Gx (w : World) (sz : Nat) (en : T → List Value) (l : List T) (v : Value) (wr : World) : Prop := Ro wr sz v l.length (flt en l) ∧ Below w.heap.size w wr ∧ ∀ k, v.ownBlock = some k → w.heap.size ≤ k
theorem Gx.push {w wr w' : World} {sz : Nat} {en : T → List Value} {l : List T} {v v' : Value} {p : T} {X : Obj} {m : Nat} (h : Gx w sz en l v wr) (hr : Ro w' sz v' m (flt en l ++ en p)) (hm : m = l.length + 1) (hg : (wr.alloc X).grownBy w' v.ownBlock) (hat : v'.ownBlock = v.ownBlock ∨ v'.ownBlock = some (wr.alloc X).heap.size) : Gx w sz en (l ++ [p]) v' w' := by
  subst hm
  obtain ⟨h1, h2, h3⟩ := h
  have hs := h2.size
  have f : Fr (fun k => v.ownBlock = some k) wr w' := ((Fr.refl _ wr).alloc X).grown hg (fun k e => .inr e)
  refine ⟨by rw [List.length_append, flt_append, flt_one]; exact hr, h2.trans (f.below hs (fun k hk e => by have := h3 k e; omega)), fun k hk => ?_⟩
  rcases hat with q | q
  · exact h3 k (q ▸ hk)
  · rw [q] at hk; cases hk; simp; omega
end
theorem new_cells (w : World) (arr : Array Value) (e : TypeId) : ∀ j z, arr.toList[j]? = some z → (w.alloc (.cells arr e)).cell? ((⟨w.heap.size, 0, none⟩ : Addr).add j) = some z := fun j z hz => by
  rw [Go.WideShapes.add_plain]
  simp only [World.cell?, heap_alloc_new, Nat.zero_add]
  simpa using hz
theorem info_parts {P : Program} {t : TypeId} {a : Option Value} {b c : Nat} (h : (P.info? t).map (fun i => (i.zero, i.size, i.bytes)) = some (a, b, c)) : ∃ i, P.info? t = some i ∧ i.zero = a ∧ i.size = b ∧ i.bytes = c := by
  cases e : P.info? t with
  | none => rw [e] at h; cases h
  | some i =>
    rw [e] at h
    simp only [Option.map_some, Option.some.injEq, Prod.mk.injEq] at h
    exact ⟨i, rfl, h.1, h.2.1, h.2.2⟩
theorem wpList_app {P : Program} {w : World} {ops : Array Oper} {rest : List Oper} {o : Oper} {a : Act} {Q : Exit → Act → World → Prop}
    (hg : o.guard = none) (s x : Operand) (t : TypeId) (hop : o.op = Op.call { callee := Callee.builtin Builtin.append, args := #[s, x], argTypes := #[t, t] })
    (e : TypeId) (i : TypeInfo) (z : Value) (size bytes : Nat) (h1 : P.underlying t = some (.slice e)) (h2 : P.info? e = some i) (h3 : i.zero = some z) (h4 : i.size = size) (h5 : i.bytes = bytes) (h6 : z.cells.size = size) (h7 : 0 < size)
    (v : Value) (n : Nat) (xs : List Value) (hs : a.eval s = v) (hr : Ro w size v n xs) (ad : Addr) (m c : Nat) (news : List Value) (hx : a.eval x = .slice (some ad) m c) (hn : news.length = m * size) (hc : ∀ j u, news[j]? = some u → w.cell? (ad.add j) = some u) (h1c : ∀ u ∈ news, u.oneCell' = true)
    (h0 : 0 < m) (b1 : n + m ≤ maxLen) (b2 : (n + m) * bytes ≤ 140737488355328)
    (hK : ∀ v' w', Ro w' size v' (n + m) (xs ++ news) → w.grownBy w' v.ownBlock → (v'.ownBlock = v.ownBlock ∨ v'.ownBlock = some w.heap.size) → wpList P ops Q rest (a.put o.dst v') w') :
    wpList P ops Q (o :: rest) a w := by
  refine wpList_plain hg fun K hK' => ?_
  obtain ⟨v', w', hrun, r1, r2, r3⟩ := Ro.app (P := P) t o.type e i z size bytes h1 h2 h3 h4 h5 h6 h7 hr ad m c news hn hc h1c h0 b1 b2
  unfold Oper.wp
  simp [execOp, hop, resolve, invoke, builtin, hs, hx, hrun, Result.andThen]
  exact hK' _ _ (hK v' w' r1 r2 r3)


set_option linter.unusedVariables false
set_option linter.unusedSimpArgs false

theorem app_none {P : Program} (w : World) (t ty e : TypeId) (ht : P.underlying t = some (.slice e)) {i : TypeInfo} (hi : P.info? e = some i) (base : Option Addr) (n c : Nat) (hle : n ≤ c) (a : Option Addr) (cx : Nat) :
    (Builtin.append_ #[t, t] ty #[.slice base n c, .slice a 0 cx]).run P w = .ok (.slice base n c) w := by
  cases base <;> cases a <;> simp [Builtin.append_, run_underlying ht, sizeOf, typeInfo, hi, Builtin.lenOf, hle, Builtin.firstCells, storeCells, loadCells, loadCellsFrom]

section
variable {P : Program} {w : World} {v x : Value} {n m : Nat} {xs news : List Value} {size bytes : Nat}
/-- append of a row that can be read onto a row. -/
theorem Ro.appX (t ty e : TypeId) (z : Value) (ht : P.underlying t = some (.slice e)) (hinf : (P.info? e).map (fun i => (i.zero, i.size, i.bytes)) = some (some z, size, bytes)) (hzs : z.cells.size = size) (hsz : 0 < size)
    (h : Ro w size v n xs) (hx : Rx w size x m news) (h1 : ∀ u ∈ news, u.oneCell' = true) (h63 : n + m ≤ maxLen) (hbytes : (n + m) * bytes ≤ 140737488355328) :
    ∃ v' w', (Builtin.append_ #[t, t] ty #[v, x]).run P w = .ok v' w' ∧ Ro w' size v' (n + m) (xs ++ news) ∧ w.grownBy w' v.ownBlock ∧ (v'.ownBlock = v.ownBlock ∨ v'.ownBlock = some w.heap.size) := by
  obtain ⟨i0, hi0, hz0, hz1, hz2⟩ := info_parts hinf
  obtain ⟨hl, a, cap, rfl, hmc, hcm, hcell⟩ := hx
  by_cases h0 : 0 < m
  · obtain ⟨b, off, rfl, hb, hc⟩ := hcell h0
    refine Ro.app t ty e i0 z size bytes ht hi0 hz0 hz1 hz2 hzs hsz h _ m cap news hl (fun j u hu => ?_) h1 h0 h63 hbytes
    have hj : j < m * size := by have := (List.getElem?_eq_some_iff.1 hu).1; omega
    rw [Go.WideShapes.add_plain, hc j hj, hu]
  · obtain rfl : m = 0 := by omega
    obtain rfl : news = [] := List.eq_nil_of_length_eq_zero (by simpa using hl)
    obtain ⟨va, vc, rfl, hvc, _⟩ := h.shape
    exact ⟨_, w, app_none w t ty e ht hi0 _ _ _ hvc _ _, by simpa using h, ⟨rfl, rfl, rfl, Nat.le_refl _, fun _ _ _ => rfl⟩, .inl rfl⟩
/-- A row that was handed out: nothing without room, or memory from B on. -/
def Hx (B : Nat) (w : World) (sz : Nat) (v : Value) (n : Nat) (xs : List Value) : Prop :=
  (n = 0 ∧ xs = [] ∧ ∃ a, v = .slice a 0 0) ∨ (Ro w sz v n xs ∧ ∀ k, v.ownBlock = some k → B ≤ k)
theorem Hx.rx {B : Nat} {sz : Nat} (h : Hx B w sz v n xs) : Rx w sz v n xs := by
  rcases h with ⟨rfl, rfl, a, rfl⟩ | ⟨h, _⟩
  · exact ⟨by simp, a, 0, rfl, Nat.le_refl _, Nat.zero_le _, fun h => absurd h (Nat.lt_irrefl 0)⟩
  · exact Rx.of_ro h
theorem Hx.fr {B : Nat} {sz : Nat} {S : Nat → Prop} {w' : World} (h : Hx B w sz v n xs) (f : Fr S w w') (hS : ∀ k, B ≤ k → k < w.heap.size → ¬ S k) : Hx B w' sz v n xs := by
  rcases h with h | ⟨h, hb⟩
  · exact .inl h
  · exact .inr ⟨h.fr f (fun k hk => hS k (hb k hk) (h.lt k hk)), hb⟩
theorem Hx.mono {B B' : Nat} {sz : Nat} (h : Hx B w sz v n xs) (hb : B' ≤ B) : Hx B' w sz v n xs := by
  rcases h with h | ⟨h, hk⟩
  · exact .inl h
  · exact .inr ⟨h, fun k e => Nat.le_trans hb (hk k e)⟩
/-- append of a row onto a place without room: a new row. -/
theorem app_new (t ty e : TypeId) (z : Value) (ht : P.underlying t = some (.slice e)) (hinf : (P.info? e).map (fun i => (i.zero, i.size, i.bytes)) = some (some z, size, bytes)) (hzs : z.cells.size = size)
    (ba : Option Addr) (hx : Rx w size x m news) (h63 : m ≤ maxLen) (hbytes : m * bytes ≤ 140737488355328) :
    ∃ v' w', (Builtin.append_ #[t, t] ty #[.slice ba 0 0, x]).run P w = .ok v' w' ∧ Hx w.heap.size w' size v' m news ∧ Fr (fun _ => False) w w' ∧ (0 < m → ∃ c, v' = .slice (some ⟨w.heap.size, 0, none⟩) m c) := by
  obtain ⟨i0, hi0, hz0, hz1, hz2⟩ := info_parts hinf
  obtain ⟨hl, a, cap, rfl, hmc, hcm, hcell⟩ := hx
  by_cases h0 : 0 < m
  · obtain ⟨b, off, rfl, hb, hc⟩ := hcell h0
    have hnews : ∀ j u, news[j]? = some u → w.cell? ((⟨b, off, none⟩ : Addr).add j) = some u := fun j u hu => by
      have hj : j < m * size := by have := (List.getElem?_eq_some_iff.1 hu).1; omega
      rw [Go.WideShapes.add_plain, hc j hj, hu]
    have hge := grownCap_ge w m 0 e
    have hcm2 : grownCap w m 0 e ≤ maxLen := grownCap_le_maxLen w m 0 e (by omega)
    have key : (Builtin.append_ #[t, t] ty #[.slice ba 0 0, .slice (some ⟨b, off, none⟩) m cap]).run P w = .ok (.slice (some ⟨w.heap.size, 0, none⟩) m (grownCap w m 0 e)) (w.drew.alloc (.cells (news.toArray ++ Builtin.zeroCells z.cells (grownCap w m 0 e - m)) e)) := by
      cases ba with
      | none => exact run_append_nil (P := P) w t ty e i0 z ht hi0 hz0 _ m cap news (by rw [hz1]; exact hl) hnews h0 (by unfold maxLen at h63; omega) (by rw [hz2]; omega)
      | some q =>
        have := run_append_grow (P := P) w t ty e i0 z ht hi0 hz0 q 0 0 [] (by simp) (by simp) _ m cap news (by rw [hz1]; exact hl) hnews (by omega) (by unfold maxLen at h63; omega) (by rw [hz2, Nat.zero_add]; exact growslice_fits (by omega) (by simpa using hbytes))
        simpa using this
    refine ⟨_, _, key, .inr ⟨⟨hl, .inr ⟨w.heap.size, 0, _, _, e, rfl, heap_alloc_new w.drew _, by omega, hcm2, ?_, fun j hj => ?_⟩⟩, fun k hk => by cases hk; exact Nat.le_refl _⟩, ((Fr.refl _ w).drew).alloc _, fun _ => ⟨_, rfl⟩⟩
    · simp only [Array.size_append, List.size_toArray, size_zeroCells, hzs, hl, ← Nat.add_mul, Nat.zero_add]
      refine Nat.mul_le_mul_right _ ?_
      omega
    · rw [Nat.zero_add, Array.getElem?_append_left (by simp; omega)]
      simp
  · obtain rfl : m = 0 := by omega
    obtain rfl : news = [] := List.eq_nil_of_length_eq_zero (by simpa using hl)
    exact ⟨_, w, app_none w t ty e ht hi0 _ _ _ (Nat.le_refl _) _ _, .inl ⟨rfl, rfl, _, rfl⟩, Fr.refl _ _, fun h => absurd h (Nat.lt_irrefl 0)⟩
/-- clear of a row's rest. -/
theorem clear_rest (t ty e : TypeId) (z : Value) (ht : P.underlying t = some (.slice e)) (hinf : (P.info? e).map (fun i => (i.zero, i.size, i.bytes)) = some (some z, size, bytes)) (hzs : z.cells.size = size) (hz1 : ∀ k, ∀ u ∈ (Builtin.zeroCells z.cells k).toList, u.oneCell' = true)
    {g off cap : Nat} (h : Ro w size (.slice (some ⟨g, off, none⟩) n cap) n xs) {k : Nat} (hk : k ≤ n) (a : Addr) (c : Nat) (ha : k < n → a = ⟨g, off + k * size, none⟩) :
    ∃ w', (Builtin.clear_ #[t] ty #[.slice (some a) (n - k) c]).run P w = .ok (.tuple #[]) w' ∧ Ro w' size (.slice (some ⟨g, off, none⟩) k cap) k (xs.take (k * size)) ∧ Fr (fun b => b = g) w w' := by
  obtain ⟨i0, hi0, hz0, hz2, hz3⟩ := info_parts hinf
  by_cases q : k < n
  · have ea := ha q
    subst ea
    obtain ⟨_, _, e1, hcap, _⟩ := h.shape
    cases e1
    obtain ⟨m, hm⟩ : ∃ m, n - k = m + 1 := ⟨n - k - 1, by omega⟩
    have hzl : (Builtin.zeroCells z.cells (m + 1)).toList.length = (m + 1) * size := by rw [Array.length_toList, size_zeroCells, hzs]
    have hin : (m + 1) * size + k * size = n * size := by rw [← Nat.add_mul]; congr 1; omega
    have hcn : n * size ≤ cap * size := Nat.mul_le_mul_right _ hcap
    have hcell : ∀ j, j < (m + 1) * size → (w.cell? ⟨g, off + k * size + j, none⟩).isSome = true := fun j hj => by
      rcases h.2 with ⟨e2, _⟩ | ⟨g', off', cap', cur, t', e2, hh, _, _, h5, h6⟩
      · cases e2
      · cases e2
        have : off + k * size + j < cur.size := by omega
        simp [World.cell?, hh]
        omega
    have hst := run_storeCells_cells (P := P) g (off + k * size) (Builtin.zeroCells z.cells (m + 1)).toList 0 w (by rw [hzl]; simpa using hcell) (by rw [hzl]; intro j _; exact h.free rfl _) (hz1 _)
    simp only [Nat.add_zero] at hst
    have hs := h.upto rfl hk
    obtain ⟨r1, r2⟩ := hs.sets (v := .slice (some ⟨g, off, none⟩) k cap) rfl (o := off + k * size) (m := k) (vs := (Builtin.zeroCells z.cells (m + 1)).toList) (ys := xs.take (k * size)) (by omega) (by rw [hzl]; omega) (by omega) hs.1 (fun j hj => by rw [if_neg (by omega)]) (fun j hj q => by omega)
    refine ⟨_, ?_, r1, ⟨r2.os, r2.tape, r2.output, r2.size, fun b hb hn => r2.block b hb (fun e => hn (by cases e; rfl))⟩⟩
    rw [hm]
    simp [Builtin.clear_, run_underlying ht, zeroValue, typeInfo, hi0, hz0, hst]
  · obtain rfl : k = n := by omega
    refine ⟨w, ?_, by rw [List.take_of_length_le (by rw [h.1]; exact Nat.le_refl _)]; exact h, Fr.refl _ _⟩
    rw [Nat.sub_self]
    simp [Builtin.clear_, run_underlying ht]
end
theorem wpList_appRun {P : Program} {w w' : World} {ops : Array Oper} {rest : List Oper} {o : Oper} {a : Act} {Q : Exit → Act → World → Prop} {v u v' : Value} {t : TypeId}
    (hg : o.guard = none) (s x : Operand) (hop : o.op = Op.call { callee := Callee.builtin Builtin.append, args := #[s, x], argTypes := #[t, t] }) (hs : a.eval s = v) (hx : a.eval x = u)
    (hrun : (Builtin.append_ #[t, t] o.type #[v, u]).run P w = .ok v' w') (hK : wpList P ops Q rest (a.put o.dst v') w') : wpList P ops Q (o :: rest) a w := by
  refine wpList_plain hg fun K hK' => ?_
  unfold Oper.wp
  simp [execOp, hop, resolve, invoke, builtin, hs, hx, hrun, Result.andThen]
  exact hK' _ _ hK
/-- The same behind a guard. -/
theorem wpList_appRunG {P : Program} {w w' : World} {ops : Array Oper} {rest : List Oper} {o : Oper} {a : Act} {Q : Exit → Act → World → Prop} {v u v' : Value} {t : TypeId}
    (hg : Region.wanted o (yielded ops a.tmps) = true) (s x : Operand) (hop : o.op = Op.call { callee := Callee.builtin Builtin.append, args := #[s, x], argTypes := #[t, t] }) (hs : a.eval s = v) (hx : a.eval x = u)
    (hrun : (Builtin.append_ #[t, t] o.type #[v, u]).run P w = .ok v' w') (hK : wpList P ops Q rest (a.put o.dst v') w') : wpList P ops Q (o :: rest) a w := by
  refine wpList_step fun K hK' => ?_
  rw [if_pos hg]
  unfold Oper.wp
  simp [execOp, hop, resolve, invoke, builtin, hs, hx, hrun, Result.andThen]
  exact hK' _ _ hK
theorem step_appRun {P : Program} {w w' : World} {ops : Array Oper} {o : Oper} {a : Act} {K : Act → World → Prop} {Q : Exit → Act → World → Prop} {E : Prop} {t : TypeId} (hgd : o.guard = none) (s x : Operand)
    (ho : o.op = .call { callee := .builtin .append, args := #[s, x], argTypes := #[t, t] }) (v u v' : Value) (hs : a.eval s = v) (hx : a.eval x = u)
    (hrun : (Builtin.append_ #[t, t] o.type #[v, u]).run P w = .ok v' w') (h : K (a.put o.dst v') w') :
    if Region.wanted o (yielded ops a.tmps) = true then Oper.wp P o a w K Q else E := by
  rw [if_pos (by simp [Region.wanted, hgd])]
  unfold Oper.wp
  simp [execOp, ho, resolve, invoke, builtin, hs, hx, hrun, Result.andThen]
  exact h

set_option linter.unusedVariables false
set_option linter.unusedSimpArgs false
theorem one_sl {v : Value} {w : World} {sz n : Nat} {xs : List Value} (h : Rx w sz v n xs) : v.oneCell' = true := by
  obtain ⟨_, a, c, rfl, _⟩ := h
  rfl
theorem box3 {w wr : World} {u v x : Value} {e : TypeId} {B : Nat} (h : Below B (w.alloc (.cells #[u, v, x] e)) wr) (hB : w.heap.size < B) : wr.cell? ⟨w.heap.size, 0, none⟩ = some u ∧ wr.cell? ⟨w.heap.size, 1, none⟩ = some v ∧ wr.cell? ⟨w.heap.size, 2, none⟩ = some x := by
  have n0 := new_cells w #[u, v, x] e 0 u rfl
  have n1 := new_cells w #[u, v, x] e 1 v rfl
  have n2 := new_cells w #[u, v, x] e 2 x rfl
  rw [Go.WideShapes.add_plain, Nat.zero_add] at n0 n1 n2
  exact ⟨(h.cell (p := ⟨w.heap.size, 0, none⟩) hB).trans n0, (h.cell (p := ⟨w.heap.size, 1, none⟩) hB).trans n1, (h.cell (p := ⟨w.heap.size, 2, none⟩) hB).trans n2⟩
theorem results_cell_one {fn : Func} {p : Tmp} {ty : TypeId} (h : fn.results = #[.cell p ty]) (tmps : Array Value) (P : Program) (w : World) :
    (results fn tmps).run P w = ((asAddr (tmps.getD p undef)).run P w).andThen fun a w₁ => (loadVar ty a).run P w₁ := by
  simp only [results, h]
  simp [Sem.run_bind, Result.andThen]
theorem blk1 (w : World) (o1 : Obj) : (w.alloc o1).heap[w.heap.size]? = some o1 := heap_alloc_new w o1
theorem blk3 (w : World) (o1 o2 o3 : Obj) : (((w.alloc o1).alloc o2).alloc o3).heap[w.heap.size]? = some o1 ∧ (((w.alloc o1).alloc o2).alloc o3).heap[w.heap.size + 1]? = some o2 ∧ (((w.alloc o1).alloc o2).alloc o3).heap[w.heap.size + 1 + 1]? = some o3 := by
  refine ⟨?_, ?_, ?_⟩
  · rw [Below.heap_alloc _ _ _ (by simp only [World.size_alloc]; omega), Below.heap_alloc _ _ _ (by simp only [World.size_alloc]; omega)]; exact heap_alloc_new w o1
  · rw [Below.heap_alloc _ _ _ (by simp only [World.size_alloc]; omega)]
    have := heap_alloc_new (w.alloc o1) o2
    simpa only [World.size_alloc] using this
  · have := heap_alloc_new ((w.alloc o1).alloc o2) o3
    simpa only [World.size_alloc] using this
theorem blk_cells {w : World} {k : Nat} {arr : Array Value} {t : TypeId} (h : w.heap[k]? = some (.cells arr t)) : (∀ j, w.cell? ⟨k, j, none⟩ = arr[j]?) ∧ (∀ j, w.frozen? ⟨k, j, none⟩ = false) ∧ k < w.heap.size :=
  ⟨fun j => by simp [World.cell?, h], fun j => by simp [World.frozen?, h], (Array.getElem?_eq_some_iff.1 h).1⟩
theorem Below.alloc3 (w : World) (o1 o2 o3 : Obj) : Below w.heap.size w (((w.alloc o1).alloc o2).alloc o3) :=
  (((Below.refl _ w).alloc (Nat.le_refl _) o1).alloc (by simp only [World.size_alloc]; omega) o2).alloc (by simp only [World.size_alloc]; omega) o3

set_option linter.unusedVariables false
set_option linter.unusedSimpArgs false
/-- Does this hold? -/
noncomputable def Dc (p : Prop) : Bool := @decide p (Classical.propDecidable p)
theorem Dc_true {p : Prop} (h : p) : Dc p = true := by unfold Dc; exact @decide_eq_true p (Classical.propDecidable p) h
theorem Dc_false {p : Prop} (h : ¬ p) : Dc p = false := by unfold Dc; exact @decide_eq_false p (Classical.propDecidable p) h
theorem of_Dc {p : Prop} (h : Dc p = true) : p := by unfold Dc at h; exact @of_decide_eq_true p (Classical.propDecidable p) h
theorem not_Dc {p : Prop} (h : Dc p = false) : ¬ p := by unfold Dc at h; exact @of_decide_eq_false p (Classical.propDecidable p) h
theorem Dc_congr {p q : Prop} (h : p ↔ q) : Dc p = Dc q := by rw [propext h]
theorem Rx.shape {w : World} {sz : Nat} {v : Value} {n : Nat} {xs : List Value} (h : Rx w sz v n xs) : ∃ a cap, v = .slice a n cap ∧ n ≤ cap ∧ cap ≤ maxLen := by
  obtain ⟨_, a, cap, e, h1, h2, _⟩ := h
  exact ⟨a, cap, e, h1, h2⟩
def enV (v : Value) : List Value := [v]
theorem zV : ∀ p, (enV p).length = 1 := fun _ => rfl
theorem bl_two (w : World) (o1 o2 : Obj) : Below w.heap.size w ((w.alloc o1).alloc o2) := ((Below.refl _ w).alloc (Nat.le_refl _) o1).alloc (by simp only [World.size_alloc]; omega) o2
theorem bl_three (w : World) (o1 o2 o3 : Obj) : Below w.heap.size w (((w.alloc o1).alloc o2).alloc o3) := (bl_two w o1 o2).alloc (by simp only [World.size_alloc]; omega) o3
theorem bl_past {w w1 w2 : World} (h : Below w.heap.size w w1) (k : Below w1.heap.size w1 w2) : Below w.heap.size w w2 := h.trans (k.mono h.size)
theorem bl_drewN (w : World) (n : Nat) : Below w.heap.size w (w.drewN n) := ⟨rfl, rfl, rfl, Nat.le_refl _, fun _ _ => rfl⟩
theorem bl_drew (w : World) : Below w.heap.size w w.drew := ⟨rfl, rfl, rfl, Nat.le_refl _, fun _ _ => rfl⟩

set_option linter.unusedVariables false
set_option linter.unusedSimpArgs false
/-- A row of one's own: its things have blocks, each its own; none is the row's. -/
structure OW {T U : Type} (en : T → List Value) (sz : Nat) (P : World → U → T → Prop) (bl : T → Nat → Prop) (Z : Nat → Prop) (w : World) (v : Value) (us : List U) (xs : List T) : Prop where
  len : xs.length = us.length
  row : Ro w sz v us.length (flt en xs)
  rb : ∀ k, v.ownBlock = some k → Z k
  el : ∀ (i : Nat) (u : U) (x : T), us[i]? = some u → xs[i]? = some x → P w u x
  eb : ∀ (i : Nat) (x : T) (k : Nat), xs[i]? = some x → bl x k → Z k ∧ k < w.heap.size ∧ v.ownBlock ≠ some k
  ap : ∀ (i j : Nat) (x y : T) (k : Nat), i ≠ j → xs[i]? = some x → xs[j]? = some y → bl x k → ¬ bl y k
/-- What is so of a thing stays so while its blocks are as they were. -/
def Stays {T U : Type} (P : World → U → T → Prop) (bl : T → Nat → Prop) : Prop :=
  ∀ (S : Nat → Prop) (w w' : World) (u : U) (x : T), P w u x → Fr S w w' → (∀ k, bl x k → ¬ S k) → P w' u x
section
variable {T U : Type} {en : T → List Value} {sz : Nat} {P : World → U → T → Prop} {bl : T → Nat → Prop} {Z : Nat → Prop}
theorem OW.nil (w : World) : OW en sz P bl Z w (.slice none 0 0) [] [] :=
  ⟨rfl, by simpa [flt] using Ro.nil w sz, by simp [Value.ownBlock], fun i f x h => by simp at h, fun i x k h => by simp at h, fun i j x y k _ h => by simp at h⟩
theorem OW.fr {w w' : World} {v : Value} {us : List U} {xs : List T} {S : Nat → Prop} (hP : Stays P bl) (h : OW en sz P bl Z w v us xs) (f : Fr S w w') (hS : ∀ k, k < w.heap.size → (v.ownBlock = some k ∨ ∃ x ∈ xs, bl x k) → ¬ S k) : OW en sz P bl Z w' v us xs :=
  ⟨h.len, h.row.fr f (fun k hk => hS k (h.row.lt k hk) (.inl hk)), h.rb, fun i u x hu hx => hP S w w' u x (h.el i u x hu hx) f (fun k hk => hS k (h.eb i x k hx hk).2.1 (.inr ⟨x, List.mem_of_getElem? hx, hk⟩)), fun i x k hx hk => ⟨(h.eb i x k hx hk).1, Nat.lt_of_lt_of_le (h.eb i x k hx hk).2.1 f.size, (h.eb i x k hx hk).2.2⟩, h.ap⟩
theorem OW.in {w : World} {v : Value} {us : List U} {xs : List T} (h : OW en sz P bl Z w v us xs) {k : Nat} (hk : v.ownBlock = some k ∨ ∃ x ∈ xs, bl x k) : Z k ∧ k < w.heap.size := by
  rcases hk with hk | ⟨x, hx, hk⟩
  · exact ⟨h.rb k hk, h.row.lt k hk⟩
  · obtain ⟨i, hi, rfl⟩ := List.getElem_of_mem hx
    have := h.eb i _ k (List.getElem?_eq_getElem hi) hk
    exact ⟨this.1, this.2.1⟩
theorem OW.frZ {w w' : World} {v : Value} {us : List U} {xs : List T} {S : Nat → Prop} (hP : Stays P bl) (h : OW en sz P bl Z w v us xs) (f : Fr S w w') (hS : ∀ k, k < w.heap.size → Z k → ¬ S k) : OW en sz P bl Z w' v us xs :=
  h.fr hP f (fun k hk hi => hS k hk (h.in hi).1)
theorem OW.below {w w' : World} {v : Value} {us : List U} {xs : List T} (hP : Stays P bl) (h : OW en sz P bl Z w v us xs) (f : Below w.heap.size w w') : OW en sz P bl Z w' v us xs :=
  h.fr hP (Fr.of_below (S := fun _ => False) f) (fun _ _ _ e => e)
theorem OW.mono {w : World} {v : Value} {us : List U} {xs : List T} {Z' : Nat → Prop} (h : OW en sz P bl Z w v us xs) (hz : ∀ k, k < w.heap.size → Z k → Z' k) : OW en sz P bl Z' w v us xs :=
  ⟨h.len, h.row, fun k hk => hz k (h.row.lt k hk) (h.rb k hk), h.el, fun i x k hx hk => ⟨hz k (h.eb i x k hx hk).2.1 (h.eb i x k hx hk).1, (h.eb i x k hx hk).2⟩, h.ap⟩
/-- One thing more. -/
theorem OW.push {wr w1 w2 : World} {v v' : Value} {us : List U} {xs : List T} {u : U} {x : T} {m : Nat} (hP : Stays P bl) (h : OW en sz P bl Z wr v us xs) (hb : Below wr.heap.size wr w1) (hx : P w1 u x) (hn : ∀ k, bl x k → wr.heap.size ≤ k ∧ k < w1.heap.size) (hZ : ∀ k, wr.heap.size ≤ k → Z k)
    (hr : Ro w2 sz v' m (flt en xs ++ en x)) (hm : m = us.length + 1) (hg : w1.grownBy w2 v.ownBlock) (hat : v'.ownBlock = v.ownBlock ∨ v'.ownBlock = some w1.heap.size) :
    OW en sz P bl Z w2 v' (us ++ [u]) (xs ++ [x]) ∧ Fr (fun k => v.ownBlock = some k) wr w2 := by
  subst hm
  have hsz := hb.size
  have hln := h.len
  have f1 : Fr (fun _ => False) wr w1 := Fr.of_below hb
  have f2 : Fr (fun k => v.ownBlock = some k) w1 w2 := (Fr.refl _ w1).grown hg (fun k e => .inr e)
  have f3 : Fr (fun k => v.ownBlock = some k) wr w2 := (f1.mono (fun _ _ e => e.elim)).trans f2
  have hvn : ∀ k, v.ownBlock = some k → k < wr.heap.size := h.row.lt
  have hnew : ∀ k, v'.ownBlock = some k → v.ownBlock = some k ∨ w1.heap.size ≤ k := fun k hk => by
    rcases hat with q | q
    · exact .inl (q ▸ hk)
    · rw [q] at hk; cases hk; exact .inr (Nat.le_refl _)
  refine ⟨⟨by simp [h.len], by rw [List.length_append, flt_append, flt_one]; exact hr, fun k hk => ?_, fun i g y hf hy => ?_, fun i y k hy hk => ?_, fun i j y z k hij hy hz hk => ?_⟩, f3⟩
  · rcases hnew k hk with q | q
    · exact h.rb k q
    · exact hZ k (by omega)
  · by_cases q : i < us.length
    · rw [List.getElem?_append_left q] at hf
      rw [List.getElem?_append_left (by omega)] at hy
      exact hP _ wr w2 g y (h.el i g y hf hy) f3 (fun k hk e => (h.eb i y k hy hk).2.2 e)
    · have hi : i = us.length := by have := (List.getElem?_eq_some_iff.1 hf).1; simp at this; omega
      subst hi
      rw [List.getElem?_append_right (Nat.le_refl _), Nat.sub_self] at hf
      rw [List.getElem?_append_right (by omega), hln, Nat.sub_self] at hy
      cases hf; cases hy
      exact hP _ w1 w2 _ _ hx f2 (fun k hk e => by have := (hn k hk).1; have := hvn k e; omega)
  · by_cases q : i < xs.length
    · rw [List.getElem?_append_left q] at hy
      obtain ⟨z1, z2, z3⟩ := h.eb i y k hy hk
      refine ⟨z1, Nat.lt_of_lt_of_le z2 f3.size, fun e => ?_⟩
      rcases hnew k e with r | r
      · exact z3 r
      · omega
    · have hi : i = xs.length := by have := (List.getElem?_eq_some_iff.1 hy).1; simp at this; omega
      subst hi
      rw [List.getElem?_append_right (Nat.le_refl _), Nat.sub_self] at hy
      cases hy
      obtain ⟨n1, n2⟩ := hn k hk
      refine ⟨hZ k n1, Nat.lt_of_lt_of_le n2 f2.size, fun e => ?_⟩
      rcases hnew k e with r | r
      · have := hvn k r; omega
      · omega
  · have key : ∀ (i : Nat) (y : T), (xs ++ [x])[i]? = some y → (i < xs.length ∧ xs[i]? = some y) ∨ (i = xs.length ∧ y = x) := fun i y hy => by
      by_cases q : i < xs.length
      · rw [List.getElem?_append_left q] at hy; exact .inl ⟨q, hy⟩
      · have hi : i = xs.length := by have := (List.getElem?_eq_some_iff.1 hy).1; simp at this; omega
        subst hi
        rw [List.getElem?_append_right (Nat.le_refl _), Nat.sub_self] at hy
        cases hy
        exact .inr ⟨rfl, rfl⟩
    rcases key i y hy with ⟨q1, q2⟩ | ⟨q1, rfl⟩ <;> rcases key j z hz with ⟨r1, r2⟩ | ⟨r1, rfl⟩
    · exact h.ap i j y z k hij q2 r2 hk
    · intro e
      have := (h.eb i y k q2 hk).2.1
      have := (hn k e).1
      omega
    · intro e
      have := (h.eb j z k r2 e).2.1
      have := (hn k hk).1
      omega
    · omega
end
/-- One cell of one thing of a row is set. -/
theorem Ro.put1 {T : Type} {en : T → List Value} {sz : Nat} (hz : ∀ x, (en x).length = sz) {w : World} {v : Value} {n : Nat} {xs : List T} (h : Ro w sz v n (flt en xs)) {g off cap : Nat} (e : v = .slice (some ⟨g, off, none⟩) n cap) {i c : Nat} {x x' : T} {u : Value} (hx : xs[i]? = some x) (hc : c < sz) (hen : en x' = (en x).set c u) :
    Ro (w.setCell ⟨g, off + i * sz + c, none⟩ u) sz v n (flt en (xs.set i x')) ∧ Fr (fun b => b = g) w (w.setCell ⟨g, off + i * sz + c, none⟩ u) := by
  have hi := (List.getElem?_eq_some_iff.1 hx).1
  have hl := h.1
  rw [flt_length hz] at hl
  have hpos : 0 < sz := by omega
  have hnl : xs.length = n := Nat.eq_of_mul_eq_mul_right hpos hl
  obtain ⟨a0, c0, e0, hnc, _⟩ := h.shape
  rw [e] at e0
  cases e0
  have hb : i * sz + c < n * sz := Nat.lt_of_lt_of_le (by rw [Nat.add_mul, Nat.one_mul]; omega : i * sz + c < (i + 1) * sz) (Nat.mul_le_mul_right _ (by omega))
  have hcap : n * sz ≤ cap * sz := Nat.mul_le_mul_right _ hnc
  obtain ⟨r1, r2⟩ := h.sets e (o := off + i * sz + c) (m := n) (vs := [u]) (ys := flt en (xs.set i x')) (by omega) (by simp; omega) hnc (by rw [flt_length hz, List.length_set, hnl]) (fun j hj => by
    rw [flt_set hz xs i x' hi j]
    simp only [List.length_singleton]
    by_cases q : i * sz ≤ j ∧ j < i * sz + sz
    · rw [if_pos q, hen, List.getElem?_set]
      by_cases q2 : c = j - i * sz
      · rw [if_pos q2, if_pos (by rw [hz]; omega), if_pos (by omega), show off + j - (off + i * sz + c) = 0 by omega]; rfl
      · rw [if_neg q2, if_neg (by omega)]
        have := flt_at hz hx (j - i * sz) (by omega)
        rw [show i * sz + (j - i * sz) = j by omega] at this
        exact this.symm
    · rw [if_neg q, if_neg (by omega)]) (fun j hj q => by omega)
  rw [show w.setCells g (off + i * sz + c) [u] = w.setCell ⟨g, off + i * sz + c, none⟩ u from rfl] at r1 r2
  rw [← e] at r1
  exact ⟨r1, ⟨r2.os, r2.tape, r2.output, r2.size, fun k hk hn => r2.block k hk (fun q => hn (by cases q; rfl))⟩⟩
section
variable {T U : Type} {en : T → List Value} {sz : Nat} {P : World → U → T → Prop} {bl : T → Nat → Prop} {Z : Nat → Prop}
theorem OW.set {w : World} {v : Value} {us : List U} {xs : List T} (hP : Stays P bl) (hz : ∀ x, (en x).length = sz) (h : OW en sz P bl Z w v us xs) {g off n cap : Nat} (e : v = .slice (some ⟨g, off, none⟩) n cap) {i c : Nat} {u : U} {x x' : T} {y : Value} (hu : us[i]? = some u) (hx : xs[i]? = some x) (hc : c < sz) (hen : en x' = (en x).set c y)
    (hp : P (w.setCell ⟨g, off + i * sz + c, none⟩ y) u x') (hb : ∀ k, bl x' k → Z k ∧ k < w.heap.size ∧ v.ownBlock ≠ some k) (ha : ∀ (j : Nat) (z : T) (k : Nat), j ≠ i → xs[j]? = some z → bl x' k → ¬ bl z k) :
    OW en sz P bl Z (w.setCell ⟨g, off + i * sz + c, none⟩ y) v us (xs.set i x') ∧ Fr (fun b => b = g) w (w.setCell ⟨g, off + i * sz + c, none⟩ y) := by
  obtain ⟨a0, c0, e0, _⟩ := h.row.shape
  have en' : n = us.length := by rw [e] at e0; cases e0; rfl
  subst en'
  obtain ⟨r1, r2⟩ := h.row.put1 hz e hx hc hen
  have hi := (List.getElem?_eq_some_iff.1 hx).1
  have hself : (xs.set i x')[i]? = some x' := by rw [List.getElem?_set_self hi]
  have hoth : ∀ j, j ≠ i → (xs.set i x')[j]? = xs[j]? := fun j hj => List.getElem?_set_ne (fun e => hj e.symm)
  refine ⟨⟨by simp [h.len], r1, h.rb, fun j q z hq hz' => ?_, fun j z k hz' hk => ?_, fun j l z z' k hjl hz1 hz2 hk => ?_⟩, r2⟩
  · by_cases hj : j = i
    · subst hj
      rw [hself] at hz'
      cases hz'
      rw [hu] at hq
      cases hq
      exact hp
    · rw [hoth j hj] at hz'
      exact hP _ w _ q z (h.el j q z hq hz') r2 (fun k hk e2 => (h.eb j z k hz' hk).2.2 (by rw [e, e2]; rfl))
  · by_cases hj : j = i
    · subst hj
      rw [hself] at hz'
      cases hz'
      obtain ⟨b1, b2, b3⟩ := hb k hk
      exact ⟨b1, Nat.lt_of_lt_of_le b2 r2.size, b3⟩
    · rw [hoth j hj] at hz'
      obtain ⟨b1, b2, b3⟩ := h.eb j z k hz' hk
      exact ⟨b1, Nat.lt_of_lt_of_le b2 r2.size, b3⟩
  · by_cases hj : j = i
    · subst hj
      rw [hself] at hz1
      cases hz1
      rw [hoth l (fun e => hjl e.symm)] at hz2
      exact ha l z' k (fun e => hjl e.symm) hz2 hk
    · rw [hoth j hj] at hz1
      by_cases hl : l = i
      · subst hl
        rw [hself] at hz2
        cases hz2
        exact fun e2 => ha j z k hj hz1 e2 hk
      · rw [hoth l hl] at hz2
        exact h.ap j l z z' k hjl hz1 hz2 hk
end
section
variable {T U : Type} {en : T → List Value} {sz : Nat} {P : World → U → T → Prop} {bl : T → Nat → Prop} {Z : Nat → Prop}
/-- A thing's own rows turn; its cells in the row don't. -/
theorem OW.inner {w w' : World} {v : Value} {us : List U} {xs : List T} {S : Nat → Prop} (hP : Stays P bl) (hz : ∀ x, (en x).length = sz) (h : OW en sz P bl Z w v us xs) (f : Fr S w w') {i : Nat} {u : U} {x x' : T} (hu : us[i]? = some u) (hx : xs[i]? = some x) (hen : en x' = en x)
    (hS : ∀ (j : Nat) (z : T) (k : Nat), j ≠ i → xs[j]? = some z → bl z k → ¬ S k) (hv : ∀ k, v.ownBlock = some k → ¬ S k)
    (hp : P w' u x') (hb : ∀ k, bl x' k → Z k ∧ k < w'.heap.size ∧ v.ownBlock ≠ some k) (ha : ∀ (j : Nat) (z : T) (k : Nat), j ≠ i → xs[j]? = some z → bl x' k → ¬ bl z k) :
    OW en sz P bl Z w' v us (xs.set i x') := by
  have hi := (List.getElem?_eq_some_iff.1 hx).1
  have hself : (xs.set i x')[i]? = some x' := by rw [List.getElem?_set_self hi]
  have hoth : ∀ j, j ≠ i → (xs.set i x')[j]? = xs[j]? := fun j hj => List.getElem?_set_ne (fun e => hj e.symm)
  have hfl : flt en (xs.set i x') = flt en xs := List.ext_getElem? (fun j => by
    rw [flt_set hz xs i x' hi j]
    split
    · rw [hen]
      have := flt_at hz hx (j - i * sz) (by omega)
      rw [show i * sz + (j - i * sz) = j by omega] at this
      exact this.symm
    · rfl)
  refine ⟨by simp [h.len], by rw [hfl]; exact h.row.fr f hv, h.rb, fun j q z hq hz' => ?_, fun j z k hz' hk => ?_, fun j l z z' k hjl hz1 hz2 hk => ?_⟩
  · by_cases hj : j = i
    · subst hj
      rw [hself] at hz'
      cases hz'
      rw [hu] at hq
      cases hq
      exact hp
    · rw [hoth j hj] at hz'
      exact hP _ w _ q z (h.el j q z hq hz') f (fun k hk => hS j z k hj hz' hk)
  · by_cases hj : j = i
    · subst hj
      rw [hself] at hz'
      cases hz'
      exact hb k hk
    · rw [hoth j hj] at hz'
      obtain ⟨b1, b2, b3⟩ := h.eb j z k hz' hk
      exact ⟨b1, Nat.lt_of_lt_of_le b2 f.size, b3⟩
  · by_cases hj : j = i
    · subst hj
      rw [hself] at hz1
      cases hz1
      rw [hoth l (fun e => hjl e.symm)] at hz2
      exact ha l z' k (fun e => hjl e.symm) hz2 hk
    · rw [hoth j hj] at hz1
      by_cases hl : l = i
      · subst hl
        rw [hself] at hz2
        cases hz2
        exact fun e2 => ha j z k hj hz1 e2 hk
      · rw [hoth l hl] at hz2
        exact h.ap j l z z' k hjl hz1 hz2 hk
end
end Go.Proofs.YtpbdmbmafjkinaaDoor
