/-
  Frames; rows that begin anywhere in their block.
-/
import Derived.Test.YtnefmfnchimppaaProg
import Derived.WalkKit
import Derived.Below
import Derived.ArgAppend
import Derived.Deep.Draws
import Derived.KernelRfl
namespace Go.Proofs.Ytnefmfnchimppaa
open Go.RowKit
set_option linter.unusedVariables false

def Hid (p : Prop) : Prop := p
theorem hide {p : Prop} (h : p) : Hid p := h
theorem unhide {p : Prop} (h : Hid p) : p := h

/-- From w to w' nothing has turned but the blocks of which S holds, and new ones. -/
structure Fr (S : Nat → Prop) (w w' : World) : Prop where
  os : w'.os = w.os
  tape : w'.tape = w.tape
  output : w'.output = w.output
  size : w.heap.size ≤ w'.heap.size
  block : ∀ k, k < w.heap.size → ¬ S k → w'.heap[k]? = w.heap[k]?

theorem Fr.refl (S : Nat → Prop) (w : World) : Fr S w w := ⟨rfl, rfl, rfl, Nat.le_refl _, fun _ _ _ => rfl⟩
theorem Fr.mono {S T : Nat → Prop} {w w' : World} (h : Fr S w w') (hs : ∀ k, k < w.heap.size → S k → T k) : Fr T w w' :=
  ⟨h.os, h.tape, h.output, h.size, fun k hk hn => h.block k hk (fun hS => hn (hs k hk hS))⟩
theorem Fr.trans {S : Nat → Prop} {a b c : World} (h : Fr S a b) (k : Fr S b c) : Fr S a c :=
  ⟨k.os.trans h.os, k.tape.trans h.tape, k.output.trans h.output, Nat.le_trans h.size k.size,
    fun i hi hn => (k.block i (Nat.lt_of_lt_of_le hi h.size) hn).trans (h.block i hi hn)⟩
theorem Fr.alloc {S : Nat → Prop} {a w : World} (h : Fr S a w) (o : Obj) : Fr S a (w.alloc o) :=
  ⟨h.os, h.tape, h.output, Nat.le_trans h.size (by simp), fun k hk hn => (Below.heap_alloc _ _ _ (Nat.lt_of_lt_of_le hk h.size)).trans (h.block k hk hn)⟩
theorem Fr.drew {S : Nat → Prop} {a w : World} (h : Fr S a w) : Fr S a w.drew := ⟨h.os, h.tape, h.output, h.size, h.block⟩
theorem Fr.setCell {S : Nat → Prop} {a w : World} (h : Fr S a w) (p : Addr) (hp : a.heap.size ≤ p.block ∨ S p.block) (u : Value) : Fr S a (w.setCell p u) :=
  ⟨h.os, h.tape, h.output, Nat.le_trans h.size (by simp [World.setCell]), fun k hk hn => by
    rw [Below.heap_setCell _ _ _ _ ?_]
    · exact h.block k hk hn
    · intro e; subst e
      rcases hp with hp | hp
      · omega
      · exact hn hp⟩
theorem Fr.grown {S : Nat → Prop} {a w w' : World} {row : Option Nat} (h : Fr S a w) (hg : w.grownBy w' row) (hr : ∀ k, row = some k → a.heap.size ≤ k ∨ S k) : Fr S a w' :=
  ⟨hg.os.trans h.os, hg.tape.trans h.tape, hg.output.trans h.output, Nat.le_trans h.size hg.size, fun k hk hn => by
    rw [hg.block k (Nat.lt_of_lt_of_le hk h.size) ?_]
    · exact h.block k hk hn
    · intro e
      rcases hr k e.symm with hp | hp
      · omega
      · exact hn hp⟩
theorem Fr.below {S : Nat → Prop} {B : Nat} {w w' : World} (h : Fr S w w') (hB : B ≤ w.heap.size) (hs : ∀ k, k < B → ¬ S k) : Below B w w' :=
  ⟨h.os, h.tape, h.output, h.size, fun k hk => h.block k (by omega) (hs k hk)⟩
theorem Fr.of_below {S : Nat → Prop} {w w' : World} (h : Below w.heap.size w w') : Fr S w w' :=
  ⟨h.os, h.tape, h.output, h.size, fun k hk _ => h.block k hk⟩
theorem Fr.cell {S : Nat → Prop} {w w' : World} (h : Fr S w w') {a : Addr} (hb : a.block < w.heap.size) (hn : ¬ S a.block) : w'.cell? a = w.cell? a :=
  World.cell?_of_block (h.block a.block hb hn)
theorem Fr.frozen {S : Nat → Prop} {w w' : World} (h : Fr S w w') {a : Addr} (hb : a.block < w.heap.size) (hn : ¬ S a.block) : w'.frozen? a = w.frozen? a :=
  World.frozen?_of_block (h.block a.block hb hn)
theorem Fr.drewN {S : Nat → Prop} {w : World} (n : Nat) : Fr S w (w.drewN n) := ⟨rfl, rfl, rfl, Nat.le_refl _, fun _ _ _ => rfl⟩

theorem setCells_size (b : Nat) : ∀ (vs : List Value) (o : Nat) (w : World), (w.setCells b o vs).heap.size = w.heap.size
  | [], _, _ => rfl
  | v :: r, o, w => by rw [World.setCells, setCells_size b r]; simp [World.setCell]
theorem setCells_other (b k : Nat) (hk : k ≠ b) : ∀ (vs : List Value) (o : Nat) (w : World), (w.setCells b o vs).heap[k]? = w.heap[k]?
  | [], _, _ => rfl
  | v :: r, o, w => by rw [World.setCells, setCells_other b k hk r, Below.heap_setCell _ _ _ _ hk]
theorem setCells_rest (b : Nat) : ∀ (vs : List Value) (o : Nat) (w : World), (w.setCells b o vs).os = w.os ∧ (w.setCells b o vs).tape = w.tape ∧ (w.setCells b o vs).output = w.output
  | [], _, _ => ⟨rfl, rfl, rfl⟩
  | v :: r, o, w => by rw [World.setCells]; exact setCells_rest b r _ _
theorem setCell_block {w : World} {g o : Nat} {cur : Array Value} {t : TypeId} {fz : Nat × Nat} (h : w.heap[g]? = some (.cells cur t fz)) (u : Value) :
    (w.setCell ⟨g, o, none⟩ u).heap[g]? = some (.cells (cur.setIfInBounds o u) t fz) := by
  simp only [World.setCell, Array.getElem?_modify, ↓reduceIte, h, Option.map_some]
  simp
theorem setCells_block (g : Nat) {t : TypeId} {fz : Nat × Nat} : ∀ (vs : List Value) (o : Nat) (w : World) (cur : Array Value), w.heap[g]? = some (.cells cur t fz) → o + vs.length ≤ cur.size →
    ∃ cur', (w.setCells g o vs).heap[g]? = some (.cells cur' t fz) ∧ cur'.size = cur.size ∧ ∀ k, cur'[k]? = if o ≤ k ∧ k < o + vs.length then vs[k - o]? else cur[k]?
  | [], o, w, cur, h, _ => ⟨cur, h, rfl, fun k => by rw [if_neg (by simp)]⟩
  | v :: r, o, w, cur, h, hl => by
    simp only [List.length_cons] at hl
    obtain ⟨cur', h1, h2, h3⟩ := setCells_block g r (o + 1) (w.setCell ⟨g, o, none⟩ v) _ (setCell_block h v) (by simp; omega)
    refine ⟨cur', by rw [World.setCells]; exact h1, by rw [h2]; simp, fun k => ?_⟩
    rw [h3 k]
    simp only [List.length_cons]
    by_cases e : k = o
    · subst e
      rw [if_neg (by omega), if_pos (by omega), Array.getElem?_setIfInBounds_self_of_lt (by omega)]
      simp
    · by_cases q : o + 1 ≤ k ∧ k < o + 1 + r.length
      · rw [if_pos q, if_pos (by omega), show k - o = (k - (o + 1)) + 1 by omega]
        rfl
      · rw [if_neg q, if_neg (by omega), Array.getElem?_setIfInBounds_ne (by omega)]

/-- A row: n elements of sz cells each, which are xs; it may begin anywhere in its block. -/
def Ro (w : World) (sz : Nat) (v : Value) (n : Nat) (xs : List Value) : Prop :=
  xs.length = n * sz ∧ ((v = .slice none 0 0 ∧ n = 0) ∨
    ∃ g off cap cur t, v = .slice (some ⟨g, off, none⟩) n cap ∧ w.heap[g]? = some (.cells cur t (0, 0)) ∧ n ≤ cap ∧ cap ≤ maxLen ∧ off + cap * sz ≤ cur.size ∧ ∀ j, j < n * sz → cur[off + j]? = xs[j]?)

section
variable {w w' : World} {sz : Nat} {v : Value} {n : Nat} {xs : List Value}
theorem Ro.nil (w : World) (sz : Nat) : Ro w sz (.slice none 0 0) 0 [] := ⟨by simp, .inl ⟨rfl, rfl⟩⟩
theorem Ro.keep (h : Ro w sz v n xs) (hb : ∀ g, v.ownBlock = some g → w'.heap[g]? = w.heap[g]?) : Ro w' sz v n xs := by
  obtain ⟨h1, h2⟩ := h
  refine ⟨h1, ?_⟩
  rcases h2 with h2 | ⟨g, off, cap, cur, t, hv, hh, r⟩
  · exact .inl h2
  · exact .inr ⟨g, off, cap, cur, t, hv, by rw [hb g (by rw [hv]; rfl)]; exact hh, r⟩
theorem Ro.lt (h : Ro w sz v n xs) : ∀ k, v.ownBlock = some k → k < w.heap.size := by
  rcases h.2 with ⟨e, _⟩ | ⟨g, off, cap, cur, t, e, hh, _⟩
  · rw [e]; intro k hk; cases hk
  · rw [e]; intro k hk; cases hk
    exact (Array.getElem?_eq_some_iff.1 hh).1
theorem Ro.fr {S : Nat → Prop} (h : Ro w sz v n xs) (f : Fr S w w') (hn : ∀ k, v.ownBlock = some k → ¬ S k) : Ro w' sz v n xs :=
  h.keep (fun g hg => f.block g (h.lt g hg) (hn g hg))
theorem Ro.shape (h : Ro w sz v n xs) : ∃ a cap, v = .slice a n cap ∧ n ≤ cap ∧ cap ≤ maxLen := by
  rcases h.2 with ⟨e, h0⟩ | ⟨g, off, cap, cur, t, e, _, h1, h2, _⟩
  · exact ⟨none, 0, by rw [e, h0], by omega, Nat.zero_le _⟩
  · exact ⟨_, cap, e, h1, h2⟩
/-- A row that isn't empty: where it lies, and its cells. -/
theorem Ro.full (h : Ro w sz v n xs) (hn : 0 < n) : ∃ g off cap, v = .slice (some ⟨g, off, none⟩) n cap ∧ n ≤ cap ∧ cap ≤ maxLen ∧ g < w.heap.size ∧ ∀ j, j < n * sz → w.cell? ⟨g, off + j, none⟩ = xs[j]? := by
  rcases h.2 with ⟨_, h0⟩ | ⟨g, off, cap, cur, t, e, hh, h1, h2, _, h3⟩
  · omega
  · refine ⟨g, off, cap, e, h1, h2, (Array.getElem?_eq_some_iff.1 hh).1, fun j hj => ?_⟩
    rw [← h3 j hj]
    simp [World.cell?, hh]
theorem Ro.free (h : Ro w sz v n xs) {g off cap : Nat} (e : v = .slice (some ⟨g, off, none⟩) n cap) (k : Nat) : w.frozen? ⟨g, k, none⟩ = false := by
  rcases h.2 with ⟨e2, _⟩ | ⟨g', off', cap', cur, t, e2, hh, _⟩
  · rw [e] at e2; cases e2
  · rw [e] at e2; cases e2
    simp [World.frozen?, hh]
theorem Ro.of_own {base : Nat} {e : TypeId} (h : w.ownsRow base e sz v n xs) : Ro w sz v n xs := by
  obtain ⟨h1, h2⟩ := h
  refine ⟨h1, ?_⟩
  rcases h2 with h2 | ⟨g, cap, cur, hv, _, hh, h3, h4, h5, h6⟩
  · exact .inl h2
  · refine .inr ⟨g, 0, cap, cur, e, hv, hh, h3, h4, by omega, fun j hj => ?_⟩
    rw [← h6, List.getElem?_take, if_pos hj]
    simp
/-- Without its first elements. -/
theorem Ro.past (h : Ro w sz v n xs) {g off cap : Nat} (e : v = .slice (some ⟨g, off, none⟩) n cap) {k : Nat} (hk : k ≤ n) : Ro w sz (.slice (some ⟨g, off + k * sz, none⟩) (n - k) (cap - k)) (n - k) (xs.drop (k * sz)) := by
  obtain ⟨h1, h2⟩ := h
  have em : (n - k) * sz = n * sz - k * sz := Nat.sub_mul _ _ _
  have ecm : (cap - k) * sz = cap * sz - k * sz := Nat.sub_mul _ _ _
  have hkm : k * sz ≤ n * sz := Nat.mul_le_mul_right _ hk
  refine ⟨by rw [List.length_drop, h1, em], ?_⟩
  rcases h2 with ⟨e2, _⟩ | ⟨g', off', cap', cur, t, e2, hh, h3, h4, h5, h6⟩
  · rw [e] at e2; cases e2
  · rw [e] at e2; cases e2
    have hcm : n * sz ≤ cap * sz := Nat.mul_le_mul_right _ h3
    refine .inr ⟨g, _, cap - k, cur, t, rfl, hh, by omega, by omega, by omega, fun j hj => ?_⟩
    rw [List.getElem?_drop, ← h6 (k * sz + j) (by omega), Nat.add_assoc]
/-- Its first elements. -/
theorem Ro.upto (h : Ro w sz v n xs) {g off cap : Nat} (e : v = .slice (some ⟨g, off, none⟩) n cap) {k : Nat} (hk : k ≤ n) : Ro w sz (.slice (some ⟨g, off, none⟩) k cap) k (xs.take (k * sz)) := by
  obtain ⟨h1, h2⟩ := h
  have hkm : k * sz ≤ n * sz := Nat.mul_le_mul_right _ hk
  refine ⟨by rw [List.length_take, h1]; omega, ?_⟩
  rcases h2 with ⟨e2, _⟩ | ⟨g', off', cap', cur, t, e2, hh, h3, h4, h5, h6⟩
  · rw [e] at e2; cases e2
  · rw [e] at e2; cases e2
    refine .inr ⟨g, _, cap, cur, t, rfl, hh, by omega, h4, h5, fun j hj => ?_⟩
    rw [List.getElem?_take, if_pos hj, ← h6 j (by omega)]

/-- Cells of the row are set. -/
theorem Ro.sets (h : Ro w sz v n xs) {g off cap : Nat} (e : v = .slice (some ⟨g, off, none⟩) n cap) {o m : Nat} {vs ys : List Value} (ho : off ≤ o) (hl : o + vs.length ≤ off + cap * sz) (hm : m ≤ cap) (hy : ys.length = m * sz)
    (hys : ∀ j, j < m * sz → ys[j]? = if o ≤ off + j ∧ off + j < o + vs.length then vs[off + j - o]? else xs[j]?) (hmn : ∀ j, j < m * sz → n * sz ≤ j → o ≤ off + j ∧ off + j < o + vs.length) :
    Ro (w.setCells g o vs) sz (.slice (some ⟨g, off, none⟩) m cap) m ys ∧ w.grownBy (w.setCells g o vs) (some g) := by
  obtain ⟨r1, r2, r3⟩ := setCells_rest g vs o w
  refine ⟨⟨hy, ?_⟩, r1, r2, r3, by rw [setCells_size]; exact Nat.le_refl _, fun k _ hk => setCells_other g k (fun e => hk (by rw [e])) vs o w⟩
  rcases h.2 with ⟨e2, _⟩ | ⟨g', off', cap', cur, t, e2, hh, h3, h4, h5, h6⟩
  · rw [e] at e2; cases e2
  · rw [e] at e2; cases e2
    obtain ⟨cur', k1, k2, k3⟩ := setCells_block g vs o w cur hh (by omega)
    refine .inr ⟨g, off, cap, cur', t, rfl, k1, hm, h4, by omega, fun j hj => ?_⟩
    rw [k3, hys j hj]
    by_cases q : o ≤ off + j ∧ off + j < o + vs.length
    · rw [if_pos q, if_pos q]
    · rw [if_neg q, if_neg q]
      by_cases q2 : n * sz ≤ j
      · exact absurd (hmn j hj q2) q
      · exact h6 j (by omega)
end

/-- append onto a row. -/
theorem Ro.app {P : Program} {w : World} {v : Value} {n : Nat} {xs : List Value} (t ty e : TypeId) (i : TypeInfo) (z : Value) (size bytes : Nat) (ht : P.underlying t = some (.slice e)) (hi : P.info? e = some i) (hz : i.zero = some z)
    (hsize : i.size = size) (hby : i.bytes = bytes) (hzs : z.cells.size = size) (hsz : 0 < size) (h : Ro w size v n xs)
    (a : Addr) (m c : Nat) (news : List Value) (hl : news.length = m * size) (hnews : ∀ j u, news[j]? = some u → w.cell? (a.add j) = some u) (h1 : ∀ u ∈ news, u.oneCell' = true)
    (h0 : 0 < m) (h63 : n + m ≤ maxLen) (hbytes : (n + m) * bytes ≤ 140737488355328) :
    ∃ v' w', (Builtin.append_ #[t, t] ty #[v, .slice (some a) m c]).run P w = .ok v' w' ∧ Ro w' size v' (n + m) (xs ++ news) ∧ w.grownBy w' v.ownBlock ∧ (v'.ownBlock = v.ownBlock ∨ v'.ownBlock = some w.heap.size) := by
  have hlen : (xs ++ news).length = (n + m) * size := by rw [List.length_append, h.1, hl, Nat.add_mul]
  have hxl := h.1
  rcases h.2 with ⟨e2, h0n⟩ | ⟨g, off, cap, cur, t', e2, hh, h3, h4, h5, h6⟩
  · subst e2; subst h0n
    obtain rfl : xs = [] := List.eq_nil_of_length_eq_zero (by omega)
    have hge := grownCap_ge w m 0 e
    have hcm : grownCap w m 0 e ≤ maxLen := grownCap_le_maxLen w m 0 e (by omega)
    have hr := run_append_nil (P := P) w t ty e i z ht hi hz a m c news (by rw [hsize]; exact hl) hnews h0 (by unfold maxLen at h63; omega) (by rw [hby]; simp only [Nat.zero_add] at hbytes; omega)
    refine ⟨_, _, hr, ⟨hlen, .inr ⟨w.heap.size, 0, _, _, e, by rw [Nat.zero_add], heap_alloc_new w.drew _, by omega, hcm, ?_, fun j hj => ?_⟩⟩, ⟨rfl, rfl, rfl, by simp, fun k hk _ => Below.heap_alloc _ _ _ (by simpa using hk)⟩, .inr rfl⟩
    · simp only [Array.size_append, List.size_toArray, size_zeroCells, hzs, hl, ← Nat.add_mul, Nat.zero_add]
      refine Nat.mul_le_mul_right _ ?_
      omega
    · simp only [Nat.zero_add, List.nil_append] at hj ⊢
      rw [Array.getElem?_append_left (by simp; omega)]
      simp
  · subst e2
    by_cases hroom : n + m ≤ cap
    · have hfit : n * size + m * size ≤ cap * size := by rw [← Nat.add_mul]; exact Nat.mul_le_mul_right _ hroom
      have hr := run_append_room_cells (P := P) w t ty e i ht hi g off n cap a m c news (by rw [hsize]; exact hl) hnews h1 hroom (fun j hj => by
        rw [hsize, hl] at *
        have : off + n * size + j < cur.size := by omega
        simp [World.cell?, hh]
        omega) (fun j hj => by simp [World.frozen?, hh])
      rw [hsize] at hr
      obtain ⟨k1, k2⟩ := h.sets (v := .slice (some ⟨g, off, none⟩) n cap) rfl (o := off + n * size) (m := n + m) (vs := news) (ys := xs ++ news) (by omega) (by rw [hl]; omega) hroom hlen (fun j hj => by
        rw [Nat.add_mul] at hj
        by_cases q : n * size ≤ j
        · rw [if_pos (by omega), List.getElem?_append_right (by omega)]
          congr 1
          omega
        · rw [if_neg (by omega), List.getElem?_append_left (by omega)]) (fun j hj hq => by rw [Nat.add_mul] at hj; omega)
      exact ⟨_, _, hr, k1, k2, .inl rfl⟩
    · have hge := grownCap_ge w (n + m) cap e
      have hcm : grownCap w (n + m) cap e ≤ maxLen := grownCap_le_maxLen w (n + m) cap e h63
      have hr := run_append_grow (P := P) w t ty e i z ht hi hz ⟨g, off, none⟩ n cap xs (by rw [hsize]; exact hxl) (fun j u hu => by
          have hj : j < n * size := by have := (List.getElem?_eq_some_iff.1 hu).1; omega
          rw [Go.WideShapes.add_plain, ← hu, ← h6 j hj]
          simp [World.cell?, hh]) a m c news (by rw [hsize]; exact hl) hnews (by omega) (by unfold maxLen at h63; omega) (by rw [hby]; exact growslice_fits (by omega) hbytes)
      refine ⟨_, _, hr, ⟨hlen, .inr ⟨w.heap.size, 0, _, _, e, rfl, heap_alloc_new w.drew _, by omega, hcm, ?_, fun j hj => ?_⟩⟩, ⟨rfl, rfl, rfl, by simp, fun k hk _ => Below.heap_alloc _ _ _ (by simpa using hk)⟩, .inr rfl⟩
      · simp only [Array.size_append, List.size_toArray, size_zeroCells, hzs, hl, hxl, ← Nat.add_mul, Nat.zero_add]
        refine Nat.mul_le_mul_right _ ?_
        omega
      · rw [Nat.zero_add, Array.getElem?_append_left (by rw [Array.size_append, List.size_toArray, List.size_toArray, hl, hxl, ← Nat.add_mul]; exact hj)]
        simp
end Go.Proofs.Ytnefmfnchimppaa
