/-
  Rows that begin anywhere; lists of instructions: copied, lent, kept.
-/
import Derived.Test.YtonnkaphomonpaaOps2
import Derived.Test.YtonnkaphomonpaaKept
import Derived.ArgAppend
import Derived.Deep.Draws
import Derived.KernelRfl
import Derived.BigQuiet
import Derived.OwnWalk
namespace Go.Proofs.Ytonnkaphomonpaa
open Go.RowKit
set_option linter.unusedVariables false

theorem Fr.idrewN {S : Nat → Prop} {w : World} (n : Nat) : Fr S w (w.drewN n) := ⟨rfl, rfl, rfl, Nat.le_refl _, fun _ _ _ => rfl⟩

theorem setCells_size (b : Nat) : ∀ (vs : List Value) (o : Nat) (w : World), (w.setCells b o vs).heap.size = w.heap.size
  | [], _, _ => rfl
  | v :: r, o, w => by rw [World.setCells, setCells_size b r]; simp [World.setCell]
theorem setCells_other (b k : Nat) (hk : k ≠ b) : ∀ (vs : List Value) (o : Nat) (w : World), (w.setCells b o vs).heap[k]? = w.heap[k]?
  | [], _, _ => rfl
  | v :: r, o, w => by rw [World.setCells, setCells_other b k hk r, Below.heap_setCell _ _ _ _ hk]
theorem setCells_rest (b : Nat) : ∀ (vs : List Value) (o : Nat) (w : World), (w.setCells b o vs).os = w.os ∧ (w.setCells b o vs).tape = w.tape ∧ (w.setCells b o vs).output = w.output
  | [], _, _ => ⟨rfl, rfl, rfl⟩
  | v :: r, o, w => by rw [World.setCells]; exact setCells_rest b r _ _
theorem setCell_block {w : World} {g o : Nat} {cur : Array Value} {t : TypeId} {fz : Nat × Nat} (h : w.heap[g]? = some (.cells cur t fz)) (u : Value) :
    (w.setCell ⟨g, o, none⟩ u).heap[g]? = some (.cells (cur.setIfInBounds o u) t fz) := by
  simp only [World.setCell, Array.getElem?_modify, ↓reduceIte, h, Option.map_some]
  simp
theorem setCells_block (g : Nat) {t : TypeId} {fz : Nat × Nat} : ∀ (vs : List Value) (o : Nat) (w : World) (cur : Array Value), w.heap[g]? = some (.cells cur t fz) → o + vs.length ≤ cur.size →
    ∃ cur', (w.setCells g o vs).heap[g]? = some (.cells cur' t fz) ∧ cur'.size = cur.size ∧ ∀ k, cur'[k]? = if o ≤ k ∧ k < o + vs.length then vs[k - o]? else cur[k]?
  | [], o, w, cur, h, _ => ⟨cur, h, rfl, fun k => by rw [if_neg (by simp)]⟩
  | v :: r, o, w, cur, h, hl => by
    simp only [List.length_cons] at hl
    obtain ⟨cur', h1, h2, h3⟩ := setCells_block g r (o + 1) (w.setCell ⟨g, o, none⟩ v) _ (setCell_block h v) (by simp; omega)
    refine ⟨cur', by rw [World.setCells]; exact h1, by rw [h2]; simp, fun k => ?_⟩
    rw [h3 k]
    simp only [List.length_cons]
    by_cases e : k = o
    · subst e
      rw [if_neg (by omega), if_pos (by omega), Array.getElem?_setIfInBounds_self_of_lt (by omega)]
      simp
    · by_cases q : o + 1 ≤ k ∧ k < o + 1 + r.length
      · rw [if_pos q, if_pos (by omega), show k - o = (k - (o + 1)) + 1 by omega]
        rfl
      · rw [if_neg q, if_neg (by omega), Array.getElem?_setIfInBounds_ne (by omega)]

/-- A row: n elements of sz cells each, which are xs; it may begin anywhere in its block. -/
def Ro (w : World) (sz : Nat) (v : Value) (n : Nat) (xs : List Value) : Prop :=
  xs.length = n * sz ∧ ((v = .slice none 0 0 ∧ n = 0) ∨
    ∃ g off cap cur t, v = .slice (some ⟨g, off, none⟩) n cap ∧ w.heap[g]? = some (.cells cur t (0, 0)) ∧ n ≤ cap ∧ cap ≤ maxLen ∧ off + cap * sz ≤ cur.size ∧ ∀ j, j < n * sz → cur[off + j]? = xs[j]?)

section
variable {w w' : World} {sz : Nat} {v : Value} {n : Nat} {xs : List Value}
theorem Ro.nil (w : World) (sz : Nat) : Ro w sz (.slice none 0 0) 0 [] := ⟨by simp, .inl ⟨rfl, rfl⟩⟩
theorem Ro.keep (h : Ro w sz v n xs) (hb : ∀ g, v.ownBlock = some g → w'.heap[g]? = w.heap[g]?) : Ro w' sz v n xs := by
  obtain ⟨h1, h2⟩ := h
  refine ⟨h1, ?_⟩
  rcases h2 with h2 | ⟨g, off, cap, cur, t, hv, hh, r⟩
  · exact .inl h2
  · exact .inr ⟨g, off, cap, cur, t, hv, by rw [hb g (by rw [hv]; rfl)]; exact hh, r⟩
theorem Ro.lt (h : Ro w sz v n xs) : ∀ k, v.ownBlock = some k → k < w.heap.size := by
  rcases h.2 with ⟨e, _⟩ | ⟨g, off, cap, cur, t, e, hh, _⟩
  · rw [e]; intro k hk; cases hk
  · rw [e]; intro k hk; cases hk
    exact (Array.getElem?_eq_some_iff.1 hh).1
theorem Ro.fr {S : Nat → Prop} (h : Ro w sz v n xs) (f : Fr S w w') (hn : ∀ k, v.ownBlock = some k → ¬ S k) : Ro w' sz v n xs :=
  h.keep (fun g hg => f.block g (h.lt g hg) (hn g hg))
theorem Ro.shape (h : Ro w sz v n xs) : ∃ a cap, v = .slice a n cap ∧ n ≤ cap ∧ cap ≤ maxLen := by
  rcases h.2 with ⟨e, h0⟩ | ⟨g, off, cap, cur, t, e, _, h1, h2, _⟩
  · exact ⟨none, 0, by rw [e, h0], by omega, Nat.zero_le _⟩
  · exact ⟨_, cap, e, h1, h2⟩
/-- A row that isn't empty: where it lies, and its cells. -/
theorem Ro.full (h : Ro w sz v n xs) (hn : 0 < n) : ∃ g off cap, v = .slice (some ⟨g, off, none⟩) n cap ∧ n ≤ cap ∧ cap ≤ maxLen ∧ g < w.heap.size ∧ ∀ j, j < n * sz → w.cell? ⟨g, off + j, none⟩ = xs[j]? := by
  rcases h.2 with ⟨_, h0⟩ | ⟨g, off, cap, cur, t, e, hh, h1, h2, _, h3⟩
  · omega
  · refine ⟨g, off, cap, e, h1, h2, (Array.getElem?_eq_some_iff.1 hh).1, fun j hj => ?_⟩
    rw [← h3 j hj]
    simp [World.cell?, hh]
theorem Ro.free (h : Ro w sz v n xs) {g off cap : Nat} (e : v = .slice (some ⟨g, off, none⟩) n cap) (k : Nat) : w.frozen? ⟨g, k, none⟩ = false := by
  rcases h.2 with ⟨e2, _⟩ | ⟨g', off', cap', cur, t, e2, hh, _⟩
  · rw [e] at e2; cases e2
  · rw [e] at e2; cases e2
    simp [World.frozen?, hh]
theorem Ro.of_own {base : Nat} {e : TypeId} (h : w.ownsRow base e sz v n xs) : Ro w sz v n xs := by
  obtain ⟨h1, h2⟩ := h
  refine ⟨h1, ?_⟩
  rcases h2 with h2 | ⟨g, cap, cur, hv, _, hh, h3, h4, h5, h6⟩
  · exact .inl h2
  · refine .inr ⟨g, 0, cap, cur, e, hv, hh, h3, h4, by omega, fun j hj => ?_⟩
    rw [← h6, List.getElem?_take, if_pos hj]
    simp
/-- Without its first elements. -/
theorem Ro.past (h : Ro w sz v n xs) {g off cap : Nat} (e : v = .slice (some ⟨g, off, none⟩) n cap) {k : Nat} (hk : k ≤ n) : Ro w sz (.slice (some ⟨g, off + k * sz, none⟩) (n - k) (cap - k)) (n - k) (xs.drop (k * sz)) := by
  obtain ⟨h1, h2⟩ := h
  have em : (n - k) * sz = n * sz - k * sz := Nat.sub_mul _ _ _
  have ecm : (cap - k) * sz = cap * sz - k * sz := Nat.sub_mul _ _ _
  have hkm : k * sz ≤ n * sz := Nat.mul_le_mul_right _ hk
  refine ⟨by rw [List.length_drop, h1, em], ?_⟩
  rcases h2 with ⟨e2, _⟩ | ⟨g', off', cap', cur, t, e2, hh, h3, h4, h5, h6⟩
  · rw [e] at e2; cases e2
  · rw [e] at e2; cases e2
    have hcm : n * sz ≤ cap * sz := Nat.mul_le_mul_right _ h3
    refine .inr ⟨g, _, cap - k, cur, t, rfl, hh, by omega, by omega, by omega, fun j hj => ?_⟩
    rw [List.getElem?_drop, ← h6 (k * sz + j) (by omega), Nat.add_assoc]
/-- Its first elements. -/
theorem Ro.upto (h : Ro w sz v n xs) {g off cap : Nat} (e : v = .slice (some ⟨g, off, none⟩) n cap) {k : Nat} (hk : k ≤ n) : Ro w sz (.slice (some ⟨g, off, none⟩) k cap) k (xs.take (k * sz)) := by
  obtain ⟨h1, h2⟩ := h
  have hkm : k * sz ≤ n * sz := Nat.mul_le_mul_right _ hk
  refine ⟨by rw [List.length_take, h1]; omega, ?_⟩
  rcases h2 with ⟨e2, _⟩ | ⟨g', off', cap', cur, t, e2, hh, h3, h4, h5, h6⟩
  · rw [e] at e2; cases e2
  · rw [e] at e2; cases e2
    refine .inr ⟨g, _, cap, cur, t, rfl, hh, by omega, h4, h5, fun j hj => ?_⟩
    rw [List.getElem?_take, if_pos hj, ← h6 j (by omega)]

/-- Cells of the row are set. -/
theorem Ro.sets (h : Ro w sz v n xs) {g off cap : Nat} (e : v = .slice (some ⟨g, off, none⟩) n cap) {o m : Nat} {vs ys : List Value} (ho : off ≤ o) (hl : o + vs.length ≤ off + cap * sz) (hm : m ≤ cap) (hy : ys.length = m * sz)
    (hys : ∀ j, j < m * sz → ys[j]? = if o ≤ off + j ∧ off + j < o + vs.length then vs[off + j - o]? else xs[j]?) (hmn : ∀ j, j < m * sz → n * sz ≤ j → o ≤ off + j ∧ off + j < o + vs.length) :
    Ro (w.setCells g o vs) sz (.slice (some ⟨g, off, none⟩) m cap) m ys ∧ w.grownBy (w.setCells g o vs) (some g) := by
  obtain ⟨r1, r2, r3⟩ := setCells_rest g vs o w
  refine ⟨⟨hy, ?_⟩, r1, r2, r3, by rw [setCells_size]; exact Nat.le_refl _, fun k _ hk => setCells_other g k (fun e => hk (by rw [e])) vs o w⟩
  rcases h.2 with ⟨e2, _⟩ | ⟨g', off', cap', cur, t, e2, hh, h3, h4, h5, h6⟩
  · rw [e] at e2; cases e2
  · rw [e] at e2; cases e2
    obtain ⟨cur', k1, k2, k3⟩ := setCells_block g vs o w cur hh (by omega)
    refine .inr ⟨g, off, cap, cur', t, rfl, k1, hm, h4, by omega, fun j hj => ?_⟩
    rw [k3, hys j hj]
    by_cases q : o ≤ off + j ∧ off + j < o + vs.length
    · rw [if_pos q, if_pos q]
    · rw [if_neg q, if_neg q]
      by_cases q2 : n * sz ≤ j
      · exact absurd (hmn j hj q2) q
      · exact h6 j (by omega)
end

/-- append onto a row. -/
theorem Ro.app {P : Program} {w : World} {v : Value} {n : Nat} {xs : List Value} (t ty e : TypeId) (i : TypeInfo) (z : Value) (size bytes : Nat) (ht : P.underlying t = some (.slice e)) (hi : P.info? e = some i) (hz : i.zero = some z)
    (hsize : i.size = size) (hby : i.bytes = bytes) (hzs : z.cells.size = size) (hsz : 0 < size) (h : Ro w size v n xs)
    (a : Addr) (m c : Nat) (news : List Value) (hl : news.length = m * size) (hnews : ∀ j u, news[j]? = some u → w.cell? (a.add j) = some u) (h1 : ∀ u ∈ news, u.oneCell' = true)
    (h0 : 0 < m) (h63 : n + m ≤ maxLen) (hbytes : (n + m) * bytes ≤ 140737488355328) :
    ∃ v' w', (Builtin.append_ #[t, t] ty #[v, .slice (some a) m c]).run P w = .ok v' w' ∧ Ro w' size v' (n + m) (xs ++ news) ∧ w.grownBy w' v.ownBlock ∧ (v'.ownBlock = v.ownBlock ∨ v'.ownBlock = some w.heap.size) := by
  have hlen : (xs ++ news).length = (n + m) * size := by rw [List.length_append, h.1, hl, Nat.add_mul]
  have hxl := h.1
  rcases h.2 with ⟨e2, h0n⟩ | ⟨g, off, cap, cur, t', e2, hh, h3, h4, h5, h6⟩
  · subst e2; subst h0n
    obtain rfl : xs = [] := List.eq_nil_of_length_eq_zero (by omega)
    have hge := grownCap_ge w m 0 e
    have hcm : grownCap w m 0 e ≤ maxLen := grownCap_le_maxLen w m 0 e (by omega)
    have hr := run_append_nil (P := P) w t ty e i z ht hi hz a m c news (by rw [hsize]; exact hl) hnews h0 (by unfold maxLen at h63; omega) (by rw [hby]; simp only [Nat.zero_add] at hbytes; omega)
    refine ⟨_, _, hr, ⟨hlen, .inr ⟨w.heap.size, 0, _, _, e, by rw [Nat.zero_add], heap_alloc_new w.drew _, by omega, hcm, ?_, fun j hj => ?_⟩⟩, ⟨rfl, rfl, rfl, by simp, fun k hk _ => Below.heap_alloc _ _ _ (by simpa using hk)⟩, .inr rfl⟩
    · simp only [Array.size_append, List.size_toArray, size_zeroCells, hzs, hl, ← Nat.add_mul, Nat.zero_add]
      refine Nat.mul_le_mul_right _ ?_
      omega
    · simp only [Nat.zero_add, List.nil_append] at hj ⊢
      rw [Array.getElem?_append_left (by simp; omega)]
      simp
  · subst e2
    by_cases hroom : n + m ≤ cap
    · have hfit : n * size + m * size ≤ cap * size := by rw [← Nat.add_mul]; exact Nat.mul_le_mul_right _ hroom
      have hr := run_append_room_cells (P := P) w t ty e i ht hi g off n cap a m c news (by rw [hsize]; exact hl) hnews h1 hroom (fun j hj => by
        rw [hsize, hl] at *
        have : off + n * size + j < cur.size := by omega
        simp [World.cell?, hh]
        omega) (fun j hj => by simp [World.frozen?, hh])
      rw [hsize] at hr
      obtain ⟨k1, k2⟩ := h.sets (v := .slice (some ⟨g, off, none⟩) n cap) rfl (o := off + n * size) (m := n + m) (vs := news) (ys := xs ++ news) (by omega) (by rw [hl]; omega) hroom hlen (fun j hj => by
        rw [Nat.add_mul] at hj
        by_cases q : n * size ≤ j
        · rw [if_pos (by omega), List.getElem?_append_right (by omega)]
          congr 1
          omega
        · rw [if_neg (by omega), List.getElem?_append_left (by omega)]) (fun j hj hq => by rw [Nat.add_mul] at hj; omega)
      exact ⟨_, _, hr, k1, k2, .inl rfl⟩
    · have hge := grownCap_ge w (n + m) cap e
      have hcm : grownCap w (n + m) cap e ≤ maxLen := grownCap_le_maxLen w (n + m) cap e h63
      have hr := run_append_grow (P := P) w t ty e i z ht hi hz ⟨g, off, none⟩ n cap xs (by rw [hsize]; exact hxl) (fun j u hu => by
          have hj : j < n * size := by have := (List.getElem?_eq_some_iff.1 hu).1; omega
          rw [Go.WideShapes.add_plain, ← hu, ← h6 j hj]
          simp [World.cell?, hh]) a m c news (by rw [hsize]; exact hl) hnews (by omega) (by unfold maxLen at h63; omega) (by rw [hby]; exact growslice_fits (by omega) hbytes)
      refine ⟨_, _, hr, ⟨hlen, .inr ⟨w.heap.size, 0, _, _, e, rfl, heap_alloc_new w.drew _, by omega, hcm, ?_, fun j hj => ?_⟩⟩, ⟨rfl, rfl, rfl, by simp, fun k hk _ => Below.heap_alloc _ _ _ (by simpa using hk)⟩, .inr rfl⟩
      · simp only [Array.size_append, List.size_toArray, size_zeroCells, hzs, hl, hxl, ← Nat.add_mul, Nat.zero_add]
        refine Nat.mul_le_mul_right _ ?_
        omega
      · rw [Nat.zero_add, Array.getElem?_append_left (by rw [Array.size_append, List.size_toArray, List.size_toArray, hl, hxl, ← Nat.add_mul]; exact hj)]
        simp
/-- Values, as their cells. -/
def flat (l : List (Int × Int)) : List Value := l.flatMap (fun p => [.int .i64 p.1, .int .i64 p.2])
theorem flat_length (l : List (Int × Int)) : (flat l).length = l.length * 2 := by
  induction l with
  | nil => rfl
  | cons p r ih => simp only [flat, List.flatMap_cons, List.length_append, List.length_cons, List.length_nil] at ih ⊢; omega
theorem flat_append (l m : List (Int × Int)) : flat (l ++ m) = flat l ++ flat m := List.flatMap_append
theorem flat_one (p : Int × Int) : flat [p] = [.int .i64 p.1, .int .i64 p.2] := rfl
theorem flat_drop (l : List (Int × Int)) (k : Nat) : (flat l).drop (k * 2) = flat (l.drop k) := by
  induction l generalizing k with
  | nil => simp [flat]
  | cons p r ih =>
    cases k with
    | zero => rfl
    | succ k =>
      have := ih k
      rw [show (k + 1) * 2 = k * 2 + 2 by omega]
      simpa [flat] using this
theorem flat_take (l : List (Int × Int)) (k : Nat) : (flat l).take (k * 2) = flat (l.take k) := by
  induction l generalizing k with
  | nil => simp [flat]
  | cons p r ih =>
    cases k with
    | zero => rfl
    | succ k =>
      have := ih k
      rw [show (k + 1) * 2 = k * 2 + 2 by omega]
      simpa [flat] using this
theorem flat_at (l : List (Int × Int)) (k : Nat) (p : Int × Int) (h : l[k]? = some p) : (flat l)[k * 2]? = some (.int .i64 p.1) ∧ (flat l)[k * 2 + 1]? = some (.int .i64 p.2) := by
  have h1 : (flat l).drop (k * 2) = flat (l.drop k) := flat_drop l k
  obtain ⟨hk, hp⟩ := List.getElem?_eq_some_iff.1 h
  have h2 : l.drop k = p :: l.drop (k + 1) := by rw [← hp]; exact List.drop_eq_getElem_cons hk
  rw [h2] at h1
  have e0 := congrArg (fun q => q[0]?) h1
  have e1 := congrArg (fun q => q[1]?) h1
  simp only [List.getElem?_drop] at e0 e1
  exact ⟨by simpa [flat] using e0, by simpa [flat] using e1⟩

theorem wpList_app {P : Program} {w : World} {ops : Array Oper} {rest : List Oper} {o : Oper} {a : Act} {Q : Exit → Act → World → Prop}
    (hg : o.guard = none) (s x : Operand) (t : TypeId) (hop : o.op = Op.call { callee := Callee.builtin Builtin.append, args := #[s, x], argTypes := #[t, t] })
    (e : TypeId) (i : TypeInfo) (z : Value) (size bytes : Nat) (h1 : P.underlying t = some (.slice e)) (h2 : P.info? e = some i) (h3 : i.zero = some z) (h4 : i.size = size) (h5 : i.bytes = bytes) (h6 : z.cells.size = size) (h7 : 0 < size)
    (v : Value) (n : Nat) (xs : List Value) (hs : a.eval s = v) (hr : Ro w size v n xs) (ad : Addr) (m c : Nat) (news : List Value) (hx : a.eval x = .slice (some ad) m c) (hn : news.length = m * size) (hc : ∀ j u, news[j]? = some u → w.cell? (ad.add j) = some u) (h1c : ∀ u ∈ news, u.oneCell' = true)
    (h0 : 0 < m) (b1 : n + m ≤ maxLen) (b2 : (n + m) * bytes ≤ 140737488355328)
    (hK : ∀ v' w', Ro w' size v' (n + m) (xs ++ news) → w.grownBy w' v.ownBlock → (v'.ownBlock = v.ownBlock ∨ v'.ownBlock = some w.heap.size) → wpList P ops Q rest (a.put o.dst v') w') :
    wpList P ops Q (o :: rest) a w := by
  refine wpList_plain hg fun K hK' => ?_
  obtain ⟨v', w', hrun, r1, r2, r3⟩ := Ro.app (P := P) t o.type e i z size bytes h1 h2 h3 h4 h5 h6 h7 hr ad m c news hn hc h1c h0 b1 b2
  unfold Oper.wp
  simp [execOp, hop, resolve, invoke, builtin, hs, hx, hrun, Result.andThen]
  exact hK' _ _ (hK v' w' r1 r2 r3)
theorem two_new (w : World) (u v : Value) (e : TypeId) : (w.alloc (.cells #[u, v] e)).cell? ⟨w.heap.size, 0, none⟩ = some u ∧ (w.alloc (.cells #[u, v] e)).cell? ⟨w.heap.size, 1, none⟩ = some v := by
  have hg := heap_alloc_new w (.cells #[u, v] e)
  exact ⟨by simp only [World.cell?, hg]; rfl, by simp only [World.cell?, hg]; rfl⟩
theorem Try.info24 : (Try.prog.info? 24).map (fun i => (i.zero, i.size, i.bytes)) = some (some (.agg #[.int .i64 0, .int .i64 0]), 2, 16) := by kernel_rfl
theorem two_new' (w : World) (u v : Value) (e : TypeId) : ∀ j z, [u, v][j]? = some z → (w.alloc (.cells #[u, v] e)).cell? ((⟨w.heap.size, 0, none⟩ : Addr).add j) = some z := fun j z hz => by
  obtain ⟨b0, b1⟩ := two_new w u v e
  rw [Go.WideShapes.add_plain]
  have hj : j < 2 := (List.getElem?_eq_some_iff.1 hz).1
  match j, hj with
  | 0, _ => rw [show 0 + 0 = 0 from rfl, b0]; simpa using hz
  | 1, _ => rw [show 0 + 1 = 1 from rfl, b1]; simpa using hz
/-- A list of values as it came in. -/
def RtV (w : World) (v : Value) (l : List (Int × Int)) : Prop :=
  ∃ a cap, v = .slice a l.length cap ∧ l.length ≤ cap ∧ cap ≤ maxLen ∧ ∀ i p, l[i]? = some p → ∃ b off, a = some ⟨b, off, none⟩ ∧ b < w.heap.size ∧ w.cell? ⟨b, off + i * 2, none⟩ = some (.int .i64 p.1) ∧ w.cell? ⟨b, off + i * 2 + 1, none⟩ = some (.int .i64 p.2)
theorem wpList_appW {w : World} {ops : Array Oper} {rest : List Oper} {o : Oper} {a : Act} {Q : Exit → Act → World → Prop}
    (hg : o.guard = none) (s x : Operand) (hop : o.op = Op.call { callee := Callee.builtin Builtin.append, args := #[s, x], argTypes := #[25, 25] })
    (v : Value) (l : List (Int × Int)) (hs : a.eval s = v) (hr : Ro w 2 v l.length (flat l)) (ad : Addr) (c : Nat) (k n : Int) (hx : a.eval x = .slice (some ad) 1 c) (hc : ∀ j u, [Value.int .i64 k, .int .i64 n][j]? = some u → w.cell? (ad.add j) = some u)
    (hN : l.length ≤ 8796093022207)
    (hK : ∀ v' w', Ro w' 2 v' (l ++ [(k, n)]).length (flat (l ++ [(k, n)])) → w.grownBy w' v.ownBlock → (v'.ownBlock = v.ownBlock ∨ v'.ownBlock = some w.heap.size) → wpList Try.prog ops Q rest (a.put o.dst v') w') :
    wpList Try.prog ops Q (o :: rest) a w := by
  obtain ⟨i0, hi0, hz0, hz1, hz2⟩ := info_parts Try.info24
  refine wpList_app hg s x 25 hop 24 i0 _ 2 16 Try.underlying25 hi0 hz0 hz1 hz2 rfl (by decide) v l.length (flat l) hs hr ad 1 c [.int .i64 k, .int .i64 n] hx rfl hc (by simp [Value.oneCell']) (by omega) (by unfold maxLen; omega) (by omega) (fun v' w' r1 r2 r3 => hK v' w' ?_ r2 r3)
  rw [flat_append, List.length_append]
  exact r1
theorem RtV.below {w w' : World} {v : Value} {l : List (Int × Int)} (h : RtV w v l) (f : Below w.heap.size w w') : RtV w' v l := by
  obtain ⟨a, cap, e, h1, h2, h3⟩ := h
  refine ⟨a, cap, e, h1, h2, fun i p hp => ?_⟩
  obtain ⟨b, off, e2, hb, c0, c1⟩ := h3 i p hp
  exact ⟨b, off, e2, Nat.lt_of_lt_of_le hb f.size, (f.cell (p := ⟨b, off + i * 2, none⟩) hb).trans c0, (f.cell (p := ⟨b, off + i * 2 + 1, none⟩) hb).trans c1⟩
/-- A row of one's own that grows. -/
def Gw (w : World) (Q : List (Int × Int)) (v : Value) (wr : World) : Prop := Ro wr 2 v Q.length (flat Q) ∧ Below w.heap.size w wr ∧ ∀ k, v.ownBlock = some k → w.heap.size ≤ k
theorem Gw.push {w wr w' : World} {Q : List (Int × Int)} {v v' : Value} {p : Int × Int} {X : Obj} (h : Gw w Q v wr) (hr : Ro w' 2 v' (Q ++ [p]).length (flat (Q ++ [p]))) (hg : (wr.alloc X).grownBy w' v.ownBlock) (hat : v'.ownBlock = v.ownBlock ∨ v'.ownBlock = some (wr.alloc X).heap.size) : Gw w (Q ++ [p]) v' w' := by
  obtain ⟨h1, h2, h3⟩ := h
  have hs := h2.size
  have f : Fr (fun k => v.ownBlock = some k) wr w' := ((Fr.refl _ wr).alloc X).grown hg (fun k e => .inr e)
  refine ⟨hr, h2.trans (f.below hs (fun k hk e => by have := h3 k e; omega)), fun k hk => ?_⟩
  rcases hat with q | q
  · exact h3 k (q ▸ hk)
  · rw [q] at hk; cases hk; simp; omega
def imarks (n : Nat) : List (Int × Int) := (List.range n).map (fun (i : Nat) => ((-9 : Int), (i : Int)))
theorem imarks_succ (n : Nat) : imarks (n + 1) = imarks n ++ [(-9, (n : Int))] := by simp [imarks, List.range_succ]
theorem imarks_length (n : Nat) : (imarks n).length = n := by simp [imarks]
theorem itake_push (l : List (Int × Int)) (i : Nat) (p : Int × Int) (h : l[i]? = some p) : l.take (i + 1) = l.take i ++ [p] := by
  rw [List.take_add_one, h]; rfl
theorem Ro.pair {w : World} {v : Value} {Q : List (Int × Int)} (h : Ro w 2 v Q.length (flat Q)) {i : Nat} {p : Int × Int} (hp : Q[i]? = some p) :
    ∃ g off cap, v = .slice (some ⟨g, off, none⟩) Q.length cap ∧ Q.length ≤ cap ∧ cap ≤ maxLen ∧ g < w.heap.size ∧ w.cell? ⟨g, off + i * 2, none⟩ = some (.int .i64 p.1) ∧ w.cell? ⟨g, off + i * 2 + 1, none⟩ = some (.int .i64 p.2) := by
  have hi := (List.getElem?_eq_some_iff.1 hp).1
  obtain ⟨g, off, cap, e, h1, h2, h3, h4⟩ := h.full (by omega)
  obtain ⟨f0, f1⟩ := flat_at Q i p hp
  refine ⟨g, off, cap, e, h1, h2, h3, ?_, ?_⟩
  · rw [h4 (i * 2) (by omega)]; exact f0
  · rw [Nat.add_assoc, h4 (i * 2 + 1) (by omega)]; exact f1
theorem RtV.of_ro {w : World} {v : Value} {l : List (Int × Int)} (h : Ro w 2 v l.length (flat l)) : RtV w v l := by
  obtain ⟨a, cap, e, h1, h2⟩ := h.shape
  refine ⟨a, cap, e, h1, h2, fun i p hp => ?_⟩
  obtain ⟨g, off, cap', e', _, _, hl, c0, c1⟩ := h.pair hp
  rw [e] at e'
  cases e'
  exact ⟨g, off, rfl, hl, c0, c1⟩
theorem ilm_left (l : List (Int × Int)) (i : Nat) (p : Int × Int) (h : l[i]? = some p) : (l ++ imarks 64)[i]? = some p := by
  rw [List.getElem?_append_left (List.getElem?_eq_some_iff.1 h).1]; exact h
theorem ilm_right (l : List (Int × Int)) (i : Nat) (h1 : l.length ≤ i) (h2 : i < l.length + 64) : (l ++ imarks 64)[i]? = some (-9, (i : Int) - (l.length : Int)) := by
  rw [List.getElem?_append_right h1]
  simp [imarks, List.getElem?_range (show i - l.length < 64 by omega)]
  omega
theorem ilm_length (l : List (Int × Int)) : (l ++ imarks 64).length = l.length + 64 := by rw [List.length_append, imarks_length]
end Go.Proofs.Ytonnkaphomonpaa
