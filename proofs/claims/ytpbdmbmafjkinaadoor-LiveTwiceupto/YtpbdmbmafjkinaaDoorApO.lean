/-
  ApartValues: rows of values that lie apart, however many.
-/
import Derived.Test.YtpbdmbmafjkinaaDoorCo
namespace Go.Proofs.YtpbdmbmafjkinaaDoor
open Go.RowKit
set_option linter.unusedVariables false
set_option linter.unusedSimpArgs false
def enP (p : Int × Int) : List Value := [.int .i64 p.1, .int .i64 p.2]
theorem zP : ∀ p, (enP p).length = 2 := fun _ => rfl
/-- append onto a row. -/
theorem Ro.appO {P : Program} {w : World} {v : Value} {n : Nat} {xs : List Value} (t ty e : TypeId) (i : TypeInfo) (z : Value) (size bytes : Nat) (ht : P.underlying t = some (.slice e)) (hi : P.info? e = some i) (hz : i.zero = some z)
    (hsize : i.size = size) (hby : i.bytes = bytes) (hzs : z.cells.size = size) (hsz : 0 < size) (h : Ro w size v n xs)
    (a : Addr) (m c : Nat) (news : List Value) (hl : news.length = m * size) (hnews : ∀ j u, news[j]? = some u → w.cell? (a.add j) = some u) (h1 : ∀ u ∈ news, u.oneCell' = true)
    (h0 : 0 < m) (h63 : n + m ≤ maxLen) (hbytes : (n + m) * bytes ≤ 140737488355328) :
    ∃ v' w', (Builtin.append_ #[t, t] ty #[v, .slice (some a) m c]).run P w = .ok v' w' ∧ Ro w' size v' (n + m) (xs ++ news) ∧ w.grownBy w' v.ownBlock ∧ ((∃ g off cap, v = .slice (some ⟨g, off, none⟩) n cap ∧ v' = .slice (some ⟨g, off, none⟩) (n + m) cap) ∨ v'.ownBlock = some w.heap.size) ∧ Ro w' size v n xs := by
  have hlen : (xs ++ news).length = (n + m) * size := by rw [List.length_append, h.1, hl, Nat.add_mul]
  have hxl := h.1
  rcases h.2 with ⟨e2, h0n⟩ | ⟨g, off, cap, cur, t', e2, hh, h3, h4, h5, h6⟩
  · subst e2; subst h0n
    obtain rfl : xs = [] := List.eq_nil_of_length_eq_zero (by omega)
    have hge := grownCap_ge w m 0 e
    have hcm : grownCap w m 0 e ≤ maxLen := grownCap_le_maxLen w m 0 e (by omega)
    have hr := run_append_nil (P := P) w t ty e i z ht hi hz a m c news (by rw [hsize]; exact hl) hnews h0 (by unfold maxLen at h63; omega) (by rw [hby]; simp only [Nat.zero_add] at hbytes; omega)
    refine ⟨_, _, hr, ⟨hlen, .inr ⟨w.heap.size, 0, _, _, e, by rw [Nat.zero_add], heap_alloc_new w.drew _, by omega, hcm, ?_, fun j hj => ?_⟩⟩, ⟨rfl, rfl, rfl, by simp, fun k hk _ => Below.heap_alloc _ _ _ (by simpa using hk)⟩, .inr rfl, ⟨by simp, .inl ⟨rfl, rfl⟩⟩⟩
    · simp only [Array.size_append, List.size_toArray, size_zeroCells, hzs, hl, ← Nat.add_mul, Nat.zero_add]
      refine Nat.mul_le_mul_right _ ?_
      omega
    · simp only [Nat.zero_add, List.nil_append] at hj ⊢
      rw [Array.getElem?_append_left (by simp; omega)]
      simp
  · subst e2
    by_cases hroom : n + m ≤ cap
    · have hfit : n * size + m * size ≤ cap * size := by rw [← Nat.add_mul]; exact Nat.mul_le_mul_right _ hroom
      have hr := run_append_room_cells (P := P) w t ty e i ht hi g off n cap a m c news (by rw [hsize]; exact hl) hnews h1 hroom (fun j hj => by
        rw [hsize, hl] at *
        have : off + n * size + j < cur.size := by omega
        simp [World.cell?, hh]
        omega) (fun j hj => by simp [World.frozen?, hh])
      rw [hsize] at hr
      obtain ⟨k1, k2⟩ := h.sets (v := .slice (some ⟨g, off, none⟩) n cap) rfl (o := off + n * size) (m := n + m) (vs := news) (ys := xs ++ news) (by omega) (by rw [hl]; omega) hroom hlen (fun j hj => by
        rw [Nat.add_mul] at hj
        by_cases q : n * size ≤ j
        · rw [if_pos (by omega), List.getElem?_append_right (by omega)]
          congr 1
          omega
        · rw [if_neg (by omega), List.getElem?_append_left (by omega)]) (fun j hj hq => by rw [Nat.add_mul] at hj; omega)
      exact ⟨_, _, hr, k1, k2, .inl ⟨g, off, cap, rfl, rfl⟩, (h.sets (v := .slice (some ⟨g, off, none⟩) n cap) rfl (o := off + n * size) (m := n) (vs := news) (ys := xs) (by omega) (by rw [hl]; omega) h3 hxl (fun j hj => by rw [if_neg (by omega)]) (fun j hj hq => by omega)).1⟩
    · have hge := grownCap_ge w (n + m) cap e
      have hcm : grownCap w (n + m) cap e ≤ maxLen := grownCap_le_maxLen w (n + m) cap e h63
      have hr := run_append_grow (P := P) w t ty e i z ht hi hz ⟨g, off, none⟩ n cap xs (by rw [hsize]; exact hxl) (fun j u hu => by
          have hj : j < n * size := by have := (List.getElem?_eq_some_iff.1 hu).1; omega
          rw [Go.WideShapes.add_plain, ← hu, ← h6 j hj]
          simp [World.cell?, hh]) a m c news (by rw [hsize]; exact hl) hnews (by omega) (by unfold maxLen at h63; omega) (by rw [hby]; exact growslice_fits (by omega) hbytes)
      refine ⟨_, _, hr, ⟨hlen, .inr ⟨w.heap.size, 0, _, _, e, rfl, heap_alloc_new w.drew _, by omega, hcm, ?_, fun j hj => ?_⟩⟩, ⟨rfl, rfl, rfl, by simp, fun k hk _ => Below.heap_alloc _ _ _ (by simpa using hk)⟩, .inr rfl, h.keep (fun k hk => Below.heap_alloc _ _ _ (by have := h.lt k hk; simpa using this))⟩
      · simp only [Array.size_append, List.size_toArray, size_zeroCells, hzs, hl, hxl, ← Nat.add_mul, Nat.zero_add]
        refine Nat.mul_le_mul_right _ ?_
        omega
      · rw [Nat.zero_add, Array.getElem?_append_left (by rw [Array.size_append, List.size_toArray, List.size_toArray, hl, hxl, ← Nat.add_mul]; exact hj)]
        simp
theorem wpList_appO0 {P : Program} {w : World} {ops : Array Oper} {rest : List Oper} {o : Oper} {a : Act} {Q : Exit → Act → World → Prop}
    (hg : o.guard = none) (s x : Operand) (t : TypeId) (hop : o.op = Op.call { callee := Callee.builtin Builtin.append, args := #[s, x], argTypes := #[t, t] })
    (e : TypeId) (i : TypeInfo) (z : Value) (size bytes : Nat) (h1 : P.underlying t = some (.slice e)) (h2 : P.info? e = some i) (h3 : i.zero = some z) (h4 : i.size = size) (h5 : i.bytes = bytes) (h6 : z.cells.size = size) (h7 : 0 < size)
    (v : Value) (n : Nat) (xs : List Value) (hs : a.eval s = v) (hr : Ro w size v n xs) (ad : Addr) (m c : Nat) (news : List Value) (hx : a.eval x = .slice (some ad) m c) (hn : news.length = m * size) (hc : ∀ j u, news[j]? = some u → w.cell? (ad.add j) = some u) (h1c : ∀ u ∈ news, u.oneCell' = true)
    (h0 : 0 < m) (b1 : n + m ≤ maxLen) (b2 : (n + m) * bytes ≤ 140737488355328)
    (hK : ∀ v' w', Ro w' size v' (n + m) (xs ++ news) → w.grownBy w' v.ownBlock → ((∃ g off cap, v = .slice (some ⟨g, off, none⟩) n cap ∧ v' = .slice (some ⟨g, off, none⟩) (n + m) cap) ∨ v'.ownBlock = some w.heap.size) → Ro w' size v n xs → wpList P ops Q rest (a.put o.dst v') w') :
    wpList P ops Q (o :: rest) a w := by
  refine wpList_plain hg fun K hK' => ?_
  obtain ⟨v', w', hrun, r1, r2, r3, r4⟩ := Ro.appO (P := P) t o.type e i z size bytes h1 h2 h3 h4 h5 h6 h7 hr ad m c news hn hc h1c h0 b1 b2
  unfold Oper.wp
  simp [execOp, hop, resolve, invoke, builtin, hs, hx, hrun, Result.andThen]
  exact hK' _ _ (hK v' w' r1 r2 r3 r4)
theorem wpList_appO {w : World} {ops : Array Oper} {rest : List Oper} {o : Oper} {a : Act} {Q : Exit → Act → World → Prop}
    (hg : o.guard = none) (s x : Operand) (hop : o.op = Op.call { callee := Callee.builtin Builtin.append, args := #[s, x], argTypes := #[48, 48] })
    (v : Value) (l : List (Int × Int)) (hs : a.eval s = v) (hr : Ro w 2 v l.length (flt enP l)) (ad : Addr) (c : Nat) (k n : Int) (hx : a.eval x = .slice (some ad) 1 c) (hc : ∀ j u, [Value.int .i64 k, .int .i64 n][j]? = some u → w.cell? (ad.add j) = some u)
    (hN : l.length ≤ 8796093022207)
    (hK : ∀ v' w', Ro w' 2 v' (l ++ [(k, n)]).length (flt enP (l ++ [(k, n)])) → w.grownBy w' v.ownBlock → ((∃ g off cap, v = .slice (some ⟨g, off, none⟩) l.length cap ∧ v' = .slice (some ⟨g, off, none⟩) (l.length + 1) cap) ∨ v'.ownBlock = some w.heap.size) → Ro w' 2 v l.length (flt enP l) → wpList Tryd.prog ops Q rest (a.put o.dst v') w') :
    wpList Tryd.prog ops Q (o :: rest) a w := by
  obtain ⟨i0, hi0, hz0, hz1, hz2⟩ := info_parts infO
  refine wpList_appO0 hg s x 48 hop 70 i0 _ 2 16 Tryd.underlying48 hi0 hz0 hz1 hz2 rfl (by decide) v l.length (flt enP l) hs hr ad 1 c [.int .i64 k, .int .i64 n] hx rfl hc (by simp [Value.oneCell']) (by omega) (by unfold maxLen; omega) (by omega) (fun v' w' r1 r2 r3 r4 => hK v' w' ?_ r2 r3 r4)
  rw [flt_append, List.length_append]
  exact r1
theorem Ro.put {w : World} {g off N cap : Nat} {Q : List (Int × Int)} (hN : Q.length = N) (h : Ro w 2 (.slice (some ⟨g, off, none⟩) N cap) N (flt enP Q)) {i : Nat} (hi : i < N) (p : Int × Int) :
    (∃ u, w.cell? ⟨g, off + i * 2, none⟩ = some u) ∧ (∃ u, w.cell? ⟨g, off + i * 2 + 1, none⟩ = some u) ∧ (∀ j, w.frozen? ⟨g, j, none⟩ = false) ∧ g < w.heap.size ∧
      Ro (w.setCells g (off + i * 2) [.int .i64 p.1, .int .i64 p.2]) 2 (.slice (some ⟨g, off, none⟩) N cap) N (flt enP (Q.set i p)) ∧ Fr (fun q => q = g) w (w.setCells g (off + i * 2) [.int .i64 p.1, .int .i64 p.2]) := by
  obtain ⟨g', off', cap', e, h1, h2, h3, h4⟩ := h.full (by omega)
  cases e
  have hlen : (flt enP Q).length = N * 2 := by rw [flt_length zP, hN]
  have hcm : N * 2 ≤ cap * 2 := Nat.mul_le_mul_right _ h1
  obtain ⟨r1, r2, r3⟩ := setCells_rest g [.int .i64 p.1, .int .i64 p.2] (off + i * 2) w
  refine ⟨?_, ?_, fun j => h.free rfl j, h3, (h.sets (v := .slice (some ⟨g, off, none⟩) N cap) rfl (o := off + i * 2) (m := N) (vs := [.int .i64 p.1, .int .i64 p.2]) (ys := flt enP (Q.set i p)) (by omega) (by simp; omega) h1 (by rw [flt_length zP, List.length_set, hN]) (fun j hj => ?_) (fun j hj hq => by omega)).1, ⟨r1, r2, r3, by rw [setCells_size]; exact Nat.le_refl _, fun q _ hq => setCells_other g q hq _ _ w⟩⟩
  · rw [h4 (i * 2) (by omega), List.getElem?_eq_getElem (by omega)]; exact ⟨_, rfl⟩
  · rw [Nat.add_assoc, h4 (i * 2 + 1) (by omega), List.getElem?_eq_getElem (by omega)]; exact ⟨_, rfl⟩
  · rw [flt_set zP Q i p (by omega)]
    simp only [List.length_cons, List.length_nil]
    by_cases c : i * 2 ≤ j ∧ j < i * 2 + 2
    · rw [if_pos c, if_pos (by omega)]
      congr 1
      omega
    · rw [if_neg c, if_neg (by omega)]

def updV (f : Nat → Value) (k : Nat) (v : Value) : Nat → Value := fun j => if j = k then v else f j
theorem updV_at (f : Nat → Value) (k : Nat) (v : Value) : updV f k v k = v := by simp [updV]
theorem updV_ne (f : Nat → Value) {k j : Nat} (v : Value) (h : j ≠ k) : updV f k v j = f j := by simp [updV, h]
theorem updV_range (f : Nat → Value) (k : Nat) (v : Value) : (List.range k).map (updV f k v) = (List.range k).map f := by
  refine List.map_congr_left (fun j hj => ?_)
  rw [List.mem_range] at hj
  exact updV_ne f v (by omega)
theorem own_keepT {w w' : World} {base : Nat} {e : TypeId} {v : Value} {n : Nat} {xs : List Value} (h : w.ownsRow base e 1 v n xs) (hb : ∀ g, v.ownBlock = some g → w'.heap[g]? = w.heap[g]?) : w'.ownsRow base e 1 v n xs := by
  obtain ⟨h1, h2⟩ := h
  refine ⟨h1, ?_⟩
  rcases h2 with h2 | ⟨g, cap, cur, hv, hg, hh, r⟩
  · exact Or.inl h2
  · exact Or.inr ⟨g, cap, cur, hv, hg, by rw [hb g (by rw [hv]; rfl)]; exact hh, r⟩
theorem addr_add0 (g i : Nat) : (⟨g, 0, none⟩ : Addr).add i = ⟨g, i, none⟩ := by unfold Addr.add; split <;> simp_all
theorem two_new (w : World) (u v : Value) (e : TypeId) : (w.alloc (.cells #[u, v] e)).cell? ⟨w.heap.size, 0, none⟩ = some u ∧ (w.alloc (.cells #[u, v] e)).cell? ⟨w.heap.size, 1, none⟩ = some v := by
  have hg := heap_alloc_new w (.cells #[u, v] e)
  exact ⟨by simp only [World.cell?, hg]; rfl, by simp only [World.cell?, hg]; rfl⟩
theorem two_new' (w : World) (u v : Value) (e : TypeId) : ∀ j z, [u, v][j]? = some z → (w.alloc (.cells #[u, v] e)).cell? ((⟨w.heap.size, 0, none⟩ : Addr).add j) = some z := fun j z hz => by
  obtain ⟨b0, b1⟩ := two_new w u v e
  rw [Go.WideShapes.add_plain]
  have hj : j < 2 := (List.getElem?_eq_some_iff.1 hz).1
  match j, hj with
  | 0, _ => rw [show 0 + 0 = 0 from rfl, b0]; simpa using hz
  | 1, _ => rw [show 0 + 1 = 1 from rfl, b1]; simpa using hz
theorem Ro.pair {w : World} {v : Value} {Q : List (Int × Int)} (h : Ro w 2 v Q.length (flt enP Q)) {i : Nat} {p : Int × Int} (hp : Q[i]? = some p) :
    ∃ g off cap, v = .slice (some ⟨g, off, none⟩) Q.length cap ∧ Q.length ≤ cap ∧ cap ≤ maxLen ∧ g < w.heap.size ∧ w.cell? ⟨g, off + i * 2, none⟩ = some (.int .i64 p.1) ∧ w.cell? ⟨g, off + i * 2 + 1, none⟩ = some (.int .i64 p.2) := by
  have hi := (List.getElem?_eq_some_iff.1 hp).1
  obtain ⟨g, off, cap, e, h1, h2, h3, h4⟩ := h.full (by omega)
  refine ⟨g, off, cap, e, h1, h2, h3, ?_, ?_⟩
  · rw [h4 (i * 2) (by omega)]; exact flt_at zP hp 0 (by omega)
  · rw [Nat.add_assoc, h4 (i * 2 + 1) (by omega)]; exact flt_at zP hp 1 (by omega)
theorem Below.drewNB {B : Nat} {a w : World} (h : Below B a w) (n : Nat) : Below B a (w.drewN n) := ⟨h.os, h.tape, h.output, h.size, h.block⟩
theorem Bl.go {B : Nat} {w w1 w2 : World} (h : Below B w w1) (hB : B ≤ w1.heap.size) (k : Below w1.heap.size w1 w2) : Below B w w2 := h.trans (k.mono hB)
def mkp (k i : Nat) : Int × Int := (-10 - (k : Int), (i : Int))
def mkP (k n : Nat) : List (Int × Int) := (List.range n).map (mkp k)
theorem mkP_succ (k n : Nat) : mkP k (n + 1) = mkP k n ++ [mkp k n] := by simp [mkP, List.range_succ]
theorem mkP_length (k n : Nat) : (mkP k n).length = n := by simp [mkP]
theorem mkP_at (k n i : Nat) (h : i < n) : (mkP k n)[i]? = some (mkp k i) := by simp [mkP, h]
theorem mkP_take (k n m : Nat) (h : n ≤ m) : (mkP k m).take n = mkP k n := by
  refine List.ext_getElem? (fun i => ?_)
  rw [List.getElem?_take]
  split
  · rename_i hi
    rw [mkP_at k m i (by omega), mkP_at k n i hi]
  · rename_i hi
    rw [List.getElem?_eq_none (by rw [mkP_length]; omega)]

/-- What lies there from the beginning. -/
structure AS (R : Nat) (w0 : World) (lb lo : Nat) (V : Nat → Value) (N : Nat → Nat) : Prop where
  cell : ∀ k, k < R → w0.cell? ⟨lb, lo + k, none⟩ = some (V k)
  row : ∀ k, k < R → ∃ Q, Q.length = N k ∧ Ro w0 2 (V k) (N k) (flt enP Q)
  lbn : ∀ k b, k < R → (V k).ownBlock = some b → b ≠ lb
  ap : ∀ j j' b, j < R → j' < R → j ≠ j' → (V j).ownBlock = some b → (V j').ownBlock ≠ some b
  le : ∀ k, N k ≤ 1048576
  rl : R ≤ 3000000
def SV (R : Nat) (V : Nat → Value) : Nat → Prop := fun b => ∃ j, j < R ∧ (V j).ownBlock = some b
section
variable {R : Nat} {w0 w : World} {lb lo : Nat} {V : Nat → Value} {N : Nat → Nat}
theorem AS.lt (c : AS R w0 lb lo V N) {k b : Nat} (hk : k < R) (e : (V k).ownBlock = some b) : b < w0.heap.size := by
  obtain ⟨Q, _, h⟩ := c.row k hk
  exact h.lt b e
theorem AS.lbl (c : AS R w0 lb lo V N) {k : Nat} (hk : k < R) : lb < w0.heap.size := World.block_lt_of_cell? _ _ (c.cell k hk)
theorem AS.cellw (c : AS R w0 lb lo V N) (f : Fr (SV R V) w0 w) {k : Nat} (hk : k < R) : w.cell? ⟨lb, lo + k, none⟩ = some (V k) :=
  (f.cell (a := ⟨lb, lo + k, none⟩) (c.lbl hk) (fun ⟨j, hj, e⟩ => c.lbn j lb hj e rfl)).trans (c.cell k hk)

/-- So many rows are marked, and so much of the next. -/
structure M1 (R : Nat) (w0 : World) (V : Nat → Value) (N : Nat → Nat) (k i : Nat) (w : World) : Prop where
  ex : ∃ Q : Nat → List (Int × Int), (∀ j, j < R → (Q j).length = N j ∧ Ro w 2 (V j) (N j) (flt enP (Q j))) ∧ (∀ j, j < k → j < R → Q j = mkP j (N j)) ∧ ∀ x, x < i → (Q k)[x]? = some (mkp k x)
  fr : Fr (SV R V) w0 w
theorem M1.start (c : AS R w0 lb lo V N) : M1 R w0 V N 0 0 w0 := by
  have hex : ∀ k, ∃ Q, k < R → Q.length = N k ∧ Ro w0 2 (V k) (N k) (flt enP Q) := fun k => by
    by_cases hk : k < R
    · obtain ⟨Q, h⟩ := c.row k hk
      exact ⟨Q, fun _ => h⟩
    · exact ⟨[], fun h => absurd h hk⟩
  obtain ⟨Q, hQ⟩ := Classical.axiomOfChoice hex
  exact ⟨⟨Q, hQ, fun j hj => by omega, fun x hx => by omega⟩, Fr.refl _ _⟩
theorem M1.next {k : Nat} (h : M1 R w0 V N k (N k) w) : M1 R w0 V N (k + 1) 0 w := by
  obtain ⟨Q, h1, h2, h3⟩ := h.ex
  refine ⟨⟨Q, h1, fun j hj hjR => ?_, fun x hx => by omega⟩, h.fr⟩
  by_cases e : j = k
  · subst e
    refine List.ext_getElem? (fun i => ?_)
    by_cases hi : i < N j
    · rw [h3 i hi, mkP_at j (N j) i hi]
    · rw [List.getElem?_eq_none (by rw [(h1 j hjR).1]; omega), List.getElem?_eq_none (by rw [mkP_length]; omega)]
  · exact h2 j (by omega) hjR
theorem M1.shape {k i : Nat} (h : M1 R w0 V N k i w) {j : Nat} (hj : j < R) : ∃ a cap, V j = .slice a (N j) cap := by
  obtain ⟨Q, h1, _⟩ := h.ex
  obtain ⟨a, cap, e, _⟩ := (h1 j hj).2.shape
  exact ⟨a, cap, e⟩
theorem M1.step {k i : Nat} (c : AS R w0 lb lo V N) (h : M1 R w0 V N k i w) (hk : k < R) (hi : i < N k) : ∃ g off cap, V k = .slice (some ⟨g, off, none⟩) (N k) cap ∧ g < w.heap.size ∧
    (∃ u, w.cell? ⟨g, off + i * 2, none⟩ = some u) ∧ (∃ u, w.cell? ⟨g, off + i * 2 + 1, none⟩ = some u) ∧ (∀ j, w.frozen? ⟨g, j, none⟩ = false) ∧
    M1 R w0 V N k (i + 1) ((w.setCell ⟨g, off + i * 2, none⟩ (.int .i64 (-10 - (k : Int)))).setCell ⟨g, off + i * 2 + 1, none⟩ (.int .i64 (i : Int))) := by
  obtain ⟨Q, h1, h2, h3⟩ := h.ex
  obtain ⟨g, off, cap, e, _, _, hg, _⟩ := (h1 k hk).2.full (by omega)
  have hR := (h1 k hk).2
  rw [e] at hR
  obtain ⟨p1, p2, p3, p4, p5, p6⟩ := hR.put (h1 k hk).1 hi (mkp k i)
  refine ⟨g, off, cap, e, hg, p1, p2, p3, ⟨⟨fun j => if j = k then (Q k).set i (mkp k i) else Q j, fun j hj => ?_, fun j hj hjR => ?_, fun x hx => ?_⟩, h.fr.trans (p6.mono (fun b _ q => ⟨k, hk, by rw [e, q]; rfl⟩))⟩⟩
  · by_cases q : j = k
    · subst q
      simp only [if_pos]
      refine ⟨by rw [List.length_set]; exact (h1 j hk).1, ?_⟩
      rw [e]
      exact p5
    · simp only [if_neg q]
      exact ⟨(h1 j hj).1, Ro.fr (h1 j hj).2 p6 (fun b hb (q2 : b = g) => c.ap j k b hj hk q hb (by rw [e, q2]; rfl))⟩
  · simp only [if_neg (show ¬ j = k by omega)]
    exact h2 j hj hjR
  · simp only [if_pos]
    by_cases q : x = i
    · subst q
      rw [List.getElem?_set_self (by rw [(h1 k hk).1]; exact hi)]
    · rw [List.getElem?_set_ne (fun e => q e.symm)]
      exact h3 x (by omega)

/-- What has become of a row that has grown. -/
def Rl (w0 : World) (v : Value) (n i : Nat) (c : Value) : Prop :=
  (i = 0 ∧ c = v) ∨ (∃ g off cap, v = .slice (some ⟨g, off, none⟩) n cap ∧ c = .slice (some ⟨g, off, none⟩) (n + i) cap) ∨ ∃ b, c.ownBlock = some b ∧ w0.heap.size ≤ b
theorem Rl.own {v c : Value} {n i : Nat} (h : Rl w0 v n i c) {b : Nat} (e : c.ownBlock = some b) : v.ownBlock = some b ∨ w0.heap.size ≤ b := by
  rcases h with ⟨_, q⟩ | ⟨g, off, cap, e1, e2⟩ | ⟨b', q, hb⟩
  · rw [q] at e; exact .inl e
  · rw [e2] at e; rw [e1]; exact .inl e
  · rw [q] at e; cases e; exact .inr hb
theorem Fr.trans2 {S S' : Nat → Prop} {a b c : World} (h : Fr S a b) (k : Fr S' b c) (hs : ∀ i, i < a.heap.size → S' i → S i) : Fr S a c :=
  ⟨k.os.trans h.os, k.tape.trans h.tape, k.output.trans h.output, Nat.le_trans h.size k.size, fun i hi hn => (k.block i (Nat.lt_of_lt_of_le hi h.size) (fun e => hn (hs i hi e))).trans (h.block i hi hn)⟩
structure G1 (R : Nat) (w0 : World) (V : Nat → Value) (N : Nat → Nat) (k : Nat) (cur : Nat → Value) (gs : Value) (w : World) : Prop where
  ls : ∀ j, j < R → Ro w 2 (V j) (N j) (flt enP (mkP j (N j)))
  cr : ∀ j, j < k → Ro w 2 (cur j) (N j + 64) (flt enP (mkP j (N j + 64)))
  rel : ∀ j, j < k → Rl w0 (V j) (N j) 64 (cur j)
  dis : ∀ j j' b, j < k → j' < k → j ≠ j' → (cur j).ownBlock = some b → (cur j').ownBlock ≠ some b
  gr : w.ownsRow w0.heap.size 48 1 gs k ((List.range k).map cur)
  gdis : ∀ j b, j < k → gs.ownBlock = some b → (cur j).ownBlock ≠ some b
  fr : Fr (SV R V) w0 w
structure G2 (R : Nat) (w0 : World) (V : Nat → Value) (N : Nat → Nat) (k i : Nat) (c : Value) (cur : Nat → Value) (gs : Value) (w : World) : Prop where
  g1 : G1 R w0 V N k cur gs w
  cc : Ro w 2 c (N k + i) (flt enP (mkP k (N k + i)))
  crel : Rl w0 (V k) (N k) i c
  cdis : ∀ j b, j < k → (cur j).ownBlock = some b → c.ownBlock ≠ some b
  cg : ∀ b, gs.ownBlock = some b → c.ownBlock ≠ some b
theorem G1.start (h : M1 R w0 V N R 0 w) (cur : Nat → Value) : G1 R w0 V N 0 cur (.slice none 0 0) w := by
  obtain ⟨Q, h1, h2, h3⟩ := h.ex
  refine ⟨fun j hj => ?_, fun j hj => by omega, fun j hj => by omega, fun j j' b hj => by omega, World.ownsRow_nil _ _ _ _, fun j b hj => by omega, h.fr⟩
  have := (h1 j hj).2
  rwa [h2 j hj hj] at this
theorem G1.open {k : Nat} {cur : Nat → Value} {gs : Value} (c : AS R w0 lb lo V N) (h : G1 R w0 V N k cur gs w) (hk : k < R) : G2 R w0 V N k 0 (V k) cur gs w := by
  refine ⟨h, by simpa using h.ls k hk, .inl ⟨rfl, rfl⟩, fun j b hj e q => ?_, fun b e q => ?_⟩
  · rcases (h.rel j hj).own e with r | r
    · exact c.ap j k b (by omega) hk (by omega) r q
    · have := c.lt hk q; omega
  · have := (h.gr.lt b e).1
    have := c.lt hk q
    omega
theorem G2.step {k i : Nat} {c0 v' : Value} {cur : Nat → Value} {gs : Value} {w' : World} {X : Obj} (c : AS R w0 lb lo V N) (h : G2 R w0 V N k i c0 cur gs w) (hk : k < R)
    (hr : Ro w' 2 v' (N k + i + 1) (flt enP (mkP k (N k + i) ++ [mkp k (N k + i)]))) (hg : (w.alloc X).grownBy w' c0.ownBlock)
    (hat : (∃ g off cap, c0 = .slice (some ⟨g, off, none⟩) (N k + i) cap ∧ v' = .slice (some ⟨g, off, none⟩) (N k + i + 1) cap) ∨ v'.ownBlock = some (w.alloc X).heap.size) (hold : Ro w' 2 c0 (N k + i) (flt enP (mkP k (N k + i)))) : G2 R w0 V N k (i + 1) v' cur gs w' := by
  have f : Fr (fun b => c0.ownBlock = some b) w w' := ((Fr.refl _ w).alloc X).grown hg (fun b e => .inr e)
  have hsz := h.g1.fr.size
  have hro : Ro w' 2 v' (N k + (i + 1)) (flt enP (mkP k (N k + (i + 1)))) := by
    rw [show N k + (i + 1) = (N k + i) + 1 by omega, mkP_succ]
    exact hr
  have hX : (w.alloc X).heap.size = w.heap.size + 1 := by simp
  have own' : ∀ b, v'.ownBlock = some b → c0.ownBlock = some b ∨ w.heap.size < b := fun b e => by
    rcases hat with ⟨g, off, cap, e1, e2⟩ | e2
    · rw [e2] at e; rw [e1]; exact .inl e
    · rw [e2] at e; cases e; right; omega
  have hls : ∀ j, j < R → Ro w' 2 (V j) (N j) (flt enP (mkP j (N j))) := fun j hj => by
    by_cases q : j = k
    · subst q
      rcases h.crel with ⟨e0, e1⟩ | ⟨g, off, cap, e1, e2⟩ | ⟨b, e1, hb⟩
      · subst e0
        rw [← e1]
        simpa using hold
      · rw [e2] at hold
        have := hold.upto rfl (k := N j) (by omega)
        rw [flt_take zP, mkP_take j (N j) _ (by omega)] at this
        rw [e1]
        exact this
      · exact Ro.fr (h.g1.ls j hj) f (fun b' hb' e => by
          rw [e1] at e
          cases e
          have := c.lt hj hb'
          omega)
    · exact Ro.fr (h.g1.ls j hj) f (fun b hb e => by
        rcases h.crel.own e with r | r
        · exact c.ap j k b hj hk q hb r
        · have := c.lt hj hb; omega)
  refine ⟨⟨hls, fun j hj => Ro.fr (h.g1.cr j hj) f (fun b hb e => h.cdis j b hj hb e), h.g1.rel, h.g1.dis, own_keepT h.g1.gr (fun b hb => f.block b (h.g1.gr.lt b hb).2 (fun e => h.cg b hb e)), h.g1.gdis, h.g1.fr.trans2 f (fun b hb e => ?_)⟩, hro, ?_, fun j b hj e q => ?_, fun b e q => ?_⟩
  · rcases h.crel.own e with r | r
    · exact ⟨k, hk, r⟩
    · omega
  · rcases hat with ⟨g, off, cap, e1, e2⟩ | e2
    · rcases h.crel with ⟨e0, e3⟩ | ⟨g', off', cap', e3, e4⟩ | ⟨b, e3, hb⟩
      · right; left
        subst e0
        exact ⟨g, off, cap, by rw [← e3, e1]; rfl, e2⟩
      · right; left
        rw [e4] at e1
        cases e1
        exact ⟨_, _, _, e3, e2⟩
      · right; right
        rw [e1] at e3
        exact ⟨b, by rw [e2]; exact e3, hb⟩
    · right; right
      exact ⟨_, e2, by omega⟩
  · rcases own' b q with r | r
    · exact h.cdis j b hj e r
    · have := (h.g1.cr j hj).lt b e; omega
  · rcases own' b q with r | r
    · exact h.cg b e r
    · have := (h.g1.gr.lt b e).2; omega
theorem G2.push {k : Nat} {c0 gs' : Value} {cur : Nat → Value} {gs : Value} {w' : World} {X : Obj} (c : AS R w0 lb lo V N) (h : G2 R w0 V N k 64 c0 cur gs w) (hk : k < R)
    (hown : w'.ownsRow w0.heap.size 48 1 gs' (k + 1) ((List.range k).map cur ++ [c0])) (hg : (w.alloc X).grownBy w' gs.ownBlock) (hat : gs'.ownBlock = gs.ownBlock ∨ gs'.ownBlock = some (w.heap.size + 1)) : G1 R w0 V N (k + 1) (updV cur k c0) gs' w' := by
  have f : Fr (fun b => gs.ownBlock = some b) w w' := ((Fr.refl _ w).alloc X).grown hg (fun b e => .inr e)
  have hsz := h.g1.fr.size
  have gsb : ∀ b, gs.ownBlock = some b → w0.heap.size ≤ b := fun b e => (h.g1.gr.lt b e).1
  have cu : ∀ j, j < k + 1 → j ≠ k → updV cur k c0 j = cur j ∧ j < k := fun j hj hn => ⟨updV_ne _ _ hn, by omega⟩
  refine ⟨fun j hj => Ro.fr (h.g1.ls j hj) f (fun b hb e => by have := c.lt hj hb; have := gsb b e; omega), fun j hj => ?_, fun j hj => ?_, fun j j' b hj hj' hn e q => ?_, ?_, fun j b hj e q => ?_, h.g1.fr.trans2 f (fun b hb e => by have := gsb b e; omega)⟩
  · by_cases q : j = k
    · subst q
      rw [updV_at]
      exact Ro.fr h.cc f (fun b hb e => h.cg b e hb)
    · obtain ⟨e, hjk⟩ := cu j hj q
      rw [e]
      exact Ro.fr (h.g1.cr j hjk) f (fun b hb e => h.g1.gdis j b hjk e hb)
  · by_cases q : j = k
    · subst q
      rw [updV_at]
      exact h.crel
    · obtain ⟨e, hjk⟩ := cu j hj q
      rw [e]
      exact h.g1.rel j hjk
  · by_cases q1 : j = k
    · subst q1
      rw [updV_at] at e
      obtain ⟨e2, hjk⟩ := cu j' hj' (by omega)
      rw [e2] at q
      exact h.cdis j' b hjk q e
    · obtain ⟨e2, hjk⟩ := cu j hj q1
      rw [e2] at e
      by_cases q2 : j' = k
      · subst q2
        rw [updV_at] at q
        exact h.cdis j b hjk e q
      · obtain ⟨e3, hjk'⟩ := cu j' hj' q2
        rw [e3] at q
        exact h.g1.dis j j' b hjk hjk' hn e q
  · rw [List.range_succ, List.map_append, updV_range]
    simpa [updV_at] using hown
  · have hc : ∀ b, (updV cur k c0 j).ownBlock = some b → b < w.heap.size ∧ gs.ownBlock ≠ some b := fun b e => by
      by_cases q1 : j = k
      · subst q1
        rw [updV_at] at e
        exact ⟨h.cc.lt b e, fun q => h.cg b q e⟩
      · obtain ⟨e2, hjk⟩ := cu j hj q1
        rw [e2] at e
        exact ⟨(h.g1.cr j hjk).lt b e, fun q => h.g1.gdis j b hjk q e⟩
    obtain ⟨z1, z2⟩ := hc b q
    rcases hat with r | r
    · exact z2 (r ▸ e)
    · rw [r] at e; cases e; omega
end
theorem row_shp {w : World} {base : Nat} {e : TypeId} {v : Value} {n : Nat} {xs : List Value} (h : w.ownsRow base e 1 v n xs) : ∃ a cap, v = .slice a n cap := by
  rcases h.2 with ⟨e1, e2⟩ | ⟨g, cap, cur, e1, _⟩
  · exact ⟨none, 0, by rw [e1, e2]⟩
  · exact ⟨_, cap, e1⟩

end Go.Proofs.YtpbdmbmafjkinaaDoor
