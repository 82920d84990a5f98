/-
  Where a number stands in a row; frames; what is an index's own.
-/
import Derived.Test.YthmcalapofjmfabProg
import Derived.WalkKit
import Derived.Below
import Derived.Deep.AppendLies
import Derived.Maps.OwnSet
import Derived.Deep.Draws
import Derived.KernelRfl
import Derived.Lib.SliceRun
namespace Go.Proofs.Ythmcalapofjmfab
open Go.RowKit Go.Maps
set_option linter.unusedVariables false

def Hid (p : Prop) : Prop := p
theorem hide {p : Prop} (h : p) : Hid p := h
theorem unhide {p : Prop} (h : Hid p) : p := h

/-- The text at a place. -/
def tx (rs : List Nat) (i : Nat) : Nat := rs.getD i 0

/-- A text's number in a row. -/
def idx : List Nat → Nat → Option Nat
  | [], _ => none
  | r :: rs, s => if r = s then some 0 else (idx rs s).map (· + 1)

theorem idx_none {rs : List Nat} {s : Nat} : idx rs s = none ↔ s ∉ rs := by
  induction rs with
  | nil => simp [idx]
  | cons r rs ih =>
    unfold idx
    by_cases h : r = s
    · simp [h]
    · have h2 : ¬ s = r := fun e => h e.symm
      simp [h, h2, ih]

theorem idx_some {s : Nat} : ∀ {rs : List Nat} {i : Nat}, idx rs s = some i → i < rs.length ∧ tx rs i = s
  | [], i, h => by simp [idx] at h
  | r :: rs, i, h => by
    unfold idx at h
    by_cases e : r = s
    · rw [if_pos e] at h
      cases h
      exact ⟨by simp, by simp [tx, e]⟩
    · rw [if_neg e] at h
      cases h2 : idx rs s with
      | none => rw [h2] at h; cases h
      | some j =>
        rw [h2] at h
        cases h
        obtain ⟨h3, h4⟩ := idx_some h2
        exact ⟨by simp; omega, by simpa [tx] using h4⟩

theorem idx_mem {rs : List Nat} {s : Nat} (h : s ∈ rs) : ∃ i, idx rs s = some i := by
  cases h2 : idx rs s with
  | none => exact absurd h (idx_none.1 h2)
  | some i => exact ⟨i, rfl⟩

theorem tx_mem {rs : List Nat} {i : Nat} (h : i < rs.length) : tx rs i ∈ rs := by
  unfold tx
  rw [List.getD, List.getElem?_eq_getElem h]
  exact List.getElem_mem h

theorem idx_append (s t : Nat) : ∀ rs : List Nat, idx (rs ++ [t]) s = match idx rs s with | some i => some i | none => if t = s then some rs.length else none
  | [] => by simp [idx]
  | r :: rs => by
    simp only [List.cons_append, idx]
    by_cases h : r = s
    · simp [h]
    · rw [if_neg h, if_neg h, idx_append s t rs]
      cases idx rs s with
      | some i => rfl
      | none =>
        by_cases h2 : t = s
        · simp [h2]
        · simp [h2]

theorem idx_at : ∀ {rs : List Nat} {i : Nat}, rs.Nodup → i < rs.length → idx rs (tx rs i) = some i
  | [], i, _, h => by simp at h
  | r :: rs, 0, _, _ => by simp [idx, tx]
  | r :: rs, i + 1, hn, h => by
    obtain ⟨h1, h2⟩ := List.nodup_cons.1 hn
    have e : tx (r :: rs) (i + 1) = tx rs i := by simp [tx]
    have hi : i < rs.length := by simpa using h
    rw [e]
    unfold idx
    have hne : ¬ r = tx rs i := fun q => h1 (by rw [q]; exact tx_mem hi)
    rw [if_neg hne, idx_at h2 hi]
    rfl

/-- The row with a text laid in. -/
def ins (rs : List Nat) (s : Nat) : List Nat := match idx rs s with | some _ => rs | none => rs ++ [s]
/-- .. and its number. -/
def num (rs : List Nat) (s : Nat) : Nat := match idx rs s with | some i => i | none => rs.length

theorem ins_old {rs : List Nat} {s : Nat} {i : Nat} (h : idx rs s = some i) : ins rs s = rs ∧ num rs s = i := by unfold ins num; rw [h]; exact ⟨rfl, rfl⟩
theorem ins_new {rs : List Nat} {s : Nat} (h : idx rs s = none) : ins rs s = rs ++ [s] ∧ num rs s = rs.length := by unfold ins num; rw [h]; exact ⟨rfl, rfl⟩
theorem ins_nodup {rs : List Nat} {s : Nat} (h : rs.Nodup) : (ins rs s).Nodup := by
  cases e : idx rs s with
  | some i => rw [(ins_old e).1]; exact h
  | none =>
    rw [(ins_new e).1, List.nodup_append]
    have := idx_none.1 e
    exact ⟨h, by simp, fun a ha b hb => by simp at hb; subst hb; intro q; exact this (q ▸ ha)⟩
theorem ins_mem {rs : List Nat} {s t : Nat} : t ∈ ins rs s ↔ t ∈ rs ∨ t = s := by
  cases e : idx rs s with
  | some i =>
    rw [(ins_old e).1]
    have h : s ∈ rs := (idx_some e).2 ▸ tx_mem (idx_some e).1
    exact ⟨.inl, fun q => q.elim id (fun q => q ▸ h)⟩
  | none => rw [(ins_new e).1]; simp
theorem ins_length {rs : List Nat} {s : Nat} : (ins rs s).length = rs.length ∨ (ins rs s).length = rs.length + 1 := by
  cases e : idx rs s with
  | some i => rw [(ins_old e).1]; exact .inl rfl
  | none => rw [(ins_new e).1]; right; simp
theorem num_idx {rs : List Nat} {s : Nat} : idx (ins rs s) s = some (num rs s) := by
  cases e : idx rs s with
  | some i => rw [(ins_old e).1, (ins_old e).2, e]
  | none => rw [(ins_new e).1, (ins_new e).2, idx_append, e]; simp
theorem ins_idx {rs : List Nat} {s t : Nat} {i : Nat} (h : idx rs t = some i) : idx (ins rs s) t = some i := by
  cases e : idx rs s with
  | some j => rw [(ins_old e).1]; exact h
  | none => rw [(ins_new e).1, idx_append, h]

theorem tx_take {rs : List Nat} {n i : Nat} (h : i < n) : tx (rs.take n) i = tx rs i := by
  simp [tx, List.getD, h]
theorem idx_take (n : Nat) (s : Nat) (rs : List Nat) (hn : rs.Nodup) : idx (rs.take n) s = (idx rs s).filter (fun i => decide (i < n)) := by
  cases e : idx rs s with
  | none =>
    simp only [Option.filter_none]
    exact idx_none.2 (fun h => idx_none.1 e (List.mem_of_mem_take h))
  | some i =>
    obtain ⟨h1, h2⟩ := idx_some e
    by_cases hi : i < n
    · simp only [Option.filter, hi, decide_true, if_true]
      have := idx_at (hn.sublist (List.take_sublist n rs)) (i := i) (by simp; omega)
      rw [tx_take hi, h2] at this
      exact this
    · simp only [Option.filter, hi, decide_false]
      refine idx_none.2 (fun h => ?_)
      obtain ⟨j, hj⟩ := idx_mem h
      obtain ⟨h3, h4⟩ := idx_some hj
      have h5 : j < n ∧ j < rs.length := by simp at h3; omega
      rw [tx_take h5.1] at h4
      have := idx_at hn h5.2
      rw [h4, e] at this
      simp at this
      omega
theorem tx_append_left {rs ss : List Nat} {i : Nat} (h : i < rs.length) : tx (rs ++ ss) i = tx rs i := by
  simp [tx, List.getD, List.getElem?_append_left h]
theorem tx_append_at (rs : List Nat) (s : Nat) : tx (rs ++ [s]) rs.length = s := by
  simp [tx, List.getD]

/-- The first j texts of a list, laid in one by one. -/
def rowOf (l : List Nat) : Nat → List Nat
  | 0 => []
  | j + 1 => ins (rowOf l j) (tx l j)
theorem rowOf_nodup (l : List Nat) : ∀ j, (rowOf l j).Nodup
  | 0 => List.nodup_nil
  | j + 1 => ins_nodup (rowOf_nodup l j)
theorem rowOf_length (l : List Nat) : ∀ j, (rowOf l j).length ≤ j
  | 0 => Nat.le_refl _
  | j + 1 => by
    have h1 := rowOf_length l j
    have h2 := @ins_length (rowOf l j) (tx l j)
    show (ins (rowOf l j) (tx l j)).length ≤ j + 1
    omega
theorem rowOf_mem (l : List Nat) : ∀ j s, s ∈ rowOf l j ↔ ∃ i, i < j ∧ tx l i = s
  | 0, s => by simp [rowOf]
  | j + 1, s => by
    show s ∈ ins (rowOf l j) (tx l j) ↔ _
    rw [ins_mem, rowOf_mem l j s]
    constructor
    · rintro (⟨i, h1, h2⟩ | h)
      · exact ⟨i, by omega, h2⟩
      · exact ⟨j, by omega, h.symm⟩
    · rintro ⟨i, h1, h2⟩
      by_cases e : i = j
      · right; rw [← h2, e]
      · exact .inl ⟨i, by omega, h2⟩
theorem rowOf_idx {l : List Nat} {j j2 : Nat} {s : Nat} {i : Nat} (h : j ≤ j2) (hi : idx (rowOf l j) s = some i) : idx (rowOf l j2) s = some i := by
  induction j2 with
  | zero => rw [Nat.le_zero.1 h] at hi; exact hi
  | succ m ih =>
    by_cases e : j = m + 1
    · rw [e] at hi; exact hi
    · exact ins_idx (ih (by omega))
/-- From w to w' nothing has turned but the blocks of which S holds, and new ones. -/
structure Fr (S : Nat → Prop) (w w' : World) : Prop where
  os : w'.os = w.os
  tape : w'.tape = w.tape
  output : w'.output = w.output
  size : w.heap.size ≤ w'.heap.size
  block : ∀ k, k < w.heap.size → ¬ S k → w'.heap[k]? = w.heap[k]?

theorem Fr.refl (S : Nat → Prop) (w : World) : Fr S w w := ⟨rfl, rfl, rfl, Nat.le_refl _, fun _ _ _ => rfl⟩
theorem Fr.mono {S T : Nat → Prop} {w w' : World} (h : Fr S w w') (hs : ∀ k, k < w.heap.size → S k → T k) : Fr T w w' :=
  ⟨h.os, h.tape, h.output, h.size, fun k hk hn => h.block k hk (fun hS => hn (hs k hk hS))⟩
theorem Fr.trans {S : Nat → Prop} {a b c : World} (h : Fr S a b) (k : Fr S b c) : Fr S a c :=
  ⟨k.os.trans h.os, k.tape.trans h.tape, k.output.trans h.output, Nat.le_trans h.size k.size,
    fun i hi hn => (k.block i (Nat.lt_of_lt_of_le hi h.size) hn).trans (h.block i hi hn)⟩
theorem Fr.alloc {S : Nat → Prop} {a w : World} (h : Fr S a w) (o : Obj) : Fr S a (w.alloc o) :=
  ⟨h.os, h.tape, h.output, Nat.le_trans h.size (by simp), fun k hk hn => (Below.heap_alloc _ _ _ (Nat.lt_of_lt_of_le hk h.size)).trans (h.block k hk hn)⟩
theorem Fr.drew {S : Nat → Prop} {a w : World} (h : Fr S a w) : Fr S a w.drew := ⟨h.os, h.tape, h.output, h.size, h.block⟩
theorem Fr.setCell {S : Nat → Prop} {a w : World} (h : Fr S a w) (p : Addr) (hp : a.heap.size ≤ p.block ∨ S p.block) (u : Value) : Fr S a (w.setCell p u) :=
  ⟨h.os, h.tape, h.output, Nat.le_trans h.size (by simp [World.setCell]), fun k hk hn => by
    rw [Below.heap_setCell _ _ _ _ ?_]
    · exact h.block k hk hn
    · intro e; subst e
      rcases hp with hp | hp
      · omega
      · exact hn hp⟩
theorem Fr.grown {S : Nat → Prop} {a w w' : World} {row : Option Nat} (h : Fr S a w) (hg : w.grownBy w' row) (hr : ∀ k, row = some k → a.heap.size ≤ k ∨ S k) : Fr S a w' :=
  ⟨hg.os.trans h.os, hg.tape.trans h.tape, hg.output.trans h.output, Nat.le_trans h.size hg.size, fun k hk hn => by
    rw [hg.block k (Nat.lt_of_lt_of_le hk h.size) ?_]
    · exact h.block k hk hn
    · intro e
      rcases hr k e.symm with hp | hp
      · omega
      · exact hn hp⟩
theorem Fr.below {S : Nat → Prop} {B : Nat} {w w' : World} (h : Fr S w w') (hB : B ≤ w.heap.size) (hs : ∀ k, k < B → ¬ S k) : Below B w w' :=
  ⟨h.os, h.tape, h.output, h.size, fun k hk => h.block k (by omega) (hs k hk)⟩
theorem Fr.of_below {S : Nat → Prop} {w w' : World} (h : Below w.heap.size w w') : Fr S w w' :=
  ⟨h.os, h.tape, h.output, h.size, fun k hk _ => h.block k hk⟩
theorem Fr.cell {S : Nat → Prop} {w w' : World} (h : Fr S w w') {a : Addr} (hb : a.block < w.heap.size) (hn : ¬ S a.block) : w'.cell? a = w.cell? a :=
  World.cell?_of_block (h.block a.block hb hn)
theorem Fr.frozen {S : Nat → Prop} {w w' : World} (h : Fr S w w') {a : Addr} (hb : a.block < w.heap.size) (hn : ¬ S a.block) : w'.frozen? a = w.frozen? a :=
  World.frozen?_of_block (h.block a.block hb hn)

theorem Fr.drewN {S : Nat → Prop} {w : World} (n : Nat) : Fr S w (w.drewN n) := ⟨rfl, rfl, rfl, Nat.le_refl _, fun _ _ _ => rfl⟩

theorem own_keep {w w' : World} {base sz : Nat} {e : TypeId} {v : Value} {n : Nat} {xs : List Value} (h : w.ownsRow base e sz v n xs) (hb : ∀ g, v.ownBlock = some g → w'.heap[g]? = w.heap[g]?) : w'.ownsRow base e sz v n xs := by
  obtain ⟨h1, h2⟩ := h
  refine ⟨h1, ?_⟩
  rcases h2 with h2 | ⟨g, cap, cur, hv, hg, hh, r⟩
  · exact Or.inl h2
  · exact Or.inr ⟨g, cap, cur, hv, hg, by rw [hb g (by rw [hv]; rfl)]; exact hh, r⟩
theorem pigeon : ∀ (N : Nat) (ks : List Nat), ks.Nodup → (∀ k ∈ ks, k < N) → ks.length ≤ N
  | 0, ks, _, h => by
    cases ks with
    | nil => simp
    | cons k r => exact absurd (h k (by simp)) (by omega)
  | N + 1, ks, hd, h => by
    by_cases hm : N ∈ ks
    · have h1 := pigeon N (ks.erase N) (hd.erase N) (fun k hk => by
        have h2 := h k (List.mem_of_mem_erase hk)
        have h3 : k ≠ N := fun e => by subst e; exact (hd.not_mem_erase) hk
        omega)
      have h4 := List.length_erase_of_mem hm
      omega
    · exact Nat.le_succ_of_le (pigeon N ks hd (fun k hk => by
        have h2 := h k hk
        have h3 : k ≠ N := fun e => hm (e ▸ hk)
        omega))
/-- What is an index's own. -/
def Foot (p b : Nat) (v : Value) : Nat → Prop := fun k => k = p ∨ k = b ∨ v.ownBlock = some k

/-- A call of the index: it turns its own alone, and its row stays or is a new one. -/
structure IStep (p b : Nat) (w : World) (v : Value) (w' : World) (v' : Value) : Prop where
  fr : Fr (Foot p b v) w w'
  row : v'.ownBlock = v.ownBlock ∨ ∀ k, v'.ownBlock = some k → w.heap.size ≤ k

theorem IStep.refl (p b : Nat) (w : World) (v : Value) : IStep p b w v w v := ⟨Fr.refl _ _, .inl rfl⟩
theorem IStep.trans {p b : Nat} {w w1 w2 : World} {v v1 v2 : Value} (h : IStep p b w v w1 v1) (k : IStep p b w1 v1 w2 v2) : IStep p b w v w2 v2 := by
  have hs := h.fr.size
  refine ⟨⟨k.fr.os.trans h.fr.os, k.fr.tape.trans h.fr.tape, k.fr.output.trans h.fr.output, Nat.le_trans hs k.fr.size, fun i hi hn => ?_⟩, ?_⟩
  · rw [k.fr.block i (by omega) ?_]
    · exact h.fr.block i hi hn
    · rintro (e | e | e)
      · exact hn (.inl e)
      · exact hn (.inr (.inl e))
      · rcases h.row with r | r
        · exact hn (.inr (.inr (r ▸ e)))
        · have := r i e; omega
  · rcases k.row with r | r
    · rcases h.row with q | q
      · exact .inl (r.trans q)
      · exact .inr fun k hk => q k (r ▸ hk)
    · exact .inr fun k hk => by have := r k hk; omega
theorem IStep.below {p b : Nat} {w w' : World} {v v' : Value} {B : Nat} (h : IStep p b w v w' v') (hB : B ≤ w.heap.size) (hp : B ≤ p) (hb : B ≤ b) (hv : ∀ k, v.ownBlock = some k → B ≤ k) : Below B w w' :=
  h.fr.below hB (fun k hk => by
    rintro (e | e | e)
    · omega
    · omega
    · have := hv k e; omega)

/-- A text's number where the j numbers from k on are forgotten. -/
def fgt (rs : List Nat) (k j : Nat) (s : Nat) : Option Nat := (idx rs s).filter (fun i => decide (i < k ∨ k + j ≤ i))
theorem fgt_zero (rs : List Nat) (k : Nat) (s : Nat) : fgt rs k 0 s = idx rs s := by
  unfold fgt
  cases idx rs s with
  | none => rfl
  | some i => simp [Option.filter]
theorem fgt_step {rs : List Nat} (hd : rs.Nodup) {k j : Nat} (h : k + j < rs.length) (s : Nat) : (if s = tx rs (k + j) then none else fgt rs k j s) = fgt rs k (j + 1) s := by
  unfold fgt
  by_cases e : s = tx rs (k + j)
  · rw [if_pos e, e, idx_at hd h]
    simp [Option.filter]
  · rw [if_neg e]
    cases e2 : idx rs s with
    | none => rfl
    | some i =>
      have hne : i ≠ k + j := fun q => e (by rw [← q]; exact (idx_some e2).2.symm)
      have : decide (i < k ∨ k + j ≤ i) = decide (i < k ∨ k + (j + 1) ≤ i) := by
        rw [decide_eq_decide]; omega
      simp [Option.filter, this]
theorem fgt_here {rs : List Nat} (hd : rs.Nodup) {k j : Nat} (h : k + j < rs.length) : (fgt rs k j (tx rs (k + j))).isSome = true := by
  unfold fgt
  rw [idx_at hd h]
  simp [Option.filter]
theorem fgt_end {rs : List Nat} (hd : rs.Nodup) {k : Nat} (h : k ≤ rs.length) (s : Nat) : fgt rs k (rs.length - k) s = idx (rs.take k) s := by
  rw [idx_take k s rs hd]
  unfold fgt
  cases e : idx rs s with
  | none => rfl
  | some i =>
    have := (idx_some e).1
    have : decide (i < k ∨ k + (rs.length - k) ≤ i) = decide (i < k) := by
      rw [decide_eq_decide]; omega
    simp [Option.filter, this]

theorem setCells_size (b : Nat) : ∀ (vs : List Value) (o : Nat) (w : World), (w.setCells b o vs).heap.size = w.heap.size
  | [], _, _ => rfl
  | v :: r, o, w => by rw [World.setCells, setCells_size b r]; simp [World.setCell]
theorem setCells_other (b k : Nat) (hk : k ≠ b) : ∀ (vs : List Value) (o : Nat) (w : World), (w.setCells b o vs).heap[k]? = w.heap[k]?
  | [], _, _ => rfl
  | v :: r, o, w => by rw [World.setCells, setCells_other b k hk r, Below.heap_setCell _ _ _ _ hk]
theorem setCells_rest (b : Nat) : ∀ (vs : List Value) (o : Nat) (w : World), (w.setCells b o vs).os = w.os ∧ (w.setCells b o vs).tape = w.tape ∧ (w.setCells b o vs).output = w.output
  | [], _, _ => ⟨rfl, rfl, rfl⟩
  | v :: r, o, w => by rw [World.setCells]; exact setCells_rest b r _ _
theorem setCell_block {w : World} {g o : Nat} {cur : Array Value} {t : TypeId} {fz : Nat × Nat} (h : w.heap[g]? = some (.cells cur t fz)) (u : Value) :
    (w.setCell ⟨g, o, none⟩ u).heap[g]? = some (.cells (cur.setIfInBounds o u) t fz) := by
  simp only [World.setCell, Array.getElem?_modify, ↓reduceIte, h, Option.map_some]
  simp
theorem setCells_block (g : Nat) {t : TypeId} {fz : Nat × Nat} : ∀ (vs : List Value) (o : Nat) (w : World) (cur : Array Value), w.heap[g]? = some (.cells cur t fz) →
    ∃ cur', (w.setCells g o vs).heap[g]? = some (.cells cur' t fz) ∧ cur'.size = cur.size ∧ ∀ k, k ≤ o → cur'.toList.take k = cur.toList.take k
  | [], _, w, cur, h => ⟨cur, h, rfl, fun _ _ => rfl⟩
  | v :: r, o, w, cur, h => by
    obtain ⟨cur', h1, h2, h3⟩ := setCells_block g r (o + 1) (w.setCell ⟨g, o, none⟩ v) _ (setCell_block h v)
    refine ⟨cur', by rw [World.setCells]; exact h1, by rw [h2]; simp, fun k hk => ?_⟩
    rw [h3 k (by omega)]
    apply List.ext_getElem?
    intro i
    rw [List.getElem?_take, List.getElem?_take]
    by_cases hi : i < k
    · rw [if_pos hi, if_pos hi]
      simp only [Array.getElem?_toList]
      rw [Array.getElem?_setIfInBounds_ne (by omega)]
    · rw [if_neg hi, if_neg hi]

end Go.Proofs.Ythmcalapofjmfab
