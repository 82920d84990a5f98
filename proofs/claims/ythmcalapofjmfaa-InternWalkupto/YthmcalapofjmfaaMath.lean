/-
  Where a text stands in a row; a row with a text laid in.
-/
import Derived.Test.YthmcalapofjmfaaProg
namespace Go.Proofs.Ythmcalapofjmfaa

def Hid (p : Prop) : Prop := p
theorem hide {p : Prop} (h : p) : Hid p := h
theorem unhide {p : Prop} (h : Hid p) : p := h

/-- The text at a place. -/
def tx (rs : List ByteArray) (i : Nat) : ByteArray := rs.getD i ByteArray.empty

/-- A text's number in a row. -/
def idx : List ByteArray → ByteArray → Option Nat
  | [], _ => none
  | r :: rs, s => if r = s then some 0 else (idx rs s).map (· + 1)

theorem idx_none {rs : List ByteArray} {s : ByteArray} : idx rs s = none ↔ s ∉ rs := by
  induction rs with
  | nil => simp [idx]
  | cons r rs ih =>
    unfold idx
    by_cases h : r = s
    · simp [h]
    · have h2 : ¬ s = r := fun e => h e.symm
      simp [h, h2, ih]

theorem idx_some {s : ByteArray} : ∀ {rs : List ByteArray} {i : Nat}, idx rs s = some i → i < rs.length ∧ tx rs i = s
  | [], i, h => by simp [idx] at h
  | r :: rs, i, h => by
    unfold idx at h
    by_cases e : r = s
    · rw [if_pos e] at h
      cases h
      exact ⟨by simp, by simp [tx, e]⟩
    · rw [if_neg e] at h
      cases h2 : idx rs s with
      | none => rw [h2] at h; cases h
      | some j =>
        rw [h2] at h
        cases h
        obtain ⟨h3, h4⟩ := idx_some h2
        exact ⟨by simp; omega, by simpa [tx] using h4⟩

theorem idx_mem {rs : List ByteArray} {s : ByteArray} (h : s ∈ rs) : ∃ i, idx rs s = some i := by
  cases h2 : idx rs s with
  | none => exact absurd h (idx_none.1 h2)
  | some i => exact ⟨i, rfl⟩

theorem tx_mem {rs : List ByteArray} {i : Nat} (h : i < rs.length) : tx rs i ∈ rs := by
  unfold tx
  rw [List.getD, List.getElem?_eq_getElem h]
  exact List.getElem_mem h

theorem idx_append (s t : ByteArray) : ∀ rs : List ByteArray, idx (rs ++ [t]) s = match idx rs s with | some i => some i | none => if t = s then some rs.length else none
  | [] => by simp [idx]
  | r :: rs => by
    simp only [List.cons_append, idx]
    by_cases h : r = s
    · simp [h]
    · rw [if_neg h, if_neg h, idx_append s t rs]
      cases idx rs s with
      | some i => rfl
      | none =>
        by_cases h2 : t = s
        · simp [h2]
        · simp [h2]

theorem idx_at : ∀ {rs : List ByteArray} {i : Nat}, rs.Nodup → i < rs.length → idx rs (tx rs i) = some i
  | [], i, _, h => by simp at h
  | r :: rs, 0, _, _ => by simp [idx, tx]
  | r :: rs, i + 1, hn, h => by
    obtain ⟨h1, h2⟩ := List.nodup_cons.1 hn
    have e : tx (r :: rs) (i + 1) = tx rs i := by simp [tx]
    have hi : i < rs.length := by simpa using h
    rw [e]
    unfold idx
    have hne : ¬ r = tx rs i := fun q => h1 (by rw [q]; exact tx_mem hi)
    rw [if_neg hne, idx_at h2 hi]
    rfl

/-- The row with a text laid in. -/
def ins (rs : List ByteArray) (s : ByteArray) : List ByteArray := match idx rs s with | some _ => rs | none => rs ++ [s]
/-- .. and its number. -/
def num (rs : List ByteArray) (s : ByteArray) : Nat := match idx rs s with | some i => i | none => rs.length

theorem ins_old {rs : List ByteArray} {s : ByteArray} {i : Nat} (h : idx rs s = some i) : ins rs s = rs ∧ num rs s = i := by unfold ins num; rw [h]; exact ⟨rfl, rfl⟩
theorem ins_new {rs : List ByteArray} {s : ByteArray} (h : idx rs s = none) : ins rs s = rs ++ [s] ∧ num rs s = rs.length := by unfold ins num; rw [h]; exact ⟨rfl, rfl⟩
theorem ins_nodup {rs : List ByteArray} {s : ByteArray} (h : rs.Nodup) : (ins rs s).Nodup := by
  cases e : idx rs s with
  | some i => rw [(ins_old e).1]; exact h
  | none =>
    rw [(ins_new e).1, List.nodup_append]
    have := idx_none.1 e
    exact ⟨h, by simp, fun a ha b hb => by simp at hb; subst hb; intro q; exact this (q ▸ ha)⟩
theorem ins_mem {rs : List ByteArray} {s t : ByteArray} : t ∈ ins rs s ↔ t ∈ rs ∨ t = s := by
  cases e : idx rs s with
  | some i =>
    rw [(ins_old e).1]
    have h : s ∈ rs := (idx_some e).2 ▸ tx_mem (idx_some e).1
    exact ⟨.inl, fun q => q.elim id (fun q => q ▸ h)⟩
  | none => rw [(ins_new e).1]; simp
theorem ins_length {rs : List ByteArray} {s : ByteArray} : (ins rs s).length = rs.length ∨ (ins rs s).length = rs.length + 1 := by
  cases e : idx rs s with
  | some i => rw [(ins_old e).1]; exact .inl rfl
  | none => rw [(ins_new e).1]; right; simp
theorem num_idx {rs : List ByteArray} {s : ByteArray} : idx (ins rs s) s = some (num rs s) := by
  cases e : idx rs s with
  | some i => rw [(ins_old e).1, (ins_old e).2, e]
  | none => rw [(ins_new e).1, (ins_new e).2, idx_append, e]; simp
theorem ins_idx {rs : List ByteArray} {s t : ByteArray} {i : Nat} (h : idx rs t = some i) : idx (ins rs s) t = some i := by
  cases e : idx rs s with
  | some j => rw [(ins_old e).1]; exact h
  | none => rw [(ins_new e).1, idx_append, h]

theorem tx_take {rs : List ByteArray} {n i : Nat} (h : i < n) : tx (rs.take n) i = tx rs i := by
  simp [tx, List.getD, h]
theorem idx_take (n : Nat) (s : ByteArray) (rs : List ByteArray) (hn : rs.Nodup) : idx (rs.take n) s = (idx rs s).filter (fun i => decide (i < n)) := by
  cases e : idx rs s with
  | none =>
    simp only [Option.filter_none]
    exact idx_none.2 (fun h => idx_none.1 e (List.mem_of_mem_take h))
  | some i =>
    obtain ⟨h1, h2⟩ := idx_some e
    by_cases hi : i < n
    · simp only [Option.filter, hi, decide_true, if_true]
      have := idx_at (hn.sublist (List.take_sublist n rs)) (i := i) (by simp; omega)
      rw [tx_take hi, h2] at this
      exact this
    · simp only [Option.filter, hi, decide_false]
      refine idx_none.2 (fun h => ?_)
      obtain ⟨j, hj⟩ := idx_mem h
      obtain ⟨h3, h4⟩ := idx_some hj
      have h5 : j < n ∧ j < rs.length := by simp at h3; omega
      rw [tx_take h5.1] at h4
      have := idx_at hn h5.2
      rw [h4, e] at this
      simp at this
      omega
theorem tx_append_left {rs ss : List ByteArray} {i : Nat} (h : i < rs.length) : tx (rs ++ ss) i = tx rs i := by
  simp [tx, List.getD, List.getElem?_append_left h]
theorem tx_append_at (rs : List ByteArray) (s : ByteArray) : tx (rs ++ [s]) rs.length = s := by
  simp [tx, List.getD]

/-- The first j texts of a list, laid in one by one. -/
def rowOf (l : List ByteArray) : Nat → List ByteArray
  | 0 => []
  | j + 1 => ins (rowOf l j) (tx l j)
theorem rowOf_nodup (l : List ByteArray) : ∀ j, (rowOf l j).Nodup
  | 0 => List.nodup_nil
  | j + 1 => ins_nodup (rowOf_nodup l j)
theorem rowOf_length (l : List ByteArray) : ∀ j, (rowOf l j).length ≤ j
  | 0 => Nat.le_refl _
  | j + 1 => by
    have h1 := rowOf_length l j
    have h2 := @ins_length (rowOf l j) (tx l j)
    show (ins (rowOf l j) (tx l j)).length ≤ j + 1
    omega
theorem rowOf_mem (l : List ByteArray) : ∀ j s, s ∈ rowOf l j ↔ ∃ i, i < j ∧ tx l i = s
  | 0, s => by simp [rowOf]
  | j + 1, s => by
    show s ∈ ins (rowOf l j) (tx l j) ↔ _
    rw [ins_mem, rowOf_mem l j s]
    constructor
    · rintro (⟨i, h1, h2⟩ | h)
      · exact ⟨i, by omega, h2⟩
      · exact ⟨j, by omega, h.symm⟩
    · rintro ⟨i, h1, h2⟩
      by_cases e : i = j
      · right; rw [← h2, e]
      · exact .inl ⟨i, by omega, h2⟩
theorem rowOf_idx {l : List ByteArray} {j j2 : Nat} {s : ByteArray} {i : Nat} (h : j ≤ j2) (hi : idx (rowOf l j) s = some i) : idx (rowOf l j2) s = some i := by
  induction j2 with
  | zero => rw [Nat.le_zero.1 h] at hi; exact hi
  | succ m ih =>
    by_cases e : j = m + 1
    · rw [e] at hi; exact hi
    · exact ins_idx (ih (by omega))
end Go.Proofs.Ythmcalapofjmfaa
