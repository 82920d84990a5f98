/-
  A row cut: its map and its cells.
-/
import Derived.Test.YthmcalapofjmfaaOX
import Derived.Lib.SliceRun
namespace Go.Proofs.Ythmcalapofjmfaa
open Go.RowKit Go.Maps
set_option linter.unusedVariables false

/-- A text's number where the j numbers from k on are forgotten. -/
def fgt (rs : List ByteArray) (k j : Nat) (s : ByteArray) : Option Nat := (idx rs s).filter (fun i => decide (i < k ∨ k + j ≤ i))
theorem fgt_zero (rs : List ByteArray) (k : Nat) (s : ByteArray) : fgt rs k 0 s = idx rs s := by
  unfold fgt
  cases idx rs s with
  | none => rfl
  | some i => simp [Option.filter]
theorem fgt_step {rs : List ByteArray} (hd : rs.Nodup) {k j : Nat} (h : k + j < rs.length) (s : ByteArray) : (if s = tx rs (k + j) then none else fgt rs k j s) = fgt rs k (j + 1) s := by
  unfold fgt
  by_cases e : s = tx rs (k + j)
  · rw [if_pos e, e, idx_at hd h]
    simp [Option.filter]
  · rw [if_neg e]
    cases e2 : idx rs s with
    | none => rfl
    | some i =>
      have hne : i ≠ k + j := fun q => e (by rw [← q]; exact (idx_some e2).2.symm)
      have : decide (i < k ∨ k + j ≤ i) = decide (i < k ∨ k + (j + 1) ≤ i) := by
        rw [decide_eq_decide]; omega
      simp [Option.filter, this]
theorem fgt_here {rs : List ByteArray} (hd : rs.Nodup) {k j : Nat} (h : k + j < rs.length) : (fgt rs k j (tx rs (k + j))).isSome = true := by
  unfold fgt
  rw [idx_at hd h]
  simp [Option.filter]
theorem fgt_end {rs : List ByteArray} (hd : rs.Nodup) {k : Nat} (h : k ≤ rs.length) (s : ByteArray) : fgt rs k (rs.length - k) s = idx (rs.take k) s := by
  rw [idx_take k s rs hd]
  unfold fgt
  cases e : idx rs s with
  | none => rfl
  | some i =>
    have := (idx_some e).1
    have : decide (i < k ∨ k + (rs.length - k) ≤ i) = decide (i < k) := by
      rw [decide_eq_decide]; omega
    simp [Option.filter, this]

theorem setCells_size (b : Nat) : ∀ (vs : List Value) (o : Nat) (w : World), (w.setCells b o vs).heap.size = w.heap.size
  | [], _, _ => rfl
  | v :: r, o, w => by rw [World.setCells, setCells_size b r]; simp [World.setCell]
theorem setCells_other (b k : Nat) (hk : k ≠ b) : ∀ (vs : List Value) (o : Nat) (w : World), (w.setCells b o vs).heap[k]? = w.heap[k]?
  | [], _, _ => rfl
  | v :: r, o, w => by rw [World.setCells, setCells_other b k hk r, Below.heap_setCell _ _ _ _ hk]
theorem setCells_rest (b : Nat) : ∀ (vs : List Value) (o : Nat) (w : World), (w.setCells b o vs).os = w.os ∧ (w.setCells b o vs).tape = w.tape ∧ (w.setCells b o vs).output = w.output
  | [], _, _ => ⟨rfl, rfl, rfl⟩
  | v :: r, o, w => by rw [World.setCells]; exact setCells_rest b r _ _
theorem setCell_block {w : World} {g o : Nat} {cur : Array Value} {t : TypeId} {fz : Nat × Nat} (h : w.heap[g]? = some (.cells cur t fz)) (u : Value) :
    (w.setCell ⟨g, o, none⟩ u).heap[g]? = some (.cells (cur.setIfInBounds o u) t fz) := by
  simp only [World.setCell, Array.getElem?_modify, ↓reduceIte, h, Option.map_some]
  simp
theorem setCells_block (g : Nat) {t : TypeId} {fz : Nat × Nat} : ∀ (vs : List Value) (o : Nat) (w : World) (cur : Array Value), w.heap[g]? = some (.cells cur t fz) →
    ∃ cur', (w.setCells g o vs).heap[g]? = some (.cells cur' t fz) ∧ cur'.size = cur.size ∧ ∀ k, k ≤ o → cur'.toList.take k = cur.toList.take k
  | [], _, w, cur, h => ⟨cur, h, rfl, fun _ _ => rfl⟩
  | v :: r, o, w, cur, h => by
    obtain ⟨cur', h1, h2, h3⟩ := setCells_block g r (o + 1) (w.setCell ⟨g, o, none⟩ v) _ (setCell_block h v)
    refine ⟨cur', by rw [World.setCells]; exact h1, by rw [h2]; simp, fun k hk => ?_⟩
    rw [h3 k (by omega)]
    apply List.ext_getElem?
    intro i
    rw [List.getElem?_take, List.getElem?_take]
    by_cases hi : i < k
    · rw [if_pos hi, if_pos hi]
      simp only [Array.getElem?_toList]
      rw [Array.getElem?_setIfInBounds_ne (by omega)]
    · rw [if_neg hi, if_neg hi]

/-- What stands while a cut forgets: only the map's block has turned. -/
structure CutAt (w : World) (p b : Nat) (v : Value) (rs : List ByteArray) (k j : Nat) (wr : World) : Prop where
  fr : Fr (fun i => i = b) w wr
  mp : Mf wr b (rs.length - j) (fgt rs k j)
theorem CutAt.start {w : World} {p b : Nat} {v : Value} {rs : List ByteArray} (h : Ix w p b v rs) (k : Nat) : CutAt w p b v rs k 0 w :=
  ⟨Fr.refl _ _, by rw [Nat.sub_zero]; exact h.mp.congr (fun s => (fgt_zero rs k s).symm)⟩
theorem CutAt.step {w : World} {p b : Nat} {v : Value} {rs : List ByteArray} (h : Ix w p b v rs) {k j : Nat} {wr : World} (c : CutAt w p b v rs k j wr) (hj : k + j < rs.length) (ty : TypeId) :
    ∃ w', (Builtin.delete_ #[73, 9] ty #[.map (some b), .string (tx rs (k + j))]).run Try.prog wr = .ok (.tuple #[]) w' ∧ CutAt w p b v rs k (j + 1) w' := by
  have hm := c.mp
  rw [show rs.length - j = (rs.length - (j + 1)) + 1 from by omega] at hm
  obtain ⟨w', h1, h2, h3⟩ := hm.del (tx rs (k + j)) (h.ok _ (tx_mem (by omega))) (fgt_here h.nd hj) ty
  exact ⟨w', h1, c.fr.grown h3 (fun i e => .inr (by simpa using e.symm)), h2.congr (fun s => fgt_step h.nd (by omega) s)⟩
theorem CutAt.cells {w : World} {p b : Nat} {v : Value} {rs : List ByteArray} (h : Ix w p b v rs) {k j : Nat} {wr : World} (c : CutAt w p b v rs k j wr) :
    wr.cell? ⟨p, 0, none⟩ = some v ∧ wr.cell? ⟨p, 1, none⟩ = some (.map (some b)) ∧ wr.frozen? ⟨p, 0, none⟩ = false ∧ wr.ownsRow 0 9 1 v rs.length (rs.map Value.string) :=
  ⟨(c.fr.cell (a := ⟨p, 0, none⟩) h.lt h.pb).trans h.c0, (c.fr.cell (a := ⟨p, 1, none⟩) h.lt h.pb).trans h.c1, (c.fr.frozen (a := ⟨p, 0, none⟩) h.lt h.pb).trans h.f0,
    own_keep h.own (fun g hg => c.fr.block g (h.vlt g hg) (fun e => h.vb (e ▸ hg)))⟩
theorem zero9 (w : World) : (zeroValue 9).run Try.prog w = .ok (.string ⟨#[]⟩) w := by kernel_rfl
/-- The last steps: the room behind is cleared, the row is the shorter one. -/
theorem CutAt.done {w : World} {p b g cap : Nat} {rs : List ByteArray} (h : Ix w p b (.slice (some ⟨g, 0, none⟩) rs.length cap) rs) {k : Nat} (hk : k < rs.length) {wr : World} (c : CutAt w p b (.slice (some ⟨g, 0, none⟩) rs.length cap) rs k (rs.length - k) wr) (ty : TypeId) (cp : Nat) :
    ∃ w', (Builtin.clear_ #[26] ty #[.slice (some ⟨g, k, none⟩) (rs.length - k) cp]).run Try.prog wr = .ok (.tuple #[]) w' ∧ w'.cell? ⟨p, 0, none⟩ = some (.slice (some ⟨g, 0, none⟩) rs.length cap) ∧ w'.frozen? ⟨p, 0, none⟩ = false ∧ p < w'.heap.size ∧
      Ix (w'.setCell ⟨p, 0, none⟩ (.slice (some ⟨g, 0, none⟩) k cap)) p b (.slice (some ⟨g, 0, none⟩) k cap) (rs.take k) ∧ IStep p b w (.slice (some ⟨g, 0, none⟩) rs.length cap) (w'.setCell ⟨p, 0, none⟩ (.slice (some ⟨g, 0, none⟩) k cap)) (.slice (some ⟨g, 0, none⟩) k cap) := by
  obtain ⟨k0, k1, kf, ko⟩ := c.cells h
  have hpg : p ≠ g := fun e => h.vp (by rw [e]; rfl)
  have hbg : b ≠ g := fun e => h.vb (by rw [e]; rfl)
  have hlt : k ≤ rs.length := by omega
  rcases ko.2 with ⟨e, _⟩ | ⟨g', cap', cur, e, hb, hg, hn, hc, hs, ht⟩
  · cases e
  cases e
  have hcs : ∀ j, j < rs.length - k → (wr.cell? ⟨g, k + j, none⟩).isSome = true := fun j hj => by
    have : k + j < cur.size := by rw [hs]; omega
    simp [World.cell?, hg, this]
  have hfz : ∀ j, j < rs.length - k → wr.frozen? ⟨g, k + j, none⟩ = false := fun j hj => by
    simp [World.frozen?, hg]
  have hrun := Lib.run_clear_slice (P := Try.prog) wr 26 9 ty (.string ⟨#[]⟩) Try.underlying26 zero9 rfl rfl g k (rs.length - k) cp (by omega) hcs hfz
  obtain ⟨cur', hg', hs', ht'⟩ := setCells_block g (List.replicate (rs.length - k) (Value.string ⟨#[]⟩)) k wr cur hg
  obtain ⟨r1, r2, r3⟩ := setCells_rest g (List.replicate (rs.length - k) (Value.string ⟨#[]⟩)) k wr
  have hoth := fun i hi => setCells_other g i hi (List.replicate (rs.length - k) (Value.string ⟨#[]⟩)) k wr
  have hsz := setCells_size g (List.replicate (rs.length - k) (Value.string ⟨#[]⟩)) k wr
  generalize wr.setCells g k (List.replicate (rs.length - k) (Value.string ⟨#[]⟩)) = w' at *
  have hpw : p < wr.heap.size := Nat.lt_of_lt_of_le h.lt c.fr.size
  have kc : w'.cell? ⟨p, 0, none⟩ = some (.slice (some ⟨g, 0, none⟩) rs.length cap) := (World.cell?_of_block (hoth p hpg)).trans k0
  have kc1 : w'.cell? ⟨p, 1, none⟩ = some (.map (some b)) := (World.cell?_of_block (hoth p hpg)).trans k1
  have kff : w'.frozen? ⟨p, 0, none⟩ = false := (World.frozen?_of_block (hoth p hpg)).trans kf
  have ho2 : ∀ i, i ≠ p → (w'.setCell ⟨p, 0, none⟩ (.slice (some ⟨g, 0, none⟩) k cap)).heap[i]? = w'.heap[i]? := fun i hi => Below.heap_setCell _ _ _ _ hi
  have hlk : (rs.take k).length = k := by simp; omega
  refine ⟨w', hrun, kc, kff, by omega, ⟨?_, ?_, ?_, ?_, ?_, h.pb, h.vp, h.vb, h.nd.sublist (List.take_sublist _ _), fun s hs => h.ok s (List.mem_of_mem_take hs)⟩, ?_, .inl rfl⟩
  · exact World.cell?_setCell_same _ _ _ kc
  · rw [World.cell?_setCell_other _ _ _ _ (by simp)]; exact kc1
  · rw [World.frozen?_setCell]; exact kff
  · refine ⟨by simp, .inr ⟨g, cap, cur', by rw [hlk], Nat.zero_le _, by rw [ho2 g (fun e => hpg e.symm)]; exact hg', by omega, hc, by rw [hs', hs], ?_⟩⟩
    rw [hlk, Nat.mul_one, ht' k (Nat.le_refl _), List.map_take, ← ht, Nat.mul_one, List.take_take]
    congr 1
    omega
  · rw [hlk]
    have hm := c.mp
    rw [show rs.length - (rs.length - k) = k from by omega] at hm
    refine (hm.keep ?_).congr (fun s => fgt_end h.nd hlt s)
    rw [ho2 b (fun e => h.pb e.symm), hoth b hbg]
  · refine ⟨?_, ?_, ?_, ?_, fun i hi hn => ?_⟩
    · show w'.os = w.os; rw [r1, c.fr.os]
    · show w'.tape = w.tape; rw [r2, c.fr.tape]
    · show w'.output = w.output; rw [r3, c.fr.output]
    · have := c.fr.size; simp [World.setCell]; omega
    · rw [ho2 i (fun e => hn (.inl e)), hoth i (fun e => hn (.inr (.inr (by rw [e]; rfl)))), c.fr.block i hi (fun e => hn (.inr (.inl e)))]
end Go.Proofs.Ythmcalapofjmfaa
