/-
  A row cut: its map and its cells (kind B).
-/
import Derived.Test.YthmcalapofjmfabAB
import Derived.Lib.SliceRun
namespace Go.Proofs.Ythmcalapofjmfab
open Go.RowKit Go.Maps
set_option linter.unusedVariables false
set_option linter.unusedSimpArgs false

theorem zeroKB (w : World) : (zeroValue 34).run Try.prog w = .ok (.agg #[.bool false, .bool false]) w := by kernel_rfl
theorem flatB_length (ks : List Nat) : (ks.flatMap clB).length = ks.length * 2 := by
  induction ks with
  | nil => rfl
  | cons k r ih => rw [List.flatMap_cons, List.length_append, clB_length, ih, List.length_cons]; omega
theorem flatB_at (c : Nat) (hc : c < 2) : ∀ (ks : List Nat) (i : Nat), i < ks.length → (ks.flatMap clB)[i * 2 + c]? = (clB (tx ks i))[c]?
  | [], i, h => by simp at h
  | k :: r, 0, _ => by
    rw [List.flatMap_cons, Nat.zero_mul, Nat.zero_add, List.getElem?_append_left (by rw [clB_length]; exact hc)]
    simp [tx]
  | k :: r, i + 1, h => by
    have e : (i + 1) * 2 + c = (clB k).length + (i * 2 + c) := by rw [clB_length]; omega
    have e2 : tx (k :: r) (i + 1) = tx r i := by simp [tx]
    rw [List.flatMap_cons, e, List.getElem?_append_right (by omega), Nat.add_sub_cancel_left, e2]
    exact flatB_at c hc r i (by simpa using h)
theorem flatB_take (ks : List Nat) (n : Nat) : (ks.take n).flatMap clB = (ks.flatMap clB).take (n * 2) := by
  induction ks generalizing n with
  | nil => simp
  | cons k r ih =>
    cases n with
    | zero => simp
    | succ n =>
      rw [List.take_succ_cons, List.flatMap_cons, List.flatMap_cons, ih, List.take_append, clB_length]
      have e : (n + 1) * 2 - 2 = n * 2 := by omega
      have e3 : (clB k).take ((n + 1) * 2) = clB k := List.take_of_length_le (by rw [clB_length]; omega)
      rw [e, e3]
theorem IxB.cell {w : World} {p b : Nat} {v : Value} {ks : List Nat} (h : w.ownsRow 0 34 2 v ks.length (ks.flatMap clB)) {i : Nat} (hi : i < ks.length) (c : Nat) (hc : c < 2) : ∃ g cap, v = .slice (some ⟨g, 0, none⟩) ks.length cap ∧ w.cell? ⟨g, i * 2 + c, none⟩ = (clB (tx ks i))[c]? := by
  have hcs := fun g hg => World.ownsRow.cells h (g := g) hg
  rcases h.2 with ⟨e, h0⟩ | ⟨g, cap, cur, e, _⟩
  · omega
  · refine ⟨g, cap, e, ?_⟩
    have h1 := flatB_at c hc ks i hi
    have hl : c < (clB (tx ks i)).length := by rw [clB_length]; exact hc
    rw [List.getElem?_eq_getElem hl] at h1 ⊢
    have := hcs g (by rw [e]; rfl) _ _ h1
    rw [Go.WideShapes.add_plain, Nat.zero_add] at this
    exact this
theorem clearB (w : World) (b o n c : Nat) (hn : 0 < n) (hc : ∀ j, j < n * 2 → (w.cell? ⟨b, o + j, none⟩).isSome = true) (hf : ∀ j, j < n * 2 → w.frozen? ⟨b, o + j, none⟩ = false) (ty : TypeId) :
    ∃ vs : List Value, (Builtin.clear_ #[65] ty #[.slice (some ⟨b, o, none⟩) n c]).run Try.prog w = .ok (.tuple #[]) (w.setCells b o vs) := by
  have hl : (Builtin.zeroCells (.agg #[.bool false, .bool false] : Value).cells n).toList.length = n * 2 := by
    simp only [Builtin.zeroCells, Array.length_toList, Array.size_map, Array.size_range]
    rfl
  have h1 : ∀ v ∈ (Builtin.zeroCells (.agg #[.bool false, .bool false] : Value).cells n).toList, v.oneCell' = true := by
    intro v hv
    simp only [Builtin.zeroCells, Array.toList_map, List.mem_map] at hv
    obtain ⟨i, _, rfl⟩ := hv
    have hi : i % (.agg #[.bool false, .bool false] : Value).cells.size < 2 := Nat.mod_lt _ (by decide)
    generalize i % (.agg #[.bool false, .bool false] : Value).cells.size = m at hi
    match m, hi with
    | 0, _ => rfl
    | 1, _ => rfl
  have hst := run_storeCells_cells (P := Try.prog) b o (Builtin.zeroCells (.agg #[.bool false, .bool false] : Value).cells n).toList 0 w (by rw [hl]; simpa using hc) (by rw [hl]; simpa using hf) h1
  simp only [Nat.add_zero] at hst
  obtain ⟨m, rfl⟩ : ∃ m, n = m + 1 := ⟨n - 1, by omega⟩
  refine ⟨(Builtin.zeroCells (.agg #[.bool false, .bool false] : Value).cells (m + 1)).toList, ?_⟩
  simp [Builtin.clear_, run_underlying Try.underlying65, zeroKB, hst]

structure CutAtB (w : World) (p b : Nat) (v : Value) (ks : List Nat) (k j : Nat) (wr : World) : Prop where
  fr : Fr (fun i => i = b) w wr
  mp : MfB wr b (ks.length - j) (fgt ks k j)
theorem CutAtB.start {w : World} {p b : Nat} {v : Value} {ks : List Nat} (h : IxB w p b v ks) (k : Nat) : CutAtB w p b v ks k 0 w :=
  ⟨Fr.refl _ _, by rw [Nat.sub_zero]; exact h.mp.congr (fun s => (fgt_zero ks k s).symm)⟩
theorem CutAtB.below {w wr w' : World} {p b : Nat} {v : Value} {ks : List Nat} {k j : Nat} (hb : b < w.heap.size) (h : CutAtB w p b v ks k j wr) (f : Below wr.heap.size wr w') : CutAtB w p b v ks k j w' :=
  ⟨h.fr.trans (Fr.of_below f), h.mp.keep (f.block b (Nat.lt_of_lt_of_le hb h.fr.size))⟩
theorem CutAtB.step {w : World} {p b : Nat} {v : Value} {ks : List Nat} (h : IxB w p b v ks) {k j : Nat} {wr : World} (c : CutAtB w p b v ks k j wr) (hj : k + j < ks.length) (ty : TypeId) :
    ∃ w', (Builtin.delete_ #[64, 34] ty #[.map (some b), valB (tx ks (k + j))]).run Try.prog wr = .ok (.tuple #[]) w' ∧ CutAtB w p b v ks k (j + 1) w' ∧ Fr (fun i => i = b) wr w' := by
  have hm := c.mp
  rw [show ks.length - j = (ks.length - (j + 1)) + 1 from by omega] at hm
  obtain ⟨w', h1, h2, h3⟩ := hm.del (tx ks (k + j)) (h.ok _ (tx_mem (by omega))) (fgt_here h.nd hj) ty
  exact ⟨w', h1, ⟨c.fr.grown h3 (fun i e => .inr (by simpa using e.symm)), h2.congr (fun s => fgt_step h.nd (by omega) s)⟩, (Fr.refl _ wr).grown h3 (fun i e => .inr (by simpa using e.symm))⟩
theorem CutAtB.cells {w : World} {p b : Nat} {v : Value} {ks : List Nat} (h : IxB w p b v ks) {k j : Nat} {wr : World} (c : CutAtB w p b v ks k j wr) :
    wr.cell? ⟨p, 0, none⟩ = some v ∧ wr.cell? ⟨p, 1, none⟩ = some (.map (some b)) ∧ wr.frozen? ⟨p, 0, none⟩ = false ∧ wr.ownsRow 0 34 2 v ks.length (ks.flatMap clB) :=
  ⟨(c.fr.cell (a := ⟨p, 0, none⟩) h.lt h.pb).trans h.c0, (c.fr.cell (a := ⟨p, 1, none⟩) h.lt h.pb).trans h.c1, (c.fr.frozen (a := ⟨p, 0, none⟩) h.lt h.pb).trans h.f0,
    own_keep h.own (fun g hg => c.fr.block g (h.vlt g hg) (fun e => h.vb (e ▸ hg)))⟩
theorem CutAtB.done {w : World} {p b g cap : Nat} {ks : List Nat} (h : IxB w p b (.slice (some ⟨g, 0, none⟩) ks.length cap) ks) {k : Nat} (hk : k < ks.length) {wr : World} (c : CutAtB w p b (.slice (some ⟨g, 0, none⟩) ks.length cap) ks k (ks.length - k) wr) (ty : TypeId) (cp : Nat) :
    ∃ w', (Builtin.clear_ #[65] ty #[.slice (some ⟨g, k * 2, none⟩) (ks.length - k) cp]).run Try.prog wr = .ok (.tuple #[]) w' ∧ w'.cell? ⟨p, 0, none⟩ = some (.slice (some ⟨g, 0, none⟩) ks.length cap) ∧ w'.frozen? ⟨p, 0, none⟩ = false ∧ p < w'.heap.size ∧
      IxB (w'.setCell ⟨p, 0, none⟩ (.slice (some ⟨g, 0, none⟩) k cap)) p b (.slice (some ⟨g, 0, none⟩) k cap) (ks.take k) ∧ IStep p b w (.slice (some ⟨g, 0, none⟩) ks.length cap) (w'.setCell ⟨p, 0, none⟩ (.slice (some ⟨g, 0, none⟩) k cap)) (.slice (some ⟨g, 0, none⟩) k cap) := by
  obtain ⟨k0, k1, kf, ko⟩ := c.cells h
  have hpg : p ≠ g := fun e => h.vp (by rw [e]; rfl)
  have hbg : b ≠ g := fun e => h.vb (by rw [e]; rfl)
  have hlt : k ≤ ks.length := by omega
  rcases ko.2 with ⟨e, _⟩ | ⟨g', cap', cur, e, hb, hg, hn, hc, hs, ht⟩
  · cases e
  cases e
  have hcs : ∀ j, j < (ks.length - k) * 2 → (wr.cell? ⟨g, k * 2 + j, none⟩).isSome = true := fun j hj => by
    have : k * 2 + j < cur.size := by rw [hs]; omega
    simp [World.cell?, hg]
    omega
  have hfz : ∀ j, j < (ks.length - k) * 2 → wr.frozen? ⟨g, k * 2 + j, none⟩ = false := fun j hj => by
    simp [World.frozen?, hg]
  obtain ⟨vs, hrun⟩ := clearB wr g (k * 2) (ks.length - k) cp (by omega) hcs hfz ty
  obtain ⟨cur', hg', hs', ht'⟩ := setCells_block g vs (k * 2) wr cur hg
  obtain ⟨r1, r2, r3⟩ := setCells_rest g vs (k * 2) wr
  have hoth := fun i hi => setCells_other g i hi vs (k * 2) wr
  have hsz := setCells_size g vs (k * 2) wr
  generalize wr.setCells g (k * 2) vs = w' at *
  have hpw : p < wr.heap.size := Nat.lt_of_lt_of_le h.lt c.fr.size
  have kc : w'.cell? ⟨p, 0, none⟩ = some (.slice (some ⟨g, 0, none⟩) ks.length cap) := (World.cell?_of_block (hoth p hpg)).trans k0
  have kc1 : w'.cell? ⟨p, 1, none⟩ = some (.map (some b)) := (World.cell?_of_block (hoth p hpg)).trans k1
  have kff : w'.frozen? ⟨p, 0, none⟩ = false := (World.frozen?_of_block (hoth p hpg)).trans kf
  have ho2 : ∀ i, i ≠ p → (w'.setCell ⟨p, 0, none⟩ (.slice (some ⟨g, 0, none⟩) k cap)).heap[i]? = w'.heap[i]? := fun i hi => Below.heap_setCell _ _ _ _ hi
  have hlk : (ks.take k).length = k := by simp; omega
  refine ⟨w', hrun, kc, kff, by omega, ⟨?_, ?_, ?_, ?_, ?_, h.pb, h.vp, h.vb, h.nd.sublist (List.take_sublist _ _), fun s hs => h.ok s (List.mem_of_mem_take hs)⟩, ?_, .inl rfl⟩
  · exact World.cell?_setCell_same _ _ _ kc
  · rw [World.cell?_setCell_other _ _ _ _ (by simp)]; exact kc1
  · rw [World.frozen?_setCell]; exact kff
  · refine ⟨by rw [flatB_length], .inr ⟨g, cap, cur', by rw [hlk], Nat.zero_le _, by rw [ho2 g (fun e => hpg e.symm)]; exact hg', by omega, hc, by rw [hs', hs], ?_⟩⟩
    rw [hlk, ht' (k * 2) (Nat.le_refl _), flatB_take, ← ht, List.take_take]
    congr 1
    omega
  · rw [hlk]
    have hm := c.mp
    rw [show ks.length - (ks.length - k) = k from by omega] at hm
    refine (hm.keep ?_).congr (fun s => fgt_end h.nd hlt s)
    rw [ho2 b (fun e => h.pb e.symm), hoth b hbg]
  · refine ⟨?_, ?_, ?_, ?_, fun i hi hn => ?_⟩
    · show w'.os = w.os; rw [r1, c.fr.os]
    · show w'.tape = w.tape; rw [r2, c.fr.tape]
    · show w'.output = w.output; rw [r3, c.fr.output]
    · have := c.fr.size; simp [World.setCell]; omega
    · rw [ho2 i (fun e => hn (.inl e)), hoth i (fun e => hn (.inr (.inr (by rw [e]; rfl)))), c.fr.block i hi (fun e => hn (.inr (.inl e)))]
theorem IxB.same {w : World} {p b : Nat} {v : Value} {ks : List Nat} (h : IxB w p b v ks) : IxB (w.setCell ⟨p, 0, none⟩ v) p b v ks ∧ IStep p b w v (w.setCell ⟨p, 0, none⟩ v) v := by
  have ho : ∀ i, i ≠ p → (w.setCell ⟨p, 0, none⟩ v).heap[i]? = w.heap[i]? := fun i hi => Below.heap_setCell _ _ _ _ hi
  refine ⟨⟨World.cell?_setCell_same _ _ _ h.c0, ?_, ?_, own_keep h.own (fun g hg => ho g (fun e => h.vp (e ▸ hg))), h.mp.keep (ho b (fun e => h.pb e.symm)), h.pb, h.vp, h.vb, h.nd, h.ok⟩, (Fr.refl _ w).setCell _ (.inr (.inl rfl)) _, .inl rfl⟩
  · rw [World.cell?_setCell_other _ _ _ _ (by simp)]; exact h.c1
  · rw [World.frozen?_setCell]; exact h.f0
theorem clear_noneB (a : Option Addr) (c : Nat) (W : World) : (Builtin.clear_ #[65] 0 #[.slice a 0 c]).run Try.prog W = .ok (.tuple #[]) W := by
  cases a <;> simp [Builtin.clear_, run_underlying Try.underlying65]
end Go.Proofs.Ythmcalapofjmfab
