/-
  Every script of calls of two indexes: the state ahead, and the parts of a round.
-/
import Derived.Test.YthmcalapofjmfaaLoose
import Derived.Deep.WholeRow
namespace Go.Proofs.Ythmcalapofjmfaa
open Go.RowKit Go.Maps
set_option linter.unusedVariables false
set_option linter.unusedSimpArgs false

def OpD.zero : OpD := ⟨0, 0, 0, ⟨#[]⟩, .slice none 0 0⟩
/-- A slice of calls reads so; their lists read so. -/
def RdO (w : World) (v : Value) (ps : List OpD) (ls : Nat → List ByteArray) : Prop :=
  ∃ a cap, v = .slice a ps.length cap ∧ ∀ i, i < ps.length → (∃ b off, a = some ⟨b, off, none⟩ ∧ b < w.heap.size ∧ w.cell? ⟨b, off + i * 5, none⟩ = some (.int .i64 (ps.getD i OpD.zero).on) ∧
    w.cell? ⟨b, off + i * 5 + 1, none⟩ = some (.int .i64 (ps.getD i OpD.zero).kind) ∧ w.cell? ⟨b, off + i * 5 + 2, none⟩ = some (.int .i64 (ps.getD i OpD.zero).n) ∧ w.cell? ⟨b, off + i * 5 + 3, none⟩ = some (.string (ps.getD i OpD.zero).s) ∧ w.cell? ⟨b, off + i * 5 + 4, none⟩ = some (ps.getD i OpD.zero).lv) ∧
    Rt w (ps.getD i OpD.zero).lv (ls i) ∧ (ps.getD i OpD.zero).s.size ≤ maxLen ∧ (∀ j, j < (ls i).length → (tx (ls i) j).size ≤ maxLen) ∧ (ls i).length ≤ 8796093021952

/-- Ahead of the first call. -/
def dat0 (bx br p0 p1 b0 b1 : Nat) : Dat := ⟨bx, br, fun k => if k = 0 then p0 else p1, fun k => if k = 0 then b0 else b1, fun _ => .slice none 0 0, fun _ => .slice none 0 0, .slice none 0 0, .slice none 0 0, 0, 0, fun _ => .slice none 0 0, fun _ => .slice none 0 0, fun _ => [], fun _ => [], fun _ => [], none, OpD.zero⟩
theorem sc_start {w w1 w2 : World} (hb1 : Below w.heap.size w w1) (hb2 : Below w1.heap.size w1 w2) (h1 : Ix w1 (w.heap.size + 1) w.heap.size (.slice none 0 0) []) (h2 : Ix w2 (w1.heap.size + 1) w1.heap.size (.slice none 0 0) []) :
    SC w (dat0 w2.heap.size (w2.heap.size + 1) (w.heap.size + 1) (w1.heap.size + 1) w.heap.size w1.heap.size) ((w2.alloc (.cells #[.pointer (some ⟨w.heap.size + 1, 0, none⟩), .pointer (some ⟨w1.heap.size + 1, 0, none⟩)] 25)).alloc (.cells #[.slice none 0 0, .slice none 0 0] 27)) := by
  have l1 := h1.lt
  have l2 := h2.lt
  have s1 := hb1.size
  have s2 := hb2.size
  have hz : (w2.alloc (.cells #[.pointer (some ⟨w.heap.size + 1, 0, none⟩), .pointer (some ⟨w1.heap.size + 1, 0, none⟩)] 25)).heap.size = w2.heap.size + 1 := by simp
  have hz2 : ((w2.alloc (.cells #[.pointer (some ⟨w.heap.size + 1, 0, none⟩), .pointer (some ⟨w1.heap.size + 1, 0, none⟩)] 25)).alloc (.cells #[.slice none 0 0, .slice none 0 0] 27)).heap.size = w2.heap.size + 1 + 1 := by simp
  have hB : Below w2.heap.size w2 ((w2.alloc (.cells #[.pointer (some ⟨w.heap.size + 1, 0, none⟩), .pointer (some ⟨w1.heap.size + 1, 0, none⟩)] 25)).alloc (.cells #[.slice none 0 0, .slice none 0 0] 27)) := ((Below.refl _ _).alloc (Nat.le_refl _) _).alloc (by rw [hz]; omega) _
  have hg1 : ((w2.alloc (.cells #[.pointer (some ⟨w.heap.size + 1, 0, none⟩), .pointer (some ⟨w1.heap.size + 1, 0, none⟩)] 25)).alloc (.cells #[.slice none 0 0, .slice none 0 0] 27)).heap[w2.heap.size]? = some (.cells #[.pointer (some ⟨w.heap.size + 1, 0, none⟩), .pointer (some ⟨w1.heap.size + 1, 0, none⟩)] 25) := by
    rw [Below.heap_alloc _ _ _ (by rw [hz]; omega)]
    exact heap_alloc_new w2 _
  have hg2 := heap_alloc_new (w2.alloc (.cells #[.pointer (some ⟨w.heap.size + 1, 0, none⟩), .pointer (some ⟨w1.heap.size + 1, 0, none⟩)] 25)) (.cells #[.slice none 0 0, .slice none 0 0] 27)
  rw [hz] at hg2
  have hc2 : ∀ k, k < 2 → k = 0 ∨ k = 1 := fun k hk => by omega
  have hfam : ∀ c k x, fam (dat0 w2.heap.size (w2.heap.size + 1) (w.heap.size + 1) (w1.heap.size + 1) w.heap.size w1.heap.size) c k = some x → (c = 0 ∧ k = 0 ∧ x = w2.heap.size) ∨ (c = 1 ∧ k = 0 ∧ x = w2.heap.size + 1) ∨ (c = 2 ∧ k = 0 ∧ x = w.heap.size + 1) ∨ (c = 2 ∧ k = 1 ∧ x = w1.heap.size + 1) ∨ (c = 3 ∧ k = 0 ∧ x = w.heap.size) ∨ (c = 3 ∧ k = 1 ∧ x = w1.heap.size) := fun c k x e => by
    unfold fam dat0 at e
    split at e <;> simp [Value.ownBlock] at e
    · omega
    · omega
    · obtain ⟨h1, h2⟩ := e
      rcases hc2 k h1 with rfl | rfl
      · simp at h2; omega
      · simp at h2; omega
    · obtain ⟨h1, h2⟩ := e
      rcases hc2 k h1 with rfl | rfl
      · simp at h2; omega
      · simp at h2; omega
  have hbb : Below w.heap.size w w2 := hb1.trans (hb2.mono s1)
  refine ⟨fun k hk => ?_, fun k hk => ⟨none, 0, rfl, Nat.le_refl _, Nat.zero_le _, fun i hi => by simp [dat0] at hi⟩, fun k hk => ?_, fun k hk => ?_, fun k hk => ?_, fun k hk => ?_, World.ownsRow_nil _ _ _ _, World.ownsRow_nil _ _ _ _, fun j hj => by simp [dat0] at hj, fun j hj => by simp [dat0] at hj, fun j => by simp [dat0], fun x hx => by simp [dat0] at hx, fun c k c' k' b hne e1 e2 => ?_, fun c k b e => ?_, fun c k b e => ?_, hbb.trans (hB.mono hbb.size)⟩
  · rcases hc2 k hk with rfl | rfl
    · exact (h1.below hb2).below hB
    · exact h2.below hB
  · rcases hc2 k hk with rfl | rfl
    · show World.cell? _ ⟨w2.heap.size, 0, none⟩ = _
      simp only [World.cell?, hg1]; rfl
    · show World.cell? _ ⟨w2.heap.size, 1, none⟩ = _
      simp only [World.cell?, hg1]; rfl
  · show World.frozen? _ ⟨w2.heap.size, k, none⟩ = _
    simp only [World.frozen?, hg1]; simp
  · rcases hc2 k hk with rfl | rfl
    · show World.cell? _ ⟨w2.heap.size + 1, 0, none⟩ = _
      simp only [World.cell?, hg2]; rfl
    · show World.cell? _ ⟨w2.heap.size + 1, 1, none⟩ = _
      simp only [World.cell?, hg2]; rfl
  · show World.frozen? _ ⟨w2.heap.size + 1, k, none⟩ = _
    simp only [World.frozen?, hg2]; simp
  · have q1 := hfam c k b e1
    have q2 := hfam c' k' b e2
    omega
  · have q1 := hfam c k b e; omega
  · have q1 := hfam c k b e
    rw [hz2]; omega

theorem own_base {w : World} {g n c base : Nat} {e : TypeId} {xs : List Value} (h : w.ownsRow 0 e 1 (.slice (some ⟨g, 0, none⟩) n c) n xs) (hb : base ≤ g) : w.ownsRow base e 1 (.slice (some ⟨g, 0, none⟩) n c) n xs := by
  refine ⟨h.1, ?_⟩
  rcases h.2 with ⟨q, _⟩ | ⟨g', cap, cur, q1, q2, q3⟩
  · cases q
  · cases q1
    exact .inr ⟨g, c, cur, rfl, hb, q3⟩
end Go.Proofs.Ythmcalapofjmfaa
