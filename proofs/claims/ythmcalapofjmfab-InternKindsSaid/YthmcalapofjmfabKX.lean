/-
  Four indexes, and boxes apart from them.
-/
import Derived.Test.YthmcalapofjmfabKW
import Derived.Test.YthmcalapofjmfabKAt
import Derived.Test.YthmcalapofjmfabKLives
import Derived.Test.YthmcalapofjmfabKPick
namespace Go.Proofs.Ythmcalapofjmfab
open Go.RowKit Go.Maps
set_option linter.unusedVariables false

/-- The blocks of which Q holds lie apart from the indexes, and are as they were at wq. -/
structure QK (P B : Nat → Nat) (V : Nat → Value) (wq : World) (Q : Nat → Prop) (w : World) : Prop where
  ap : ∀ i, i < 4 → ∀ x, Foot (P i) (B i) (V i) x → ¬ Q x
  lt : ∀ x, Q x → x < wq.heap.size
  sz : wq.heap.size ≤ w.heap.size
  eq : ∀ x, Q x → w.heap[x]? = wq.heap[x]?
section
variable {w0 w w' wq : World} {P B : Nat → Nat} {V : Nat → Value} {Q : Nat → Prop} {k0 k1 k2 k3 : List Nat}
theorem QK.below (h : QK P B V wq Q w) (f : Below w.heap.size w w') : QK P B V wq Q w' :=
  ⟨h.ap, h.lt, Nat.le_trans h.sz f.size, fun x hx => ((Fr.of_below (S := fun _ => False) f).block x (Nat.lt_of_lt_of_le (h.lt x hx) h.sz) (fun e => e)).trans (h.eq x hx)⟩
theorem QK.step (h : QK P B V wq Q w) {i : Nat} (hi : i < 4) {v' : Value} (s : IStep (P i) (B i) w (V i) w' v') : QK P B (updF V i v') wq Q w' := by
  refine ⟨fun a ha x h1 hq => ?_, h.lt, Nat.le_trans h.sz s.fr.size, fun x hx => (s.fr.block x (Nat.lt_of_lt_of_le (h.lt x hx) h.sz) (fun e => h.ap i hi x e hx)).trans (h.eq x hx)⟩
  by_cases ea : a = i
  · subst ea
    rw [updF_at] at h1
    rcases h1 with e | e | e
    · exact h.ap a ha x (.inl e) hq
    · exact h.ap a ha x (.inr (.inl e)) hq
    · rcases s.row with q | q
      · exact h.ap a ha x (.inr (.inr (q.symm.trans e))) hq
      · have := q x e; have := h.lt x hq; have := h.sz; omega
  · rw [updF_ne _ _ ea] at h1
    exact h.ap a ha x h1 hq

/-- The four indexes, with boxes. -/
def KX (w0 : World) (P : Nat → Nat) (wq : World) (Q : Nat → Prop) (k0 k1 k2 k3 : List Nat) (w : World) : Prop := ∃ B V, KW w0 P B V k0 k1 k2 k3 w ∧ QK P B V wq Q w
theorem KX.bel (h : KX w0 P wq Q k0 k1 k2 k3 w) : Below w0.heap.size w0 w := by obtain ⟨B, V, h1, _⟩ := h; exact h1.ft.bel
theorem KX.below (h : KX w0 P wq Q k0 k1 k2 k3 w) (f : Below w.heap.size w w') : KX w0 P wq Q k0 k1 k2 k3 w' := by
  obtain ⟨B, V, h1, h2⟩ := h
  exact ⟨B, V, h1.below f, h2.below f⟩
/-- New boxes. -/
theorem KX.snap (h : KX w0 P wq Q k0 k1 k2 k3 w) (f : Below w.heap.size w w') (Q' : Nat → Prop) (hq : ∀ x, Q' x → (Q x ∨ w.heap.size ≤ x) ∧ x < w'.heap.size) : KX w0 P w' Q' k0 k1 k2 k3 w' := by
  obtain ⟨B, V, h1, h2⟩ := h
  refine ⟨B, V, h1.below f, ⟨fun i hi x hx q => ?_, fun x q => (hq x q).2, Nat.le_refl _, fun _ _ => rfl⟩⟩
  rcases (hq x q).1 with r | r
  · exact h2.ap i hi x hx r
  · have := h1.ft.hi i hi x hx; omega
theorem KX.cell (h : KX w0 P wq Q k0 k1 k2 k3 w) {x o : Nat} (hx : Q x) : w.cell? ⟨x, o, none⟩ = wq.cell? ⟨x, o, none⟩ := by
  obtain ⟨B, V, h1, h2⟩ := h
  have := h2.eq x hx
  simp only [World.cell?, this]
theorem KX.adda (h : KX w0 P wq Q k0 k1 k2 k3 w) (k : Nat) (hk : k < 4) : Calls Try.prog 19 #[.pointer (some ⟨P 0, 0, none⟩), valS k] w fun e w' => e = .returned (.int .i64 ((num k0 k : Nat) : Int)) ∧ KX w0 P wq Q (ins k0 k) k1 k2 k3 w' := by
  obtain ⟨B, V, h1, h2⟩ := h
  exact (addS_any h1.a k (by omega)).mono (fun e w' ⟨q1, v', q2, q3⟩ => ⟨q1, B, _, h1.sa q2 q3, h2.step (by omega) q3⟩)
theorem KX.cuta (h : KX w0 P wq Q k0 k1 k2 k3 w) (k : Nat) : Calls Try.prog 11 #[.pointer (some ⟨P 0, 0, none⟩), .int .i64 (k : Int)] w fun e w' => e = .returned (.tuple #[]) ∧ KX w0 P wq Q (k0.take k) k1 k2 k3 w' := by
  obtain ⟨B, V, h1, h2⟩ := h
  exact (cutS_any h1.a k).mono (fun e w' ⟨q1, v', q2, q3⟩ => ⟨q1, B, _, h1.sa q2 q3, h2.step (by omega) q3⟩)
theorem KX.finda (h : KX w0 P wq Q k0 k1 k2 k3 w) (k : Nat) (hk : k < 4) : Calls Try.prog 15 #[.pointer (some ⟨P 0, 0, none⟩), valS k] w fun e w' => e = .returned (.tuple #[.int .i64 (((idx k0 k).getD 0 : Nat) : Int), .bool (idx k0 k).isSome]) ∧ KX w0 P wq Q k0 k1 k2 k3 w' := by
  obtain ⟨B, V, h1, h2⟩ := h
  exact (findS_any h1.a k (by omega)).mono (fun e w' ⟨q1, q2⟩ => ⟨q1, B, V, h1.below q2, h2.below q2⟩)
theorem KX.lena (h : KX w0 P wq Q k0 k1 k2 k3 w) : Calls Try.prog 24 #[.pointer (some ⟨P 0, 0, none⟩)] w fun e w' => e = .returned (.int .i64 (k0.length : Int)) ∧ w' = w := by
  obtain ⟨B, V, h1, h2⟩ := h
  exact lenS_any h1.a
theorem KX.addb (h : KX w0 P wq Q k0 k1 k2 k3 w) (k : Nat) (hk : k < 4) : Calls Try.prog 21 #[.pointer (some ⟨P 1, 0, none⟩), valP k] w fun e w' => e = .returned (.int .i64 ((num k1 k : Nat) : Int)) ∧ KX w0 P wq Q k0 (ins k1 k) k2 k3 w' := by
  obtain ⟨B, V, h1, h2⟩ := h
  exact (addP_any h1.b k (by omega)).mono (fun e w' ⟨q1, v', q2, q3⟩ => ⟨q1, B, _, h1.sb q2 q3, h2.step (by omega) q3⟩)
theorem KX.cutb (h : KX w0 P wq Q k0 k1 k2 k3 w) (k : Nat) : Calls Try.prog 12 #[.pointer (some ⟨P 1, 0, none⟩), .int .i64 (k : Int)] w fun e w' => e = .returned (.tuple #[]) ∧ KX w0 P wq Q k0 (k1.take k) k2 k3 w' := by
  obtain ⟨B, V, h1, h2⟩ := h
  exact (cutP_any h1.b k).mono (fun e w' ⟨q1, v', q2, q3⟩ => ⟨q1, B, _, h1.sb q2 q3, h2.step (by omega) q3⟩)
theorem KX.findb (h : KX w0 P wq Q k0 k1 k2 k3 w) (k : Nat) (hk : k < 4) : Calls Try.prog 16 #[.pointer (some ⟨P 1, 0, none⟩), valP k] w fun e w' => e = .returned (.tuple #[.int .i64 (((idx k1 k).getD 0 : Nat) : Int), .bool (idx k1 k).isSome]) ∧ KX w0 P wq Q k0 k1 k2 k3 w' := by
  obtain ⟨B, V, h1, h2⟩ := h
  exact (findP_any h1.b k (by omega)).mono (fun e w' ⟨q1, q2⟩ => ⟨q1, B, V, h1.below q2, h2.below q2⟩)
theorem KX.lenb (h : KX w0 P wq Q k0 k1 k2 k3 w) : Calls Try.prog 25 #[.pointer (some ⟨P 1, 0, none⟩)] w fun e w' => e = .returned (.int .i64 (k1.length : Int)) ∧ w' = w := by
  obtain ⟨B, V, h1, h2⟩ := h
  exact lenP_any h1.b
theorem KX.addc (h : KX w0 P wq Q k0 k1 k2 k3 w) (k : Nat) (hk : k < 4) : Calls Try.prog 22 #[.pointer (some ⟨P 2, 0, none⟩), valI k] w fun e w' => e = .returned (.int .i64 ((num k2 k : Nat) : Int)) ∧ KX w0 P wq Q k0 k1 (ins k2 k) k3 w' := by
  obtain ⟨B, V, h1, h2⟩ := h
  exact (addI_any h1.c k (by omega)).mono (fun e w' ⟨q1, v', q2, q3⟩ => ⟨q1, B, _, h1.sc q2 q3, h2.step (by omega) q3⟩)
theorem KX.cutc (h : KX w0 P wq Q k0 k1 k2 k3 w) (k : Nat) : Calls Try.prog 13 #[.pointer (some ⟨P 2, 0, none⟩), .int .i64 (k : Int)] w fun e w' => e = .returned (.tuple #[]) ∧ KX w0 P wq Q k0 k1 (k2.take k) k3 w' := by
  obtain ⟨B, V, h1, h2⟩ := h
  exact (cutI_any h1.c k).mono (fun e w' ⟨q1, v', q2, q3⟩ => ⟨q1, B, _, h1.sc q2 q3, h2.step (by omega) q3⟩)
theorem KX.findc (h : KX w0 P wq Q k0 k1 k2 k3 w) (k : Nat) (hk : k < 4) : Calls Try.prog 17 #[.pointer (some ⟨P 2, 0, none⟩), valI k] w fun e w' => e = .returned (.tuple #[.int .i64 (((idx k2 k).getD 0 : Nat) : Int), .bool (idx k2 k).isSome]) ∧ KX w0 P wq Q k0 k1 k2 k3 w' := by
  obtain ⟨B, V, h1, h2⟩ := h
  exact (findI_any h1.c k (by omega)).mono (fun e w' ⟨q1, q2⟩ => ⟨q1, B, V, h1.below q2, h2.below q2⟩)
theorem KX.lenc (h : KX w0 P wq Q k0 k1 k2 k3 w) : Calls Try.prog 26 #[.pointer (some ⟨P 2, 0, none⟩)] w fun e w' => e = .returned (.int .i64 (k2.length : Int)) ∧ w' = w := by
  obtain ⟨B, V, h1, h2⟩ := h
  exact lenI_any h1.c
theorem KX.addd (h : KX w0 P wq Q k0 k1 k2 k3 w) (k : Nat) (hk : k < 4) : Calls Try.prog 23 #[.pointer (some ⟨P 3, 0, none⟩), valB k] w fun e w' => e = .returned (.int .i64 ((num k3 k : Nat) : Int)) ∧ KX w0 P wq Q k0 k1 k2 (ins k3 k) w' := by
  obtain ⟨B, V, h1, h2⟩ := h
  exact (addB_any h1.d k (by omega)).mono (fun e w' ⟨q1, v', q2, q3⟩ => ⟨q1, B, _, h1.sd q2 q3, h2.step (by omega) q3⟩)
theorem KX.cutd (h : KX w0 P wq Q k0 k1 k2 k3 w) (k : Nat) : Calls Try.prog 14 #[.pointer (some ⟨P 3, 0, none⟩), .int .i64 (k : Int)] w fun e w' => e = .returned (.tuple #[]) ∧ KX w0 P wq Q k0 k1 k2 (k3.take k) w' := by
  obtain ⟨B, V, h1, h2⟩ := h
  exact (cutB_any h1.d k).mono (fun e w' ⟨q1, v', q2, q3⟩ => ⟨q1, B, _, h1.sd q2 q3, h2.step (by omega) q3⟩)
theorem KX.findd (h : KX w0 P wq Q k0 k1 k2 k3 w) (k : Nat) (hk : k < 4) : Calls Try.prog 18 #[.pointer (some ⟨P 3, 0, none⟩), valB k] w fun e w' => e = .returned (.tuple #[.int .i64 (((idx k3 k).getD 0 : Nat) : Int), .bool (idx k3 k).isSome]) ∧ KX w0 P wq Q k0 k1 k2 k3 w' := by
  obtain ⟨B, V, h1, h2⟩ := h
  exact (findB_any h1.d k (by omega)).mono (fun e w' ⟨q1, q2⟩ => ⟨q1, B, V, h1.below q2, h2.below q2⟩)
theorem KX.lend (h : KX w0 P wq Q k0 k1 k2 k3 w) : Calls Try.prog 27 #[.pointer (some ⟨P 3, 0, none⟩)] w fun e w' => e = .returned (.int .i64 (k3.length : Int)) ∧ w' = w := by
  obtain ⟨B, V, h1, h2⟩ := h
  exact lenB_any h1.d
theorem KX.atIn (h : KX w0 P wq Q k0 k1 k2 k3 w) (i : Nat) (hi : i < k1.length) : Calls Try.prog 20 #[.pointer (some ⟨P 1, 0, none⟩), .int .i64 (i : Int)] w fun e w' => e = .returned (.tuple #[valP (tx k1 i), .bool true]) ∧ KX w0 P wq Q k0 k1 k2 k3 w' := by
  obtain ⟨B, V, h1, h2⟩ := h
  exact (at_in h1.b i hi).mono (fun e w' ⟨q1, q2⟩ => ⟨q1, B, V, h1.below q2, h2.below q2⟩)
theorem KX.atOut (h : KX w0 P wq Q k0 k1 k2 k3 w) (i : Nat) (hi : k1.length ≤ i) (hm : i < 1000) : Calls Try.prog 20 #[.pointer (some ⟨P 1, 0, none⟩), .int .i64 (i : Int)] w fun e w' => e = .returned (.tuple #[.agg #[.int .i64 0, .int .i64 0], .bool false]) ∧ KX w0 P wq Q k0 k1 k2 k3 w' := by
  obtain ⟨B, V, h1, h2⟩ := h
  exact (at_out h1.b i hi hm).mono (fun e w' ⟨q1, q2⟩ => ⟨q1, B, V, h1.below q2, h2.below q2⟩)
theorem KX.small (h : KX w0 P wq Q k0 k1 k2 k3 w) : k1.length ≤ 4 := by
  obtain ⟨B, V, h1, h2⟩ := h
  exact h1.b.small
end
/-- The four, made one behind the other. -/
def four {α : Type} (a b c d : α) : Nat → α
  | 0 => a
  | 1 => b
  | 2 => c
  | _ => d
theorem KX.made {w w1 w2 w3 w4 : World} (h1 : IxS w1 (w.heap.size + 1) w.heap.size (.slice none 0 0) []) (b1 : Below w.heap.size w w1)
    (h2 : IxP w2 (w1.heap.size + 1) w1.heap.size (.slice none 0 0) []) (b2 : Below w1.heap.size w1 w2)
    (h3 : IxI w3 (w2.heap.size + 1) w2.heap.size (.slice none 0 0) []) (b3 : Below w2.heap.size w2 w3)
    (h4 : IxB w4 (w3.heap.size + 1) w3.heap.size (.slice none 0 0) []) (b4 : Below w3.heap.size w3 w4) :
    KX w (four (w.heap.size + 1) (w1.heap.size + 1) (w2.heap.size + 1) (w3.heap.size + 1)) w4 (fun _ => False) [] [] [] [] w4 := by
  have l1 := h1.lt
  have l2 := h2.lt
  have l3 := h3.lt
  have l4 := h4.lt
  have s2 := b2.size
  have s3 := b3.size
  have s4 := b4.size
  have s1 := b1.size
  have nf : ∀ i x, Foot (four (w.heap.size + 1) (w1.heap.size + 1) (w2.heap.size + 1) (w3.heap.size + 1) i) (four w.heap.size w1.heap.size w2.heap.size w3.heap.size i) (.slice none 0 0) x → x = four (w.heap.size + 1) (w1.heap.size + 1) (w2.heap.size + 1) (w3.heap.size + 1) i ∨ x = four w.heap.size w1.heap.size w2.heap.size w3.heap.size i := fun i x h => by
    rcases h with q | q | q
    · exact .inl q
    · exact .inr q
    · simp [Value.ownBlock] at q
  have g : ∀ i, i < 4 → i = 0 ∨ i = 1 ∨ i = 2 ∨ i = 3 := fun i h => by omega
  refine ⟨four w.heap.size w1.heap.size w2.heap.size w3.heap.size, fun _ => .slice none 0 0, ⟨⟨fun i j hi hj hne x q r => ?_, fun i hi x q => ?_, fun i hi x q => ?_, ((b1.trans (b2.mono s1)).trans (b3.mono (by omega))).trans (b4.mono (by omega))⟩, ?_, ?_, ?_, h4⟩, ⟨fun _ _ _ _ q => q, fun _ q => q.elim, Nat.le_refl _, fun _ q => q.elim⟩⟩
  · have q := nf i x q
    have r := nf j x r
    rcases g i hi with rfl | rfl | rfl | rfl <;> rcases g j hj with rfl | rfl | rfl | rfl <;> simp only [four] at q r <;> omega
  · have q := nf i x q
    rcases g i hi with rfl | rfl | rfl | rfl <;> simp only [four] at q <;> omega
  · have q := nf i x q
    rcases g i hi with rfl | rfl | rfl | rfl <;> simp only [four] at q <;> omega
  · exact ((h1.below (b2)).below b3).below b4
  · exact (h2.below b3).below b4
  · exact h3.below b4
end Go.Proofs.Ythmcalapofjmfab
