/-
  An index that the law made: above all that came in.
-/
import Derived.Test.YthmcalapofjmfaaItems
namespace Go.Proofs.Ythmcalapofjmfaa
open Go.RowKit Go.Maps
set_option linter.unusedVariables false

/-- Behind w0 an index of the texts rs was made; nothing of w0 has turned. -/
def OX (w0 : World) (p : Nat) (rs : List ByteArray) (w : World) : Prop :=
  ∃ b v, Ix w p b v rs ∧ Below w0.heap.size w0 w ∧ w0.heap.size ≤ p ∧ w0.heap.size ≤ b ∧ ∀ k, v.ownBlock = some k → w0.heap.size ≤ k

section
variable {w0 w w' : World} {p : Nat} {rs : List ByteArray}
theorem OX.bel (h : OX w0 p rs w) : Below w0.heap.size w0 w := by obtain ⟨b, v, _, h, _⟩ := h; exact h
theorem OX.lt (h : OX w0 p rs w) : p < w.heap.size := by obtain ⟨b, v, h, _⟩ := h; exact h.lt
theorem OX.nd (h : OX w0 p rs w) : rs.Nodup := by obtain ⟨b, v, h, _⟩ := h; exact h.nd
theorem OX.drewN (h : OX w0 p rs w) (n : Nat) : OX w0 p rs (w.drewN n) := by
  obtain ⟨b, v, h1, h2, h3, h4, h5⟩ := h
  exact ⟨b, v, h1.keep (Fr.drewN (S := fun _ => False) n) (fun _ _ e => e), ⟨h2.os, h2.tape, h2.output, h2.size, h2.block⟩, h3, h4, h5⟩
theorem OX.below (h : OX w0 p rs w) (hB : Below w.heap.size w w') : OX w0 p rs w' := by
  obtain ⟨b, v, h1, h2, h3, h4, h5⟩ := h
  exact ⟨b, v, h1.below hB, h2.trans (hB.mono h2.size), h3, h4, h5⟩
theorem OX.alloc (h : OX w0 p rs w) (o : Obj) : OX w0 p rs (w.alloc o) := h.below ((Below.refl _ _).alloc (Nat.le_refl _) _)

theorem OX.new (w0 w : World) (h : Below w0.heap.size w0 w) : Calls Try.prog 9 #[] w fun e w' => ∃ p, e = .returned (.pointer (some ⟨p, 0, none⟩)) ∧ w.heap.size ≤ p ∧ OX w0 p [] w' :=
  (new_any w).mono fun e w' ⟨he, hi, hb⟩ => ⟨_, he, by omega, _, _, hi, h.trans (hb.mono h.size), by have := h.size; omega, h.size, fun k hk => by simp [Value.ownBlock] at hk⟩
theorem OX.add (h : OX w0 p rs w) (s : ByteArray) (hs : s.size ≤ maxLen) (hl : rs.length < 11999999999999) : Calls Try.prog 20 #[.pointer (some ⟨p, 0, none⟩), .string s] w fun e w' =>
    e = .returned (.int .i64 ((num rs s : Nat) : Int)) ∧ OX w0 p (ins rs s) w' := by
  obtain ⟨b, v, h1, h2, h3, h4, h5⟩ := h
  refine (add_any h1 s hs hl).mono fun e w' ⟨he, v', hi, hst⟩ => ⟨he, b, v', hi, h2.trans (hst.below h2.size h3 h4 h5), h3, h4, fun k hk => ?_⟩
  rcases hst.row with q | q
  · exact h5 k (q ▸ hk)
  · have := q k hk; have := h2.size; omega
theorem OX.len (h : OX w0 p rs w) : Calls Try.prog 23 #[.pointer (some ⟨p, 0, none⟩)] w fun e w' => e = .returned (.int .i64 (rs.length : Int)) ∧ w' = w := by
  obtain ⟨b, v, h1, _⟩ := h
  exact len_any h1
theorem OX.find (h : OX w0 p rs w) (s : ByteArray) (hs : s.size ≤ maxLen) : Calls Try.prog 29 #[.pointer (some ⟨p, 0, none⟩), .string s] w fun e w' =>
    e = .returned (.tuple #[.int .i64 (((idx rs s).getD 0 : Nat) : Int), .bool (idx rs s).isSome]) ∧ w' = w := by
  obtain ⟨b, v, h1, _⟩ := h
  exact find_any h1 s hs
theorem OX.at_in (h : OX w0 p rs w) (i : Nat) (hi : i < rs.length) (hm : rs.length ≤ 140737488355328) : Calls Try.prog 31 #[.pointer (some ⟨p, 0, none⟩), .int .i64 (i : Int)] w fun e w' =>
    e = .returned (.tuple #[.string (tx rs i), .bool true]) ∧ w' = w := by
  obtain ⟨b, v, h1, _⟩ := h
  exact Ythmcalapofjmfaa.at_in h1 i hi hm
theorem OX.at_out (h : OX w0 p rs w) (i : Int) (hi : i < 0 ∨ (rs.length : Int) ≤ i) : Calls Try.prog 31 #[.pointer (some ⟨p, 0, none⟩), .int .i64 i] w fun e w' =>
    e = .returned (.tuple #[.string ByteArray.empty, .bool false]) ∧ w' = w := by
  obtain ⟨b, v, h1, _⟩ := h
  exact Ythmcalapofjmfaa.at_out h1 i hi
/-- An index that has nothing to do with the blocks S. -/
def OXS (S : Nat → Prop) (p : Nat) (rs : List ByteArray) (w : World) : Prop :=
  (∀ k, S k → k < w.heap.size) ∧ ∃ b v, Ix w p b v rs ∧ ∀ k, Foot p b v k → ¬ S k
theorem OXS.add {S : Nat → Prop} (h : OXS S p rs w) (s : ByteArray) (hs : s.size ≤ maxLen) (hl : rs.length < 11999999999999) : Calls Try.prog 20 #[.pointer (some ⟨p, 0, none⟩), .string s] w fun e w' =>
    e = .returned (.int .i64 ((num rs s : Nat) : Int)) ∧ OXS S p (ins rs s) w' ∧ Fr (fun k => ¬ S k) w w' := by
  obtain ⟨h0, b, v, h1, h2⟩ := h
  refine (add_any h1 s hs hl).mono fun e w' ⟨he, v', hi, hst⟩ => ⟨he, ⟨fun k hk => Nat.lt_of_lt_of_le (h0 k hk) hst.fr.size, b, v', hi, ?_⟩, hst.fr.mono (fun k _ hk => h2 k hk)⟩
  rintro k (e | e | e) hS
  · exact h2 k (.inl e) hS
  · exact h2 k (.inr (.inl e)) hS
  · rcases hst.row with q | q
    · exact h2 k (.inr (.inr (q ▸ e))) hS
    · have := q k e; have := h0 k hS; omega
theorem OXS.nd {S : Nat → Prop} (h : OXS S p rs w) : rs.Nodup := by obtain ⟨_, b, v, h, _⟩ := h; exact h.nd
theorem OXS.len {S : Nat → Prop} (h : OXS S p rs w) : Calls Try.prog 23 #[.pointer (some ⟨p, 0, none⟩)] w fun e w' => e = .returned (.int .i64 (rs.length : Int)) ∧ w' = w := by
  obtain ⟨_, b, v, h1, _⟩ := h
  exact len_any h1
theorem OXS.find {S : Nat → Prop} (h : OXS S p rs w) (s : ByteArray) (hs : s.size ≤ maxLen) : Calls Try.prog 29 #[.pointer (some ⟨p, 0, none⟩), .string s] w fun e w' =>
    e = .returned (.tuple #[.int .i64 (((idx rs s).getD 0 : Nat) : Int), .bool (idx rs s).isSome]) ∧ w' = w := by
  obtain ⟨_, b, v, h1, _⟩ := h
  exact find_any h1 s hs
theorem OXS.at_in {S : Nat → Prop} (h : OXS S p rs w) (i : Nat) (hi : i < rs.length) (hm : rs.length ≤ 140737488355328) : Calls Try.prog 31 #[.pointer (some ⟨p, 0, none⟩), .int .i64 (i : Int)] w fun e w' =>
    e = .returned (.tuple #[.string (tx rs i), .bool true]) ∧ w' = w := by
  obtain ⟨_, b, v, h1, _⟩ := h
  exact Ythmcalapofjmfaa.at_in h1 i hi hm
theorem OXS.at_out {S : Nat → Prop} (h : OXS S p rs w) (i : Int) (hi : i < 0 ∨ (rs.length : Int) ≤ i) : Calls Try.prog 31 #[.pointer (some ⟨p, 0, none⟩), .int .i64 i] w fun e w' =>
    e = .returned (.tuple #[.string ByteArray.empty, .bool false]) ∧ w' = w := by
  obtain ⟨_, b, v, h1, _⟩ := h
  exact Ythmcalapofjmfaa.at_out h1 i hi
theorem OXS.mono {S T : Nat → Prop} (h : OXS S p rs w) (hT : ∀ k, T k → S k) : OXS T p rs w := by
  obtain ⟨h0, b, v, h1, h2⟩ := h
  exact ⟨fun k hk => h0 k (hT k hk), b, v, h1, fun k hk e => h2 k hk (hT k e)⟩
theorem OX.oxs (h : OX w0 p rs w) : OXS (fun k => k < w0.heap.size) p rs w := by
  obtain ⟨b, v, h1, h2, h3, h4, h5⟩ := h
  refine ⟨fun k hk => Nat.lt_of_lt_of_le hk h2.size, b, v, h1, ?_⟩
  rintro k (e | e | e) hS
  · omega
  · omega
  · have := h5 k e; omega
theorem OX.items (h : OX w0 p rs w) (hl : rs.length ≤ 11999999999999) : Calls Try.prog 11 #[.pointer (some ⟨p, 0, none⟩)] w fun e w' => ∃ g,
    e = .returned (.slice (some ⟨g, 0, none⟩) rs.length rs.length) ∧ w.heap.size ≤ g ∧ w'.ownsRow 0 9 1 (.slice (some ⟨g, 0, none⟩) rs.length rs.length) rs.length (rs.map Value.string) ∧ OX w0 p rs w' ∧ Below w.heap.size w w' ∧
    OXS (fun k => k < w0.heap.size ∨ k = g) p rs w' := by
  obtain ⟨b, v, h1, h2, h3, h4, h5⟩ := h
  refine (items_any h1 hl).mono fun e w' ⟨he, ho, hb⟩ => ⟨_, he, Nat.le_refl _, ho, ⟨b, v, h1.below hb, h2.trans (hb.mono h2.size), h3, h4, h5⟩, hb, ?_, b, v, h1.below hb, ?_⟩
  · rintro k (hk | hk)
    · have := h2.size; have := hb.size; omega
    · rw [hk]; exact (ho.lt _ rfl).2
  · rintro k hf (hS | hS)
    · rcases hf with e | e | e
      · omega
      · omega
      · have := h5 k e; omega
    · have := h1.foot k hf; omega
end
end Go.Proofs.Ythmcalapofjmfaa
