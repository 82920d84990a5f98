/-
  What one call of a new writer writes.
-/
import Derived.Test.YtpenhefhedmhiaaText
namespace Go.Proofs.Ytpenhefhedmhiaa
open Go.RowKit

/-- A number of 64 bits as one with a sign. -/
def toI64 (x : Nat) : Int := if x < 9223372036854775808 then (x : Int) else (x : Int) - 18446744073709551616
theorem toI64_bd (x : Nat) (hx : x < 2 ^ 64) : -9223372036854775808 ≤ toI64 x ∧ toI64 x ≤ 9223372036854775807 := by unfold toI64; split <;> omega
theorem toI64_wrap (x : Nat) (hx : x < 2 ^ 64) : wrap64 (x : Int) = toI64 x := by unfold toI64 wrap64; split <;> omega

/-- What such a call writes. -/
def pform (kind : Int) (x : Nat) (s : ByteArray) : List Int :=
  if kind = 0 then [((x % 256 : Nat) : Int)] else if kind = 1 then Wm.uform 9 x else if kind = 2 then Wm.uform 9 (foldI (toI64 x)).toNat else if kind = 3 then wpre x 8
  else if kind = 4 then Wm.uform 9 s.size ++ strI s else []

def PutV (on kind : Int) (x : Nat) (s : ByteArray) : Value := .agg #[.int .i64 on, .int .i64 kind, .int .u64 x, .string s]

theorem Wtr.alloc {w : World} {p : Nat} {v : Value} {bs : List Int} (h : Wtr w p v bs) (o : Obj) : Wtr (w.alloc o) p v bs :=
  h.keep (S := fun _ => False) ((Fr.refl _ _).alloc o) (by simp) (by simp)
theorem WStep.of_alloc {w w' : World} {p : Nat} {v v' : Value} {o : Obj} (h : WStep p (w.alloc o) v w' v') : WStep p w v w' v' :=
  (WStep.mk ((Fr.refl _ w).alloc o) (.inl rfl)).trans h

set_option maxRecDepth 100000 in
set_option maxHeartbeats 800000 in
theorem put_any (p : Nat) (v : Value) (bs : List Int) (on kind : Int) (x : Nat) (s : ByteArray) (w : World) (h : Wtr w p v bs) (hb : bs.length + 10 + s.size ≤ 140737488355328) (hx : x < 2 ^ 64) :
    Calls Try.prog 15 #[.pointer (some ⟨p, 0, none⟩), PutV on kind x s] w fun e w' => e = .returned (.tuple #[]) ∧ ∃ v', Wtr w' p v' (bs ++ pform kind x s) ∧ WStep p w v w' v' := by
  have hA : ∀ o, Wtr (w.alloc o) p v bs := fun o => h.alloc o
  by_cases k0 : kind = 0
  · subst k0
    rw [show pform 0 x s = [((x % 256 : Nat) : Int)] from rfl]
    have HA := hide hA
    clear h hA
    unfold PutV
    go_enter Try.func15, Try.ntmps15
    go_wp2_with fail
    refine (byte_any p v bs ((x : Int) % 256) _ (unhide HA _) (by omega)).mono ?_
    rintro e w' ⟨rfl, v2, hW, hT⟩
    have HH := hide (And.intro hW hT)
    clear hW hT
    go_wp2
    go_end0
    exact ⟨rfl, v2, by rw [show (((x % 256 : Nat)) : Int) = (x : Int) % 256 from by omega]; exact (unhide HH).1, (unhide HH).2.of_alloc⟩
  by_cases k1 : kind = 1
  · subst k1
    rw [show pform 1 x s = Wm.uform 9 x from rfl]
    have HA := hide hA
    clear h hA
    unfold PutV
    go_enter Try.func15, Try.ntmps15
    go_wp2_with fail
    refine (uint_any p v bs x _ (unhide HA _) (by omega) hx).mono ?_
    rintro e w' ⟨rfl, v2, hW, hT⟩
    have HH := hide (And.intro hW hT)
    clear hW hT
    go_wp2
    go_end0
    exact ⟨rfl, v2, (unhide HH).1, (unhide HH).2.of_alloc⟩
  by_cases k2 : kind = 2
  · subst k2
    rw [show pform 2 x s = Wm.uform 9 (foldI (toI64 x)).toNat from rfl]
    have HA := hide hA
    clear h hA
    unfold PutV
    have hw64 := toI64_wrap x hx
    go_enter Try.func15, Try.ntmps15
    go_wp2_with fail
    refine (int_any p v bs (toI64 x) _ (unhide HA _) (by omega) (toI64_bd x hx).1 (toI64_bd x hx).2).mono ?_
    rintro e w' ⟨rfl, v2, hW, hT⟩
    have HH := hide (And.intro hW hT)
    clear hW hT
    go_wp2
    go_end0
    exact ⟨rfl, v2, (unhide HH).1, (unhide HH).2.of_alloc⟩
  by_cases k3 : kind = 3
  · subst k3
    rw [show pform 3 x s = wpre x 8 from rfl]
    have HA := hide hA
    clear h hA
    unfold PutV
    go_enter Try.func15, Try.ntmps15
    go_wp2_with fail
    refine (word_any p v bs x _ (unhide HA _) (by omega)).mono ?_
    rintro e w' ⟨rfl, v2, hW, hT⟩
    have HH := hide (And.intro hW hT)
    clear hW hT
    go_wp2
    go_end0
    exact ⟨rfl, v2, (unhide HH).1, (unhide HH).2.of_alloc⟩
  by_cases k4 : kind = 4
  · subst k4
    rw [show pform 4 x s = Wm.uform 9 s.size ++ strI s from rfl]
    have HA := hide hA
    clear h hA
    unfold PutV
    go_enter Try.func15, Try.ntmps15
    go_wp2_with fail
    refine (text_any p v bs s _ (unhide HA _) (by omega)).mono ?_
    rintro e w' ⟨rfl, v2, hW, hT⟩
    have HH := hide (And.intro hW hT)
    clear hW hT
    go_wp2
    go_end0
    exact ⟨rfl, v2, (unhide HH).1, (unhide HH).2.of_alloc⟩
  have e : pform kind x s = [] := by simp [pform, *]
  rw [e, List.append_nil]
  clear e
  have HA := hide hA
  have b0 : (kind == 0) = false := by simp [k0]
  have b1 : (kind == 1) = false := by simp [k1]
  have b2 : (kind == 2) = false := by simp [k2]
  have b3 : (kind == 3) = false := by simp [k3]
  have b4 : (kind == 4) = false := by simp [k4]
  clear h hA k0 k1 k2 k3 k4
  unfold PutV
  go_enter Try.func15, Try.ntmps15
  go_wp2
  go_end0
  exact ⟨rfl, v, unhide HA _, (WStep.refl _ _ _).of_alloc⟩

theorem bcell {B : Nat} {W w1 : World} (hb : Below B W w1) : (∀ b o, b < B → w1.cell? ⟨b, o, none⟩ = W.cell? ⟨b, o, none⟩) ∧ (∀ b o, b < B → w1.frozen? ⟨b, o, none⟩ = W.frozen? ⟨b, o, none⟩) :=
  ⟨fun b o h => hb.cell (p := ⟨b, o, none⟩) h, fun b o h => hb.frozen (p := ⟨b, o, none⟩) h⟩

theorem pform_le (kind : Int) (x : Nat) (s : ByteArray) : (pform kind x s).length ≤ 10 + s.size := by
  have h1 := Wm.ulen_bd 9
  unfold pform
  split
  · simp; omega
  split
  · rw [Wm.uform_length]; have := h1 x; omega
  split
  · rw [Wm.uform_length]; have := h1 (foldI (toI64 x)).toNat; omega
  split
  · rw [wpre_length]; omega
  split
  · rw [List.length_append, Wm.uform_length, strI_length]; have := h1 s.size; omega
  · simp

theorem own_mono {w : World} {base base' : Nat} {v : Value} {n : Nat} {xs : List Value} (h : w.ownsRow base 5 1 v n xs) (hb : base' ≤ base) : w.ownsRow base' 5 1 v n xs := by
  refine ⟨h.1, ?_⟩
  rcases h.2 with h | ⟨g, cap, cur, h1, h2, h3⟩
  · exact .inl h
  · exact .inr ⟨g, cap, cur, h1, by omega, h3⟩

/-- What the walk of 'written' takes of put. -/
theorem put_new (p : Nat) (on kind : Int) (x : Nat) (s : ByteArray) (w : World) (h : Wtr w p (.slice none 0 0) []) (hb : 10 + s.size ≤ 140737488355328) (hx : x < 2 ^ 64) :
    Calls Try.prog 15 #[.pointer (some ⟨p, 0, none⟩), .agg #[.int .i64 on, .int .i64 kind, .int .u64 x, .string s]] w fun e w' => e = .returned (.tuple #[]) ∧ ∃ v', Wtr w' p v' (pform kind x s) ∧ Below p w w' := by
  refine (put_any p _ [] on kind x s w h (by simp; omega) hx).mono ?_
  rintro e w' ⟨rfl, v', hW, hT⟩
  refine ⟨rfl, v', by simpa using hW, hT.fr.below (Nat.le_of_lt h.lt) ?_⟩
  intro k hk hf
  rcases hf with rfl | hf
  · omega
  · simp [Value.ownBlock] at hf

set_option maxRecDepth 100000 in
set_option maxHeartbeats 800000 in
theorem written_any (on kind : Int) (x : Nat) (s : ByteArray) (w : World) (hk : (kind == 5) = false) (hb : 10 + s.size ≤ 140737488355328) (hx : x < 2 ^ 64) :
    Calls Try.prog 9 #[.agg #[.int .i64 on, .int .i64 kind, .int .u64 x, .string s]] w fun e w' => ∃ v', e = .returned (.tuple #[v', .bool true]) ∧ w'.ownsRow w.heap.size 5 1 v' (pform kind x s).length ((pform kind x s).map By) ∧ Below w.heap.size w w' := by
  have hpl := pform_le kind x s
  obtain ⟨bs, hbs⟩ : ∃ bs, bs = pform kind x s := ⟨_, rfl⟩
  have hP := hide (fun p w1 hW => put_new p on kind x s w1 hW hb hx)
  rw [← hbs] at hpl hP ⊢
  clear hbs
  go_enter Try.func9, Try.ntmps9
  go_wp2_with fail
  refine (newWriter_any _ (w.heap.size + 1) (by simp)).mono ?_
  rintro e w1 ⟨rfl, hW1, hB1, hlt⟩
  obtain ⟨hc, hf⟩ := bcell hB1
  have HB1 := hide hB1
  have HW1 := hide hW1
  clear hB1 hW1
  go_wp2_with fail
  refine (unhide hP _ _ (unhide HW1)).mono ?_
  rintro e w2 ⟨rfl, v2, hW2, hB2⟩
  have HW2 := hide hW2
  have HB2 := hide hB2
  clear hW2 hB2 hc hf
  go_wp2_with fail
  refine (done_any _ v2 bs _ (unhide HW2) (by omega)).mono ?_
  rintro e w3 ⟨v3, rfl, ho, hB3⟩
  have HO := hide ho
  have HB3 := hide hB3
  clear ho hB3
  have hs1 : w.heap.size < w1.heap.size := by omega
  have hs2 := (unhide HB2).size
  have hB : Hid (Below w.heap.size w w3) :=
    (((Below.refl _ _).alloc (Nat.le_refl _) _).trans ((unhide HB1).mono (by simp))).trans (((unhide HB2).mono (by simp)).trans ((unhide HB3).mono (by omega)))
  clear hs2 hlt
  go_wp2
  go_ret2
  exact ⟨v3, rfl, own_mono (unhide HO) (by have := (unhide HB2).size; omega), unhide hB⟩
end Go.Proofs.Ytpenhefhedmhiaa
