/-
  The program's reader and the document's answer alike.
-/
import Derived.Test.YtnfinplkeefdgaaGetOwn
namespace Go.Proofs.Ytnfinplkeefdgaa
open Go.RowKit

/-- The list that a call hands out: none, or Raw's, a row of its own. -/
def LOk (N : Nat) (kind : Int) (w w' : World) (l : Value) : Prop := l = .slice none 0 0 ∨ kind = 5 ∧ ∃ xs : List Int, xs.length ≤ N ∧ w'.ownsRow (w.heap.size + 2) 5 1 l xs.length (xs.map By)

/-- What both answer to a call. -/
structure Both (bs : List Int) (e0 on kind n : Int) (x : Int) (s : ByteArray) (nn : Int) (left : List Int) (e1 : Int) : Prop where
  ok : BOk left
  len : left.length ≤ bs.length
  get : ∀ r rb v w, Rdr w r rb v bs e0 → rb < w.heap.size → Calls Try.prog 32 #[.pointer (some ⟨r, 0, none⟩), GetV on kind n] w fun e w' => ∃ l, GPost r rb w x s nn l left e1 e w' ∧ LOk bs.length kind w w' l
  ref : ∀ q qb v B pl w, RefR w q qb v B pl e0 → B.drop pl = bs → BOk B → B.length ≤ 140737488355328 → qb < w.heap.size → Calls Try.prog 36 #[.pointer (some ⟨q, 0, none⟩), GetV on kind n] w fun e w' => RGPost q qb v B w x s nn left e1 e w'

theorem both (bs : List Int) (e0 on kind n : Int) (hB : BOk bs) (hl : bs.length ≤ 140737488355328) (hn : n ≤ 9223372036854775807) : ∃ x s nn left e1, Both bs e0 on kind n x s nn left e1 := by
  by_cases hk : kind < 0 ∨ 8 < kind
  · exact ⟨0, ByteArray.empty, rEnd bs e0, bs, e0, hB, Nat.le_refl _, fun r rb v w h _ => (get9 r v bs e0 on n kind hk w h).mono fun e w' hp => ⟨_, hp, .inl rfl⟩,
      fun q qb v B pl w h hd _ _ hqb => by subst hd; exact getRef9 q v B pl e0 on n kind hk w h hqb⟩
  obtain ⟨k, rfl⟩ := Int.eq_ofNat_of_zero_le (show 0 ≤ kind by omega)
  have hk8 : k ≤ 8 := by omega
  clear hk
  match k, hk8 with
  | 0, _ =>
    obtain ⟨b, left, e1, hres, _⟩ := stepByte bs e0 hB
    obtain ⟨_, _, s3, s4⟩ := (leavesByte bs hB).res hB hres
    exact ⟨b, ByteArray.empty, 0, left, e1, s4, s3, fun r rb v w h hrb => (get0 r v bs left e0 e1 on n b (byteBd bs e0 hB hres) hres w h hrb).mono fun e w' hp => ⟨_, hp, .inl rfl⟩,
      fun q qb v B pl w h hd hB2 hN hqb => by subst hd; exact getRef0 q v B pl left e0 e1 on n b (byteBd _ e0 hB hres) hres w h hqb hN⟩
  | 1, _ =>
    obtain ⟨x, left, e1, hres, hx, _⟩ := stepUint bs e0 hB
    obtain ⟨_, _, s3, s4⟩ := (leavesNum _ bs hB).res hB hres
    exact ⟨(x : Int), ByteArray.empty, 0, left, e1, s4, s3, fun r rb v w h hrb => (get1 r v bs left e0 e1 on n (x : Int) hres hB w h hrb).mono fun e w' hp => ⟨_, hp, .inl rfl⟩,
      fun q qb v B pl w h hd hB2 hN hqb => by subst hd; exact getRef1 q v B pl left e0 e1 on n (x : Int) hres hB2 w h hqb hN⟩
  | 2, _ =>
    obtain ⟨x, left, e1, hres, hx, _⟩ := stepInt bs e0 hB
    obtain ⟨_, _, s3, s4⟩ := (leavesNum _ bs hB).res hB hres
    exact ⟨(IntKind.u64.wrap x), ByteArray.empty, 0, left, e1, s4, s3, fun r rb v w h hrb => (get2 r v bs left e0 e1 on n x hres hB w h hrb).mono fun e w' hp => ⟨_, hp, .inl rfl⟩,
      fun q qb v B pl w h hd hB2 hN hqb => by subst hd; exact getRef2 q v B pl left e0 e1 on n x hres hB2 w h hqb hN⟩
  | 3, _ =>
    obtain ⟨x, left, e1, hres, hx, _⟩ := stepWord bs e0 hB
    obtain ⟨_, _, s3, s4⟩ := (leavesWord bs hB).res hB hres
    exact ⟨(x : Int), ByteArray.empty, 0, left, e1, s4, s3, fun r rb v w h hrb => (get3 r v bs left e0 e1 on n (x : Int) hres hB w h hrb).mono fun e w' hp => ⟨_, hp, .inl rfl⟩,
      fun q qb v B pl w h hd hB2 hN hqb => by subst hd; exact getRef3 q v B pl left e0 e1 on n (x : Int) hres hB2 w h hqb hN⟩
  | 4, _ =>
    obtain ⟨s, left, e1, hres, hx, _⟩ := stepText n bs e0 hB
    obtain ⟨_, _, s3, s4⟩ := (leavesText n bs hB).res hB hres
    exact ⟨0, s, 0, left, e1, s4, s3, fun r rb v w h hrb => (get4 r v bs left e0 e1 on n s hres hB hn w h hrb).mono fun e w' hp => ⟨_, hp, .inl rfl⟩,
      fun q qb v B pl w h hd hB2 hN hqb => by subst hd; exact getRef4 q v B pl left e0 e1 on n s hres hB2 hn w h hqb hN⟩
  | 5, _ =>
    by_cases hbad : e0 ≠ 0 ∨ n < 0 ∨ (bs.length : Int) < n
    · exact ⟨0, ByteArray.empty, 0, bs, rawErr n e0, hB, Nat.le_refl _, fun r rb v w h hrb => (get5bad r v bs e0 on n w h hrb hbad).mono fun e w' hp => ⟨_, hp, .inl rfl⟩,
        fun q qb v B pl w h hd _ hN hqb => by subst hd; exact getRef5bad q v B pl e0 on n w h hqb hN hbad⟩
    · have he : e0 = 0 := by
        rcases Classical.em (e0 = 0) with q | q
        · exact q
        · exact absurd (.inl q) hbad
      have hn0 : 0 ≤ n := by
        rcases Int.lt_or_le n 0 with q | q
        · exact absurd (.inr (.inl q)) hbad
        · exact q
      have hnl : n ≤ (bs.length : Int) := by
        rcases Int.lt_or_le (bs.length : Int) n with q | q
        · exact absurd (.inr (.inr q)) hbad
        · exact q
      subst he
      obtain ⟨m, rfl⟩ := Int.eq_ofNat_of_zero_le hn0
      have hm : m ≤ bs.length := by omega
      refine ⟨0, toStr (bs.take m), 0, bs.drop m, 0, hB.drop m, by rw [List.length_drop]; omega, fun r rb v w h hrb => (get5own r v bs on m w h hrb hB hl hm).mono fun e w' ⟨val, hp, ho⟩ => ⟨val, hp, .inr ⟨rfl, bs.take m, by simp; omega, ?_⟩⟩,
        fun q qb v B pl w h hd hB2 hN hqb => ?_⟩
      · rw [show (bs.take m).length = m from by simp; omega]; exact ho
      · subst hd
        rw [List.drop_drop]
        exact getRef5good q v B pl m on w h hqb hB2 hN (by rw [List.length_drop] at hm; have := h.le; omega)
  | 6, _ =>
    obtain ⟨x, left, e1, hres⟩ := countShape n bs e0
    obtain ⟨_, _, s3, s4⟩ := (leavesMost _ n bs hB).res hB hres
    exact ⟨(IntKind.u64.wrap x), ByteArray.empty, 0, left, e1, s4, s3, fun r rb v w h hrb => (get6 r v bs left e0 e1 on n x hres hB hn w h hrb).mono fun e w' hp => ⟨_, hp, .inl rfl⟩,
      fun q qb v B pl w h hd hB2 hN hqb => by subst hd; exact getRef6 q v B pl left e0 e1 on n x hres hB2 hn w h hqb hN⟩
  | 7, _ => exact ⟨(bs.length : Int), ByteArray.empty, 0, bs, e0, hB, Nat.le_refl _, fun r rb v w h _ => (get7 r v bs e0 on n w h hl).mono fun e w' hp => ⟨_, hp, .inl rfl⟩,
      fun q qb v B pl w h hd _ hN hqb => by subst hd; exact getRef7 q v B pl e0 on n w h hqb hN⟩
  | 8, _ => exact ⟨0, ByteArray.empty, e0, bs, e0, hB, Nat.le_refl _, fun r rb v w h _ => (get8 r v bs e0 on n w h).mono fun e w' hp => ⟨_, hp, .inl rfl⟩,
      fun q qb v B pl w h hd _ _ _ => by subst hd; exact getRef8 q v B pl e0 on n w h⟩
end Go.Proofs.Ytnfinplkeefdgaa
