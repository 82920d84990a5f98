/-
  Raw among the calls; and what every call of a reader keeps to.
-/
import Derived.Test.YtonnkaphomonpaaGet
namespace Go.Proofs.Ytonnkaphomonpaa
open Go.RowKit

/-- What every call that reads keeps to. -/
structure Stick (bs : List Int) (e0 : Int) (x : Int) (s : ByteArray) (l : Value) (left : List Int) (e1 : Int) : Prop where
  zero : e1 ≠ 0 → x = 0 ∧ s = ByteArray.empty ∧ l = .slice none 0 0 ∧ left = bs
  stays : e0 ≠ 0 → e1 = e0
  len : left.length ≤ bs.length
  ok : BOk left

/-- What a call leaves. -/
structure Leaves (bs : List Int) (o : Except Int (Value × List Int)) : Prop where
  err : ∀ k, o = .error k → k ≠ 0
  more : ∀ u t, o = .ok (u, t) → t.length ≤ bs.length ∧ BOk t

theorem Leaves.res {bs : List Int} {o : Except Int (Value × List Int)} (h : Leaves bs o) (hB : BOk bs) {zero u : Value} {left : List Int} {e0 e1 : Int} (hr : rres zero o bs e0 = (u, left, e1)) :
    (e1 ≠ 0 → u = zero ∧ left = bs) ∧ (e0 ≠ 0 → e1 = e0) ∧ left.length ≤ bs.length ∧ BOk left := by
  unfold rres at hr
  by_cases he : e0 = 0
  · rw [if_pos he] at hr
    rcases o with k | ⟨u', t⟩
    · simp only [Prod.mk.injEq] at hr
      obtain ⟨rfl, rfl, rfl⟩ := hr
      exact ⟨fun _ => ⟨rfl, rfl⟩, fun q => absurd he q, Nat.le_refl _, hB⟩
    · simp only [Prod.mk.injEq] at hr
      obtain ⟨rfl, rfl, rfl⟩ := hr
      exact ⟨fun q => absurd rfl q, fun q => absurd he q, (h.more _ _ rfl).1, (h.more _ _ rfl).2⟩
  · rw [if_neg he] at hr
    simp only [Prod.mk.injEq] at hr
    obtain ⟨rfl, rfl, rfl⟩ := hr
    exact ⟨fun _ => ⟨rfl, rfl⟩, fun _ => rfl, Nat.le_refl _, hB⟩

theorem unum_left {bs : List Int} {x : Nat} {t : List Int} (hB : BOk bs) (h : unum 0 0 bs = .ok (x, t)) : t.length ≤ bs.length ∧ BOk t := by
  have h1 := unum_one bs x t hB h
  have h2 := (unum_lt 0 0 bs x t (by omega) (by decide) hB h).2
  refine ⟨?_, h2⟩
  rw [← h1, List.length_append]; omega
theorem unumMost_left {most : Int} {bs : List Int} {x : Nat} {t : List Int} (hB : BOk bs) (h : unumMost most bs = .ok (x, t)) : t.length ≤ bs.length ∧ BOk t := by
  unfold unumMost at h
  rcases hu : unum 0 0 bs with k | ⟨y, t'⟩
  · rw [hu] at h; simp at h
  · rw [hu] at h
    dsimp only at h
    split at h
    · simp at h
    · simp only [Except.ok.injEq, Prod.mk.injEq] at h
      obtain ⟨rfl, rfl⟩ := h
      exact unum_left hB hu
theorem unumMost_err {most : Int} {bs : List Int} {k : Int} (h : unumMost most bs = .error k) : k ≠ 0 := by
  unfold unumMost at h
  rcases hu : unum 0 0 bs with k' | ⟨y, t'⟩
  · rw [hu] at h
    simp only [Except.error.injEq] at h
    exact h ▸ unum_err 0 0 bs k' hu
  · rw [hu] at h
    dsimp only at h
    split at h
    · simp only [Except.error.injEq] at h; omega
    · simp at h
theorem leavesByte (bs : List Int) (hB : BOk bs) : Leaves bs (gByte bs) := by
  cases bs with
  | nil => exact ⟨fun k hk => by simp [gByte] at hk; omega, fun u t h => by simp [gByte] at h⟩
  | cons b t => exact ⟨fun k hk => by simp [gByte] at hk, fun u t' h => by
      simp only [gByte, Except.ok.injEq, Prod.mk.injEq] at h
      obtain ⟨_, rfl⟩ := h
      exact ⟨by simp, fun z hz => hB z (by simp [hz])⟩⟩
theorem leavesNum (f : Nat → Value) (bs : List Int) (hB : BOk bs) : Leaves bs (gNum f (unum 0 0 bs)) := by
  rcases hu : unum 0 0 bs with k | ⟨x, t⟩
  · exact ⟨fun k' hk => by simp only [gNum, Except.error.injEq] at hk; exact hk ▸ unum_err 0 0 bs k hu, fun u t h => by simp [gNum] at h⟩
  · exact ⟨fun k hk => by simp [gNum] at hk, fun u t' h => by
      simp only [gNum, Except.ok.injEq, Prod.mk.injEq] at h
      obtain ⟨_, rfl⟩ := h
      exact unum_left hB hu⟩
theorem leavesMost (f : Nat → Value) (most : Int) (bs : List Int) (hB : BOk bs) : Leaves bs (gNum f (unumMost most bs)) := by
  rcases hu : unumMost most bs with k | ⟨x, t⟩
  · exact ⟨fun k' hk => by simp only [gNum, Except.error.injEq] at hk; exact hk ▸ unumMost_err hu, fun u t h => by simp [gNum] at h⟩
  · exact ⟨fun k hk => by simp [gNum] at hk, fun u t' h => by
      simp only [gNum, Except.ok.injEq, Prod.mk.injEq] at h
      obtain ⟨_, rfl⟩ := h
      exact unumMost_left hB hu⟩
theorem leavesWord (bs : List Int) (hB : BOk bs) : Leaves bs (gWord bs) := by
  unfold gWord
  split
  · exact ⟨fun k hk => by simp only [Except.error.injEq] at hk; omega, fun u t h => by simp at h⟩
  · exact ⟨fun k hk => by simp at hk, fun u t h => by
      simp only [Except.ok.injEq, Prod.mk.injEq] at h
      obtain ⟨_, rfl⟩ := h
      exact ⟨by simp, hB.drop 8⟩⟩
theorem leavesText (most : Int) (bs : List Int) (hB : BOk bs) : Leaves bs (gText most bs) := by
  unfold gText
  rcases hu : unumMost most bs with k | ⟨x, t⟩
  · exact ⟨fun k' hk => by simp only [Except.error.injEq] at hk; exact hk ▸ unumMost_err hu, fun u t h => by simp at h⟩
  · have hl := unumMost_left hB hu
    dsimp only
    split
    · exact ⟨fun k hk => by simp only [Except.error.injEq] at hk; omega, fun u t h => by simp at h⟩
    · exact ⟨fun k hk => by simp at hk, fun u t' h => by
        simp only [Except.ok.injEq, Prod.mk.injEq] at h
        obtain ⟨_, rfl⟩ := h
        exact ⟨by rw [List.length_drop]; omega, hl.2.drop x⟩⟩
/-- The count's answer is a number. -/
theorem countShape (most : Int) (bs : List Int) (e0 : Int) : ∃ x left e1, rres (.int .i64 0) (gNum (fun x => .int .i64 x) (unumMost most bs)) bs e0 = (.int .i64 x, left, e1) := by
  unfold rres
  split
  · rcases unumMost most bs with k | ⟨x, t⟩
    · exact ⟨0, bs, k, rfl⟩
    · exact ⟨x, t, 0, rfl⟩
  · exact ⟨0, bs, e0, rfl⟩
theorem byteBd (bs : List Int) (e0 : Int) (hB : BOk bs) {b : Int} {left : List Int} {e1 : Int} (h : rres (.int .u8 0) (gByte bs) bs e0 = (.int .u8 b, left, e1)) : 0 ≤ b ∧ b < 256 := by
  unfold rres at h
  split at h
  · cases bs with
    | nil => simp [gByte] at h; omega
    | cons c t =>
      simp [gByte] at h
      have := hB c (by simp)
      omega
  · simp at h; omega
theorem wrapU0 : IntKind.u64.wrap 0 = 0 := by decide

end Go.Proofs.Ytonnkaphomonpaa
