/-
  Raw among the calls; and what every call of a reader keeps to.
-/
import Derived.Test.YtnfinplkeefdgaaGet
namespace Go.Proofs.Ytnfinplkeefdgaa
open Go.RowKit

set_option maxHeartbeats 800000 in
set_option maxRecDepth 100000 in
theorem get5bad (r : Nat) {rb : Nat} (v : Value) (bs : List Int) (e0 on n : Int) (w : World) (h : Rdr w r rb v bs e0) (hrb : rb < w.heap.size) (hbad : e0 ≠ 0 ∨ n < 0 ∨ (bs.length : Int) < n) :
    Calls Try.prog 32 #[.pointer (some ⟨r, 0, none⟩), GetV on 5 n] w fun e w' => GPost r rb w 0 ByteArray.empty 0 (.slice none 0 0) bs (rawErr n e0) e w' := by
  have hr := h.lt
  have hC := rRaw_bad r v bs e0 n ((w.alloc (.cells #[.int .i64 on, .int .i64 5, .int .i64 n] 57)).alloc (.cells #[.int .u64 0, .string ByteArray.empty, .int .i64 0] 59)) ((h.alloc _).alloc _) hbad
  have HC := hide hC
  have hdr : Hid (RFr r w ((w.alloc (.cells #[.int .i64 on, .int .i64 5, .int .i64 n] 57)).alloc (.cells #[.int .u64 0, .string ByteArray.empty, .int .i64 0] 59))) := RFr.alloc2 r w _ _
  clear h hC hbad
  unfold GetV
  go_enter Try.func32, Try.ntmps32
  go_wp2_with fail
  refine (unhide HC).mono ?_
  rintro e w1 ⟨rfl, v2, h1, h2⟩
  have c0 : w1.cell? ⟨w.heap.size + 1, 0, none⟩ = some (.int .u64 0) := (Fr.cell h2 (a := ⟨w.heap.size + 1, 0, none⟩) (by simp) (by simp; omega)).trans (by simp)
  have c1 : w1.cell? ⟨w.heap.size + 1, 1, none⟩ = some (.string ByteArray.empty) := (Fr.cell h2 (a := ⟨w.heap.size + 1, 1, none⟩) (by simp) (by simp; omega)).trans (by simp)
  have c2 : w1.cell? ⟨w.heap.size + 1, 2, none⟩ = some (.int .i64 0) := (Fr.cell h2 (a := ⟨w.heap.size + 1, 2, none⟩) (by simp) (by simp; omega)).trans (by simp)
  have f0 : w1.frozen? ⟨w.heap.size + 1, 0, none⟩ = false := (Fr.frozen h2 (a := ⟨w.heap.size + 1, 0, none⟩) (by simp) (by simp; omega)).trans (by simp)
  have f1 : w1.frozen? ⟨w.heap.size + 1, 1, none⟩ = false := (Fr.frozen h2 (a := ⟨w.heap.size + 1, 1, none⟩) (by simp) (by simp; omega)).trans (by simp)
  have f2 : w1.frozen? ⟨w.heap.size + 1, 2, none⟩ = false := (Fr.frozen h2 (a := ⟨w.heap.size + 1, 2, none⟩) (by simp) (by simp; omega)).trans (by simp)
  have hcv := str_conv w1 (.slice none 0 0) [] (.inl ⟨rfl, rfl⟩) (by intro b hb; simp at hb)
  rw [show toStr [] = ByteArray.empty from rfl] at hcv
  have HH := hide (And.intro h1 ((unhide hdr).trans h2))
  clear h1 h2
  dsimp only
  go_wp2
  (try simp only [Exit.inBlock, Exit.then])
  refine bodyPost_ret (v := .tuple #[GotV 0 ByteArray.empty 0, .slice none 0 0]) ?_ rfl ⟨rfl, v2, got_close (w.heap.size + 1) _ _ _ hrb hr (by omega) (unhide HH).1 (unhide HH).2⟩
  rw [results_cell_tmp rfl]
  unfold GotV
  go_simp
  all_goals rfl

set_option maxHeartbeats 800000 in
set_option maxRecDepth 100000 in
theorem get5good (r : Nat) {rb : Nat} (v : Value) (bs : List Int) (on : Int) (m : Nat) (w : World) (h : Rdr w r rb v bs 0) (hrb : rb < w.heap.size) (hB : BOk bs) (hl : bs.length ≤ 140737488355328) (hm : m ≤ bs.length) :
    Calls Try.prog 32 #[.pointer (some ⟨r, 0, none⟩), GetV on 5 (m : Int)] w fun e w' => ∃ val, GPost r rb w 0 (toStr (bs.take m)) 0 val (bs.drop m) 0 e w' := by
  have hr := h.lt
  have hC := rRaw_good r v bs m ((w.alloc (.cells #[.int .i64 on, .int .i64 5, .int .i64 (m : Int)] 57)).alloc (.cells #[.int .u64 0, .string ByteArray.empty, .int .i64 0] 59)) ((h.alloc _).alloc _) hl hm
  obtain ⟨s, hs⟩ : ∃ s, Hid (toStr (bs.take m) = s) := ⟨_, rfl⟩
  obtain ⟨left, hlf⟩ : ∃ left, Hid (bs.drop m = left) := ⟨_, rfl⟩
  rw [unhide hs, unhide hlf]
  rw [unhide hlf] at hC
  have HC := hide hC
  have hdr : Hid (RFr r w ((w.alloc (.cells #[.int .i64 on, .int .i64 5, .int .i64 (m : Int)] 57)).alloc (.cells #[.int .u64 0, .string ByteArray.empty, .int .i64 0] 59))) := RFr.alloc2 r w _ _
  clear h hC
  unfold GetV
  go_enter Try.func32, Try.ntmps32
  go_wp2_with fail
  refine (unhide HC).mono ?_
  rintro e w1 ⟨val, rfl, ho, v2, h1, h2⟩
  have c0 : w1.cell? ⟨w.heap.size + 1, 0, none⟩ = some (.int .u64 0) := (Fr.cell h2 (a := ⟨w.heap.size + 1, 0, none⟩) (by simp) (by simp; omega)).trans (by simp)
  have c1 : w1.cell? ⟨w.heap.size + 1, 1, none⟩ = some (.string ByteArray.empty) := (Fr.cell h2 (a := ⟨w.heap.size + 1, 1, none⟩) (by simp) (by simp; omega)).trans (by simp)
  have c2 : w1.cell? ⟨w.heap.size + 1, 2, none⟩ = some (.int .i64 0) := (Fr.cell h2 (a := ⟨w.heap.size + 1, 2, none⟩) (by simp) (by simp; omega)).trans (by simp)
  have f0 : w1.frozen? ⟨w.heap.size + 1, 0, none⟩ = false := (Fr.frozen h2 (a := ⟨w.heap.size + 1, 0, none⟩) (by simp) (by simp; omega)).trans (by simp)
  have f1 : w1.frozen? ⟨w.heap.size + 1, 1, none⟩ = false := (Fr.frozen h2 (a := ⟨w.heap.size + 1, 1, none⟩) (by simp) (by simp; omega)).trans (by simp)
  have f2 : w1.frozen? ⟨w.heap.size + 1, 2, none⟩ = false := (Fr.frozen h2 (a := ⟨w.heap.size + 1, 2, none⟩) (by simp) (by simp; omega)).trans (by simp)
  have hcv := str_conv w1 val (bs.take m) (Rd.of_own (by rw [show (bs.take m).length = m from by simp; omega]; exact ho)) (hB.take m)
  rw [unhide hs] at hcv
  have HH := hide (And.intro h1 ((unhide hdr).trans h2))
  clear h1 h2 ho
  go_wp2
  (try simp only [Exit.inBlock, Exit.then])
  refine bodyPost_ret (v := .tuple #[GotV 0 s 0, val]) ?_ rfl ⟨val, rfl, v2, got_close (w.heap.size + 1) _ _ _ hrb hr (by omega) (unhide HH).1 (unhide HH).2⟩
  rw [results_cell_tmp rfl]
  unfold GotV
  go_simp
  all_goals rfl

/-- What every call that reads keeps to. -/
structure Stick (bs : List Int) (e0 : Int) (x : Int) (s : ByteArray) (l : Value) (left : List Int) (e1 : Int) : Prop where
  zero : e1 ≠ 0 → x = 0 ∧ s = ByteArray.empty ∧ l = .slice none 0 0 ∧ left = bs
  stays : e0 ≠ 0 → e1 = e0
  len : left.length ≤ bs.length
  ok : BOk left

/-- What a call leaves. -/
structure Leaves (bs : List Int) (o : Except Int (Value × List Int)) : Prop where
  err : ∀ k, o = .error k → k ≠ 0
  more : ∀ u t, o = .ok (u, t) → t.length ≤ bs.length ∧ BOk t

theorem Leaves.res {bs : List Int} {o : Except Int (Value × List Int)} (h : Leaves bs o) (hB : BOk bs) {zero u : Value} {left : List Int} {e0 e1 : Int} (hr : rres zero o bs e0 = (u, left, e1)) :
    (e1 ≠ 0 → u = zero ∧ left = bs) ∧ (e0 ≠ 0 → e1 = e0) ∧ left.length ≤ bs.length ∧ BOk left := by
  unfold rres at hr
  by_cases he : e0 = 0
  · rw [if_pos he] at hr
    rcases o with k | ⟨u', t⟩
    · simp only [Prod.mk.injEq] at hr
      obtain ⟨rfl, rfl, rfl⟩ := hr
      exact ⟨fun _ => ⟨rfl, rfl⟩, fun q => absurd he q, Nat.le_refl _, hB⟩
    · simp only [Prod.mk.injEq] at hr
      obtain ⟨rfl, rfl, rfl⟩ := hr
      exact ⟨fun q => absurd rfl q, fun q => absurd he q, (h.more _ _ rfl).1, (h.more _ _ rfl).2⟩
  · rw [if_neg he] at hr
    simp only [Prod.mk.injEq] at hr
    obtain ⟨rfl, rfl, rfl⟩ := hr
    exact ⟨fun _ => ⟨rfl, rfl⟩, fun _ => rfl, Nat.le_refl _, hB⟩

theorem unum_left {bs : List Int} {x : Nat} {t : List Int} (hB : BOk bs) (h : unum 0 0 bs = .ok (x, t)) : t.length ≤ bs.length ∧ BOk t := by
  have h1 := unum_one bs x t hB h
  have h2 := (unum_lt 0 0 bs x t (by omega) (by decide) hB h).2
  refine ⟨?_, h2⟩
  rw [← h1, List.length_append]; omega
theorem unumMost_left {most : Int} {bs : List Int} {x : Nat} {t : List Int} (hB : BOk bs) (h : unumMost most bs = .ok (x, t)) : t.length ≤ bs.length ∧ BOk t := by
  unfold unumMost at h
  rcases hu : unum 0 0 bs with k | ⟨y, t'⟩
  · rw [hu] at h; simp at h
  · rw [hu] at h
    dsimp only at h
    split at h
    · simp at h
    · simp only [Except.ok.injEq, Prod.mk.injEq] at h
      obtain ⟨rfl, rfl⟩ := h
      exact unum_left hB hu
theorem unumMost_err {most : Int} {bs : List Int} {k : Int} (h : unumMost most bs = .error k) : k ≠ 0 := by
  unfold unumMost at h
  rcases hu : unum 0 0 bs with k' | ⟨y, t'⟩
  · rw [hu] at h
    simp only [Except.error.injEq] at h
    exact h ▸ unum_err 0 0 bs k' hu
  · rw [hu] at h
    dsimp only at h
    split at h
    · simp only [Except.error.injEq] at h; omega
    · simp at h
theorem leavesByte (bs : List Int) (hB : BOk bs) : Leaves bs (gByte bs) := by
  cases bs with
  | nil => exact ⟨fun k hk => by simp [gByte] at hk; omega, fun u t h => by simp [gByte] at h⟩
  | cons b t => exact ⟨fun k hk => by simp [gByte] at hk, fun u t' h => by
      simp only [gByte, Except.ok.injEq, Prod.mk.injEq] at h
      obtain ⟨_, rfl⟩ := h
      exact ⟨by simp, fun z hz => hB z (by simp [hz])⟩⟩
theorem leavesNum (f : Nat → Value) (bs : List Int) (hB : BOk bs) : Leaves bs (gNum f (unum 0 0 bs)) := by
  rcases hu : unum 0 0 bs with k | ⟨x, t⟩
  · exact ⟨fun k' hk => by simp only [gNum, Except.error.injEq] at hk; exact hk ▸ unum_err 0 0 bs k hu, fun u t h => by simp [gNum] at h⟩
  · exact ⟨fun k hk => by simp [gNum] at hk, fun u t' h => by
      simp only [gNum, Except.ok.injEq, Prod.mk.injEq] at h
      obtain ⟨_, rfl⟩ := h
      exact unum_left hB hu⟩
theorem leavesMost (f : Nat → Value) (most : Int) (bs : List Int) (hB : BOk bs) : Leaves bs (gNum f (unumMost most bs)) := by
  rcases hu : unumMost most bs with k | ⟨x, t⟩
  · exact ⟨fun k' hk => by simp only [gNum, Except.error.injEq] at hk; exact hk ▸ unumMost_err hu, fun u t h => by simp [gNum] at h⟩
  · exact ⟨fun k hk => by simp [gNum] at hk, fun u t' h => by
      simp only [gNum, Except.ok.injEq, Prod.mk.injEq] at h
      obtain ⟨_, rfl⟩ := h
      exact unumMost_left hB hu⟩
theorem leavesWord (bs : List Int) (hB : BOk bs) : Leaves bs (gWord bs) := by
  unfold gWord
  split
  · exact ⟨fun k hk => by simp only [Except.error.injEq] at hk; omega, fun u t h => by simp at h⟩
  · exact ⟨fun k hk => by simp at hk, fun u t h => by
      simp only [Except.ok.injEq, Prod.mk.injEq] at h
      obtain ⟨_, rfl⟩ := h
      exact ⟨by simp, hB.drop 8⟩⟩
theorem leavesText (most : Int) (bs : List Int) (hB : BOk bs) : Leaves bs (gText most bs) := by
  unfold gText
  rcases hu : unumMost most bs with k | ⟨x, t⟩
  · exact ⟨fun k' hk => by simp only [Except.error.injEq] at hk; exact hk ▸ unumMost_err hu, fun u t h => by simp at h⟩
  · have hl := unumMost_left hB hu
    dsimp only
    split
    · exact ⟨fun k hk => by simp only [Except.error.injEq] at hk; omega, fun u t h => by simp at h⟩
    · exact ⟨fun k hk => by simp at hk, fun u t' h => by
        simp only [Except.ok.injEq, Prod.mk.injEq] at h
        obtain ⟨_, rfl⟩ := h
        exact ⟨by rw [List.length_drop]; omega, hl.2.drop x⟩⟩
/-- The count's answer is a number. -/
theorem countShape (most : Int) (bs : List Int) (e0 : Int) : ∃ x left e1, rres (.int .i64 0) (gNum (fun x => .int .i64 x) (unumMost most bs)) bs e0 = (.int .i64 x, left, e1) := by
  unfold rres
  split
  · rcases unumMost most bs with k | ⟨x, t⟩
    · exact ⟨0, bs, k, rfl⟩
    · exact ⟨x, t, 0, rfl⟩
  · exact ⟨0, bs, e0, rfl⟩
theorem byteBd (bs : List Int) (e0 : Int) (hB : BOk bs) {b : Int} {left : List Int} {e1 : Int} (h : rres (.int .u8 0) (gByte bs) bs e0 = (.int .u8 b, left, e1)) : 0 ≤ b ∧ b < 256 := by
  unfold rres at h
  split at h
  · cases bs with
    | nil => simp [gByte] at h; omega
    | cons c t =>
      simp [gByte] at h
      have := hB c (by simp)
      omega
  · simp at h; omega
theorem wrapU0 : IntKind.u64.wrap 0 = 0 := by decide

theorem get_stick (r : Nat) {rb : Nat} (v : Value) (bs : List Int) (e0 on kind n : Int) (w : World) (h : Rdr w r rb v bs e0) (hrb : rb < w.heap.size) (hB : BOk bs) (hl : bs.length ≤ 140737488355328) (hk : 0 ≤ kind ∧ kind ≤ 6) (hn : n ≤ 9223372036854775807) :
    Calls Try.prog 32 #[.pointer (some ⟨r, 0, none⟩), GetV on kind n] w fun e w' => ∃ x s l left e1, GPost r rb w x s 0 l left e1 e w' ∧ Stick bs e0 x s l left e1 := by
  obtain ⟨k, rfl⟩ := Int.eq_ofNat_of_zero_le hk.1
  have hk6 : k ≤ 6 := by omega
  clear hk
  match k, hk6 with
  | 0, _ =>
    obtain ⟨b, left, e1, hres, _⟩ := stepByte bs e0 hB
    obtain ⟨s1, s2, s3, s4⟩ := (leavesByte bs hB).res hB hres
    exact (get0 r v bs left e0 e1 on n b (byteBd bs e0 hB hres) hres w h hrb).mono fun e w' hp => ⟨_, _, _, left, e1, hp, ⟨fun q => by
      have hq := s1 q
      simp only [Value.int.injEq, true_and] at hq
      obtain ⟨hq1, hq2⟩ := hq
      exact ⟨hq1, rfl, rfl, hq2⟩, s2, s3, s4⟩⟩
  | 1, _ =>
    obtain ⟨x, left, e1, hres, hx, _⟩ := stepUint bs e0 hB
    obtain ⟨s1, s2, s3, s4⟩ := (leavesNum _ bs hB).res hB hres
    exact (get1 r v bs left e0 e1 on n (x : Int) hres hB w h hrb).mono fun e w' hp => ⟨_, _, _, left, e1, hp, ⟨fun q => by
      have hq := s1 q
      simp only [Value.int.injEq, true_and] at hq
      obtain ⟨hq1, hq2⟩ := hq
      exact ⟨hq1, rfl, rfl, hq2⟩, s2, s3, s4⟩⟩
  | 2, _ =>
    obtain ⟨x, left, e1, hres, hx, _⟩ := stepInt bs e0 hB
    obtain ⟨s1, s2, s3, s4⟩ := (leavesNum _ bs hB).res hB hres
    exact (get2 r v bs left e0 e1 on n x hres hB w h hrb).mono fun e w' hp => ⟨_, _, _, left, e1, hp, ⟨fun q => by
      have hq := s1 q
      simp only [Value.int.injEq, true_and] at hq
      obtain ⟨hq1, hq2⟩ := hq
      exact ⟨by rw [hq1]; exact wrapU0, rfl, rfl, hq2⟩, s2, s3, s4⟩⟩
  | 3, _ =>
    obtain ⟨x, left, e1, hres, hx, _⟩ := stepWord bs e0 hB
    obtain ⟨s1, s2, s3, s4⟩ := (leavesWord bs hB).res hB hres
    exact (get3 r v bs left e0 e1 on n (x : Int) hres hB w h hrb).mono fun e w' hp => ⟨_, _, _, left, e1, hp, ⟨fun q => by
      have hq := s1 q
      simp only [Value.int.injEq, true_and] at hq
      obtain ⟨hq1, hq2⟩ := hq
      exact ⟨hq1, rfl, rfl, hq2⟩, s2, s3, s4⟩⟩
  | 4, _ =>
    obtain ⟨s, left, e1, hres, hx, _⟩ := stepText n bs e0 hB
    obtain ⟨s1, s2, s3, s4⟩ := (leavesText n bs hB).res hB hres
    exact (get4 r v bs left e0 e1 on n s hres hB hn w h hrb).mono fun e w' hp => ⟨_, _, _, left, e1, hp, ⟨fun q => by
      have hq := s1 q
      simp only [Value.string.injEq] at hq
      obtain ⟨hq1, hq2⟩ := hq
      exact ⟨rfl, hq1, rfl, hq2⟩, s2, s3, s4⟩⟩
  | 5, _ =>
    by_cases hbad : e0 ≠ 0 ∨ n < 0 ∨ (bs.length : Int) < n
    · exact (get5bad r v bs e0 on n w h hrb hbad).mono fun e w' hp => ⟨_, _, _, bs, _, hp, ⟨fun _ => ⟨rfl, rfl, rfl, rfl⟩, fun q => by unfold rawErr; rw [if_neg q], Nat.le_refl _, hB⟩⟩
    · have he : e0 = 0 := by
        rcases Classical.em (e0 = 0) with q | q
        · exact q
        · exact absurd (.inl q) hbad
      have hn0 : 0 ≤ n := by
        rcases Int.lt_or_le n 0 with q | q
        · exact absurd (.inr (.inl q)) hbad
        · exact q
      have hnl : n ≤ (bs.length : Int) := by
        rcases Int.lt_or_le (bs.length : Int) n with q | q
        · exact absurd (.inr (.inr q)) hbad
        · exact q
      subst he
      obtain ⟨m, rfl⟩ := Int.eq_ofNat_of_zero_le hn0
      refine (get5good r v bs on m w h hrb hB hl (by omega)).mono fun e w' hp => ?_
      obtain ⟨val, hp⟩ := hp
      exact ⟨_, _, _, bs.drop m, 0, hp, ⟨fun q => absurd rfl q, fun q => absurd rfl q, by rw [List.length_drop]; omega, hB.drop m⟩⟩
  | 6, _ =>
    obtain ⟨x, left, e1, hres⟩ := countShape n bs e0
    obtain ⟨s1, s2, s3, s4⟩ := (leavesMost _ n bs hB).res hB hres
    exact (get6 r v bs left e0 e1 on n x hres hB hn w h hrb).mono fun e w' hp => ⟨_, _, _, left, e1, hp, ⟨fun q => by
      have hq := s1 q
      simp only [Value.int.injEq, true_and] at hq
      obtain ⟨hq1, hq2⟩ := hq
      exact ⟨by rw [hq1]; exact wrapU0, rfl, rfl, hq2⟩, s2, s3, s4⟩⟩
end Go.Proofs.Ytnfinplkeefdgaa
