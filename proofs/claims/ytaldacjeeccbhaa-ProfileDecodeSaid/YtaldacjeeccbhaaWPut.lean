/-
  The document's forms, laid behind a row of one's own.
-/
import Derived.Test.YtaldacjeeccbhaaApart
import Derived.Test.YtaldacjeeccbhaaDigits
namespace Go.Proofs.Ytaldacjeeccbhaa
open Go.RowKit

/-- A row of one's own that has grown out of l0: no block but l0's is touched, and new ones. -/
structure RG (base : Nat) (l0 : Value) (w0 : World) (l : Value) (bs : List Int) (w : World) : Prop where
  own : w.ownsRow base 5 1 l bs.length (bs.map By)
  fr : Fr (fun b => l0.ownBlock = some b) w0 w
  at' : l.ownBlock = l0.ownBlock ∨ ∃ b, l.ownBlock = some b ∧ w0.heap.size ≤ b
theorem RG.start {base : Nat} {l0 : Value} {w0 : World} {bs : List Int} (h : w0.ownsRow base 5 1 l0 bs.length (bs.map By)) : RG base l0 w0 l0 bs w0 := ⟨h, Fr.refl _ _, .inl rfl⟩
theorem RG.step {base : Nat} {l0 : Value} {w0 : World} {l v' : Value} {bs : List Int} {w w2 : World} {o : Obj} {n : Nat} {xs : List Value} {z : Int} (h : RG base l0 w0 l bs w) (hown : w2.ownsRow base 5 1 v' n xs) (hn : n = bs.length + 1) (hx : xs = bs.map By ++ [.int .u8 z])
    (hg : (w.alloc o).grownBy w2 l.ownBlock) (hat : v'.ownBlock = l.ownBlock ∨ v'.ownBlock = some (w.heap.size + 1)) : RG base l0 w0 v' (bs ++ [z]) w2 := by
  subst hn hx
  have hs := h.fr.size
  refine ⟨by simpa [By] using hown, (h.fr.alloc o).grown hg (fun b e => ?_), ?_⟩
  · rcases h.at' with q | ⟨b2, q, hb2⟩
    · exact .inr (q.symm.trans e)
    · rw [q] at e
      simp only [Option.some.injEq] at e
      omega
  · rcases hat with q | q
    · rcases h.at' with r | ⟨b, r, hb⟩
      · exact .inl (q.trans r)
      · exact .inr ⟨b, q.trans r, hb⟩
    · exact .inr ⟨_, q, by omega⟩
/-- One growing behind the other. -/
theorem RG.trans {base : Nat} {l0 l1 l2 : Value} {w0 w1 w2 : World} {b1 b2 : List Int} (h : RG base l0 w0 l1 b1 w1) (k : RG base l1 w1 l2 b2 w2) : RG base l0 w0 l2 b2 w2 := by
  have hs := h.fr.size
  refine ⟨k.own, ⟨k.fr.os.trans h.fr.os, k.fr.tape.trans h.fr.tape, k.fr.output.trans h.fr.output, Nat.le_trans hs k.fr.size, fun i hi hn => ?_⟩, ?_⟩
  · refine (k.fr.block i (by omega) (fun e => ?_)).trans (h.fr.block i hi hn)
    rcases h.at' with q | ⟨b, q, hb⟩
    · exact hn (q.symm.trans e)
    · rw [q] at e
      simp only [Option.some.injEq] at e
      omega
  · rcases k.at' with q | ⟨b, q, hb⟩
    · rcases h.at' with r | ⟨b, r, hb⟩
      · exact .inl (q.trans r)
      · exact .inr ⟨b, q.trans r, hb⟩
    · exact .inr ⟨b, q, by omega⟩
theorem RG.alloc {base : Nat} {l0 l : Value} {w0 w : World} {bs : List Int} {o : Obj} (h : RG base l0 (w0.alloc o) l bs w) : RG base l0 w0 l bs w := by
  refine ⟨h.own, ⟨h.fr.os, h.fr.tape, h.fr.output, Nat.le_trans (by simp) h.fr.size, fun i hi hn => (h.fr.block i (by simp; omega) hn).trans (Below.heap_alloc _ _ _ hi)⟩, ?_⟩
  rcases h.at' with q | ⟨b, q, hb⟩
  · exact .inl q
  · exact .inr ⟨b, q, by simp at hb; omega⟩

set_option maxHeartbeats 1600000 in
set_option maxRecDepth 100000 in
theorem putUint_any (base : Nat) (l0 : Value) (bs : List Int) (x : Nat) (w : World) (h : w.ownsRow base 5 1 l0 bs.length (bs.map By)) (hbase : base ≤ w.heap.size) (hb : bs.length + 10 ≤ 140737488355328) (hx : x < 2 ^ 64) :
    Calls Try.prog 34 #[l0, .int .u64 (x : Int)] w fun e w' => ∃ l, e = .returned l ∧ RG base l0 w l (bs ++ Wm.uform 9 x) w' := by
  obtain ⟨i0, hi0, hz0, hz1, hz2⟩ := info_parts Try.info5
  have hS : Hid (Wm.UAt x x 9 []) := Wm.UAt.start x hx
  have hR0 : Hid (RG base l0 w l0 (bs ++ []) w) := RG.start (by rw [List.append_nil]; exact h)
  have hxle : x < 18446744073709551616 := by simpa using hx
  clear h hx
  go_enter Try.func34, Try.ntmps34
  go_wp2
  go_loopg [0, 1] 9 (fun k s0 s1 wr => ∃ (z : Nat) (done : List Int), s1 = .int .u64 (z : Int) ∧ z < 18446744073709551616 ∧ Hid (Wm.UAt x z k done) ∧ Hid (RG base l0 w s0 (bs ++ done) wr))
  case atStart => exact ⟨x, [], rfl, hxle, hS, hR0⟩
  case round =>
    obtain ⟨z, done, rfl, hz64, hU, hR⟩ := hrel
    have hl : Hid ((bs ++ done).length < 140737488355328) := by have := (unhide hU).len; rw [Hid, List.length_append]; omega
    obtain ⟨n, hn⟩ : ∃ n, Hid ((bs ++ done).length = n) := ⟨_, rfl⟩
    have hnl : n < 140737488355328 := by have := unhide hl; rw [unhide hn] at this; exact this
    have HO : Hid (wr.ownsRow base 5 1 u0 n ((bs ++ done).map By)) := by have := (unhide hR).own; rw [unhide hn] at this; exact this
    have hbs : Hid (base ≤ wr.heap.size) := Nat.le_trans hbase (unhide hR).fr.size
    by_cases hlt : 128 ≤ z
    · obtain ⟨m, hm, hN⟩ := (unhide hU).next hlt
      have HN := hide hN
      have Hm := hide hm
      clear hN hm
      have i1 : (128 : Int) ≤ (z : Int) := by omega
      have e1 : (z : Int).tmod 128 = ((z % 128 : Nat) : Int) := by rw [Int.tmod_eq_emod_of_nonneg (by omega)]; omega
      obtain ⟨r, hr⟩ : ∃ r, Hid (z % 128 = r) := ⟨_, rfl⟩
      rw [unhide hr] at e1
      have hr9 : r < 128 := by have := unhide hr; omega
      have e2 : IntKind.u64.wrap ((r : Int) + 128) = (r : Int) + 128 := by rw [IntKind.wrap_u64]; omega
      have e3 : IntKind.u8.wrap ((r : Int) + 128) = (r : Int) + 128 := by rw [IntKind.wrap_u8]; omega
      have e4 : (z : Int).tdiv 128 = ((z / 128 : Nat) : Int) := by rw [Int.tdiv_eq_ediv_of_nonneg (by omega)]; omega
      obtain ⟨d, hd⟩ : ∃ d, Hid (z / 128 = d) := ⟨_, rfl⟩
      rw [unhide hd] at e4
      have hd9 : d < 18446744073709551616 := by have := unhide hd; omega
      have e5 : IntKind.u64.wrap (d : Int) = (d : Int) := by rw [IntKind.wrap_u64]; omega
      go_wp2_with (first | (at_builtin; refine wpList_append_own_at _ rfl _ _ 33 rfl base 5 i0 (.int .u8 0) 1 1 Try.underlying33 hi0 hz0 hz1 hz2 rfl (by decide) _ _ _ rfl ((unhide HO).alloc _) ⟨wr.heap.size, 0, none⟩ 1 1 [.int .u8 ((r : Int) + 128)] rfl rfl (cell_one_new _ _ _) (by simp [Value.oneCell']) (by unfold maxLen; omega) (by omega) (by have := unhide hbs; simp; omega) ?_))
      intro v' w2 hown' hgrow hnil hat
      have HN2 : Hid (RG base l0 w v' (bs ++ done ++ [(r : Int) + 128]) w2) := (unhide hR).step hown' (by rw [unhide hn]) (by simp) hgrow hat
      clear hown' hgrow hnil hat
      go_wp2
      go_roundg m
      case measure => have := unhide Hm; omega
      case rel => exact ⟨d, done ++ [((z % 128 + 128 : Nat) : Int)], by go_num, hd9, by rw [← unhide hd]; exact HN, by rw [← List.append_assoc, unhide hr]; exact HN2⟩
    · have HD := hide ((unhide hU).done (by omega))
      have i1 : ¬ (128 : Int) ≤ (z : Int) := by omega
      have e3 : IntKind.u8.wrap (z : Int) = (z : Int) := by rw [IntKind.wrap_u8]; omega
      go_wp2_with (first | (at_builtin; refine wpList_append_own_at _ rfl _ _ 33 rfl base 5 i0 (.int .u8 0) 1 1 Try.underlying33 hi0 hz0 hz1 hz2 rfl (by decide) _ _ _ rfl ((unhide HO).alloc _) ⟨wr.heap.size, 0, none⟩ 1 1 [.int .u8 (z : Int)] rfl rfl (cell_one_new _ _ _) (by simp [Value.oneCell']) (by unfold maxLen; omega) (by omega) (by have := unhide hbs; simp; omega) ?_))
      intro v' w2 hown' hgrow hnil hat
      have HN2 : Hid (RG base l0 w v' (bs ++ done ++ [(z : Int)]) w2) := (unhide hR).step hown' (by rw [unhide hn]) (by simp) hgrow hat
      clear hown' hgrow hnil hat
      go_wp2
      go_ret
      exact ⟨v', rfl, by rw [← unhide HD, ← List.append_assoc]; exact unhide HN2⟩

set_option maxHeartbeats 1600000 in
set_option maxRecDepth 100000 in
theorem folded_any (n : Int) (w : World) (h0 : -9223372036854775808 ≤ n) (h1 : n ≤ 9223372036854775807) :
    Calls Try.prog 81 #[.int .i64 n] w fun e w' => e = .returned (.int .u64 (foldI n)) ∧ w' = w := by
  by_cases hn : 0 ≤ n
  · have e1 : IntKind.u64.wrap n = n := by rw [IntKind.wrap_u64]; omega
    have e2 : IntKind.u64.wrap (2 * n) = 2 * n := by rw [IntKind.wrap_u64]; omega
    have hf : Hid (foldI n = 2 * n) := by unfold Hid foldI; first | (rw [if_pos hn]) | (split <;> omega)
    clear h0 h1
    go_enter Try.func81, Try.ntmps81
    go_wp2
    go_ret
    exact ⟨by rw [unhide hf]; rfl, rfl⟩
  · have e0 : IntKind.i64.wrap (n + 1) = n + 1 := by rw [IntKind.wrap_i64]; omega
    have e00 : IntKind.i64.wrap (-(n + 1)) = -(n + 1) := by rw [IntKind.wrap_i64]; omega
    have e1 : IntKind.u64.wrap (-(n + 1)) = -(n + 1) := by rw [IntKind.wrap_u64]; omega
    have e2 : IntKind.u64.wrap (2 * -(n + 1)) = 2 * -(n + 1) := by rw [IntKind.wrap_u64]; omega
    have e3 : IntKind.u64.wrap (2 * -(n + 1) + 1) = 2 * -(n + 1) + 1 := by rw [IntKind.wrap_u64]; omega
    have hf : Hid (foldI n = 2 * -(n + 1) + 1) := by unfold Hid foldI; first | (rw [if_neg hn]; omega) | (split <;> omega)
    clear h0 h1
    go_enter Try.func81, Try.ntmps81
    go_wp2
    go_ret
    exact ⟨by rw [unhide hf]; rfl, rfl⟩

set_option maxHeartbeats 1600000 in
set_option maxRecDepth 100000 in
theorem putInt_any (base : Nat) (l0 : Value) (bs : List Int) (n : Int) (w : World) (h : w.ownsRow base 5 1 l0 bs.length (bs.map By)) (hbase : base ≤ w.heap.size) (hb : bs.length + 10 ≤ 140737488355328) (h0 : -9223372036854775808 ≤ n) (h1 : n ≤ 9223372036854775807) :
    Calls Try.prog 55 #[l0, .int .i64 n] w fun e w' => ∃ l, e = .returned l ∧ RG base l0 w l (bs ++ Wm.uform 9 (foldI n).toNat) w' := by
  have hbd := foldI_bd n h0 h1
  obtain ⟨m, hm⟩ := Int.eq_ofNat_of_zero_le hbd.1
  have hF := hide (fun w => folded_any n w h0 h1)
  rw [hm] at hF ⊢
  rw [Int.toNat_natCast]
  have hP := hide (putUint_any base l0 bs m w h hbase hb (by rw [hm] at hbd; simp only [Nat.reducePow]; omega))
  clear h hbd h0 h1 hm
  go_enter Try.func55, Try.ntmps55
  go_wp2_with fail
  refine (unhide hF _).mono ?_
  rintro e w1 ⟨rfl, hw1⟩
  subst hw1
  go_wp2_with fail
  refine (unhide hP).mono ?_
  rintro e w2 ⟨l, rfl, hR⟩
  have HR := hide hR
  clear hR
  go_wp2
  go_ret
  exact ⟨l, rfl, unhide HR⟩
end Go.Proofs.Ytaldacjeeccbhaa
