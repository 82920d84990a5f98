/-
  The document's bytes of a program.
-/
import Derived.Test.YtlogmdldjmkkjaaGreatDoorSh1
import Derived.Test.YtlogmdldjmkkjaaGreatDoorDigits
import Derived.Test.YtlogmdldjmkkjaaGreatDoorDOne
import Derived.Test.YtlogmdldjmkkjaaGreatDoorDOp
namespace Go.Proofs.YtlogmdldjmkkjaaGreatDoor
open Go.RowKit

/-- A row of one's own that has grown out of l0: no block but l0's is touched, and new ones. -/
structure RG (base : Nat) (l0 : Value) (w0 : World) (l : Value) (bs : List Int) (w : World) : Prop where
  own : w.ownsRow base 5 1 l bs.length (bs.map By)
  fr : Fr (fun b => l0.ownBlock = some b) w0 w
  at' : l.ownBlock = l0.ownBlock ∨ ∃ b, l.ownBlock = some b ∧ w0.heap.size ≤ b
theorem RG.start {base : Nat} {l0 : Value} {w0 : World} {bs : List Int} (h : w0.ownsRow base 5 1 l0 bs.length (bs.map By)) : RG base l0 w0 l0 bs w0 := ⟨h, Fr.refl _ _, .inl rfl⟩
theorem RG.step {base : Nat} {l0 : Value} {w0 : World} {l v' : Value} {bs : List Int} {w w2 : World} {o : Obj} {n : Nat} {xs : List Value} {z : Int} (h : RG base l0 w0 l bs w) (hown : w2.ownsRow base 5 1 v' n xs) (hn : n = bs.length + 1) (hx : xs = bs.map By ++ [.int .u8 z])
    (hg : (w.alloc o).grownBy w2 l.ownBlock) (hat : v'.ownBlock = l.ownBlock ∨ v'.ownBlock = some (w.heap.size + 1)) : RG base l0 w0 v' (bs ++ [z]) w2 := by
  subst hn hx
  have hs := h.fr.size
  refine ⟨by simpa [By] using hown, (h.fr.alloc o).grown hg (fun b e => ?_), ?_⟩
  · rcases h.at' with q | ⟨b2, q, hb2⟩
    · exact .inr (q.symm.trans e)
    · rw [q] at e
      simp only [Option.some.injEq] at e
      omega
  · rcases hat with q | q
    · rcases h.at' with r | ⟨b, r, hb⟩
      · exact .inl (q.trans r)
      · exact .inr ⟨b, q.trans r, hb⟩
    · exact .inr ⟨_, q, by omega⟩
/-- One growing behind the other. -/
theorem RG.trans {base : Nat} {l0 l1 l2 : Value} {w0 w1 w2 : World} {b1 b2 : List Int} (h : RG base l0 w0 l1 b1 w1) (k : RG base l1 w1 l2 b2 w2) : RG base l0 w0 l2 b2 w2 := by
  have hs := h.fr.size
  refine ⟨k.own, ⟨k.fr.os.trans h.fr.os, k.fr.tape.trans h.fr.tape, k.fr.output.trans h.fr.output, Nat.le_trans hs k.fr.size, fun i hi hn => ?_⟩, ?_⟩
  · refine (k.fr.block i (by omega) (fun e => ?_)).trans (h.fr.block i hi hn)
    rcases h.at' with q | ⟨b, q, hb⟩
    · exact hn (q.symm.trans e)
    · rw [q] at e
      simp only [Option.some.injEq] at e
      omega
  · rcases k.at' with q | ⟨b, q, hb⟩
    · rcases h.at' with r | ⟨b, r, hb⟩
      · exact .inl (q.trans r)
      · exact .inr ⟨b, q.trans r, hb⟩
    · exact .inr ⟨b, q, by omega⟩
theorem RG.alloc {base : Nat} {l0 l : Value} {w0 w : World} {bs : List Int} {o : Obj} (h : RG base l0 (w0.alloc o) l bs w) : RG base l0 w0 l bs w := by
  refine ⟨h.own, ⟨h.fr.os, h.fr.tape, h.fr.output, Nat.le_trans (by simp) h.fr.size, fun i hi hn => (h.fr.block i (by simp; omega) hn).trans (Below.heap_alloc _ _ _ hi)⟩, ?_⟩
  rcases h.at' with q | ⟨b, q, hb⟩
  · exact .inl q
  · exact .inr ⟨b, q, by simp at hb; omega⟩

set_option maxHeartbeats 1600000 in
set_option maxRecDepth 100000 in
theorem putUint_any (base : Nat) (l0 : Value) (bs : List Int) (x : Nat) (w : World) (h : w.ownsRow base 5 1 l0 bs.length (bs.map By)) (hbase : base ≤ w.heap.size) (hb : bs.length + 10 ≤ 140737488355328) (hx : x < 2 ^ 64) :
    Calls Tryz.prog 113 #[l0, .int .u64 (x : Int)] w fun e w' => ∃ l, e = .returned l ∧ RG base l0 w l (bs ++ Wm.uform 9 x) w' := by
  obtain ⟨i0, hi0, hz0, hz1, hz2⟩ := info_parts Tryz.info5
  have hS : Hid (Wm.UAt x x 9 []) := Wm.UAt.start x hx
  have hR0 : Hid (RG base l0 w l0 (bs ++ []) w) := RG.start (by rw [List.append_nil]; exact h)
  have hxle : x < 18446744073709551616 := by simpa using hx
  clear h hx
  go_enter Tryz.func113, Tryz.ntmps113
  go_wp2
  go_loopg [0, 1] 9 (fun k s0 s1 wr => ∃ (z : Nat) (done : List Int), s1 = .int .u64 (z : Int) ∧ z < 18446744073709551616 ∧ Hid (Wm.UAt x z k done) ∧ Hid (RG base l0 w s0 (bs ++ done) wr))
  case atStart => exact ⟨x, [], rfl, hxle, hS, hR0⟩
  case round =>
    obtain ⟨z, done, rfl, hz64, hU, hR⟩ := hrel
    have hl : Hid ((bs ++ done).length < 140737488355328) := by have := (unhide hU).len; rw [Hid, List.length_append]; omega
    obtain ⟨n, hn⟩ : ∃ n, Hid ((bs ++ done).length = n) := ⟨_, rfl⟩
    have hnl : n < 140737488355328 := by have := unhide hl; rw [unhide hn] at this; exact this
    have HO : Hid (wr.ownsRow base 5 1 u0 n ((bs ++ done).map By)) := by have := (unhide hR).own; rw [unhide hn] at this; exact this
    have hbs : Hid (base ≤ wr.heap.size) := Nat.le_trans hbase (unhide hR).fr.size
    by_cases hlt : 128 ≤ z
    · obtain ⟨m, hm, hN⟩ := (unhide hU).next hlt
      have HN := hide hN
      have Hm := hide hm
      clear hN hm
      have i1 : (128 : Int) ≤ (z : Int) := by omega
      have e1 : (z : Int).tmod 128 = ((z % 128 : Nat) : Int) := by rw [Int.tmod_eq_emod_of_nonneg (by omega)]; omega
      obtain ⟨r, hr⟩ : ∃ r, Hid (z % 128 = r) := ⟨_, rfl⟩
      rw [unhide hr] at e1
      have hr9 : r < 128 := by have := unhide hr; omega
      have e2 : IntKind.u64.wrap ((r : Int) + 128) = (r : Int) + 128 := by rw [IntKind.wrap_u64]; omega
      have e3 : IntKind.u8.wrap ((r : Int) + 128) = (r : Int) + 128 := by rw [IntKind.wrap_u8]; omega
      have e4 : (z : Int).tdiv 128 = ((z / 128 : Nat) : Int) := by rw [Int.tdiv_eq_ediv_of_nonneg (by omega)]; omega
      obtain ⟨d, hd⟩ : ∃ d, Hid (z / 128 = d) := ⟨_, rfl⟩
      rw [unhide hd] at e4
      have hd9 : d < 18446744073709551616 := by have := unhide hd; omega
      have e5 : IntKind.u64.wrap (d : Int) = (d : Int) := by rw [IntKind.wrap_u64]; omega
      go_wp2_with (first | (at_builtin; refine wpList_append_own_at _ rfl _ _ 27 rfl base 5 i0 (.int .u8 0) 1 1 Tryz.underlying27 hi0 hz0 hz1 hz2 rfl (by decide) _ _ _ rfl ((unhide HO).alloc _) ⟨wr.heap.size, 0, none⟩ 1 1 [.int .u8 ((r : Int) + 128)] rfl rfl (cell_one_new _ _ _) (by simp [Value.oneCell']) (by unfold maxLen; omega) (by omega) (by have := unhide hbs; simp; omega) ?_))
      intro v' w2 hown' hgrow hnil hat
      have HN2 : Hid (RG base l0 w v' (bs ++ done ++ [(r : Int) + 128]) w2) := (unhide hR).step hown' (by rw [unhide hn]) (by simp) hgrow hat
      clear hown' hgrow hnil hat
      go_wp2
      go_roundg m
      case measure => have := unhide Hm; omega
      case rel => exact ⟨d, done ++ [((z % 128 + 128 : Nat) : Int)], by go_num, hd9, by rw [← unhide hd]; exact HN, by rw [← List.append_assoc, unhide hr]; exact HN2⟩
    · have HD := hide ((unhide hU).done (by omega))
      have i1 : ¬ (128 : Int) ≤ (z : Int) := by omega
      have e3 : IntKind.u8.wrap (z : Int) = (z : Int) := by rw [IntKind.wrap_u8]; omega
      go_wp2_with (first | (at_builtin; refine wpList_append_own_at _ rfl _ _ 27 rfl base 5 i0 (.int .u8 0) 1 1 Tryz.underlying27 hi0 hz0 hz1 hz2 rfl (by decide) _ _ _ rfl ((unhide HO).alloc _) ⟨wr.heap.size, 0, none⟩ 1 1 [.int .u8 (z : Int)] rfl rfl (cell_one_new _ _ _) (by simp [Value.oneCell']) (by unfold maxLen; omega) (by omega) (by have := unhide hbs; simp; omega) ?_))
      intro v' w2 hown' hgrow hnil hat
      have HN2 : Hid (RG base l0 w v' (bs ++ done ++ [(z : Int)]) w2) := (unhide hR).step hown' (by rw [unhide hn]) (by simp) hgrow hat
      clear hown' hgrow hnil hat
      go_wp2
      go_ret
      exact ⟨v', rfl, by rw [← unhide HD, ← List.append_assoc]; exact unhide HN2⟩

set_option maxHeartbeats 1600000 in
set_option maxRecDepth 100000 in
theorem folded_any (n : Int) (w : World) (h0 : -9223372036854775808 ≤ n) (h1 : n ≤ 9223372036854775807) :
    Calls Tryz.prog 194 #[.int .i64 n] w fun e w' => e = .returned (.int .u64 (foldI n)) ∧ w' = w := by
  by_cases hn : 0 ≤ n
  · have e1 : IntKind.u64.wrap n = n := by rw [IntKind.wrap_u64]; omega
    have e2 : IntKind.u64.wrap (2 * n) = 2 * n := by rw [IntKind.wrap_u64]; omega
    have hf : Hid (foldI n = 2 * n) := by unfold Hid foldI; first | (rw [if_pos hn]) | (split <;> omega)
    clear h0 h1
    go_enter Tryz.func194, Tryz.ntmps194
    go_wp2
    go_ret
    exact ⟨by rw [unhide hf]; rfl, rfl⟩
  · have e0 : IntKind.i64.wrap (n + 1) = n + 1 := by rw [IntKind.wrap_i64]; omega
    have e00 : IntKind.i64.wrap (-(n + 1)) = -(n + 1) := by rw [IntKind.wrap_i64]; omega
    have e1 : IntKind.u64.wrap (-(n + 1)) = -(n + 1) := by rw [IntKind.wrap_u64]; omega
    have e2 : IntKind.u64.wrap (2 * -(n + 1)) = 2 * -(n + 1) := by rw [IntKind.wrap_u64]; omega
    have e3 : IntKind.u64.wrap (2 * -(n + 1) + 1) = 2 * -(n + 1) + 1 := by rw [IntKind.wrap_u64]; omega
    have hf : Hid (foldI n = 2 * -(n + 1) + 1) := by unfold Hid foldI; first | (rw [if_neg hn]; omega) | (split <;> omega)
    clear h0 h1
    go_enter Tryz.func194, Tryz.ntmps194
    go_wp2
    go_ret
    exact ⟨by rw [unhide hf]; rfl, rfl⟩

set_option maxHeartbeats 1600000 in
set_option maxRecDepth 100000 in
theorem putInt_any (base : Nat) (l0 : Value) (bs : List Int) (n : Int) (w : World) (h : w.ownsRow base 5 1 l0 bs.length (bs.map By)) (hbase : base ≤ w.heap.size) (hb : bs.length + 10 ≤ 140737488355328) (h0 : -9223372036854775808 ≤ n) (h1 : n ≤ 9223372036854775807) :
    Calls Tryz.prog 155 #[l0, .int .i64 n] w fun e w' => ∃ l, e = .returned l ∧ RG base l0 w l (bs ++ Wm.uform 9 (foldI n).toNat) w' := by
  have hbd := foldI_bd n h0 h1
  obtain ⟨m, hm⟩ := Int.eq_ofNat_of_zero_le hbd.1
  have hF := hide (fun w => folded_any n w h0 h1)
  rw [hm] at hF ⊢
  rw [Int.toNat_natCast]
  have hP := hide (putUint_any base l0 bs m w h hbase hb (by rw [hm] at hbd; simp only [Nat.reducePow]; omega))
  clear h hbd h0 h1 hm
  go_enter Tryz.func155, Tryz.ntmps155
  go_wp2_with fail
  refine (unhide hF _).mono ?_
  rintro e w1 ⟨rfl, hw1⟩
  subst hw1
  go_wp2_with fail
  refine (unhide hP).mono ?_
  rintro e w2 ⟨l, rfl, hR⟩
  have HR := hide hR
  clear hR
  go_wp2
  go_ret
  exact ⟨l, rfl, unhide HR⟩

theorem take_getD1 (bs : List Int) (j : Nat) (hj : j < bs.length) : bs.take (j + 1) = bs.take j ++ [bs.getD j 0] := by
  rw [List.take_add_one]; simp [List.getD, hj]

set_option maxHeartbeats 1600000 in
set_option maxRecDepth 100000 in
theorem putWord_any (base : Nat) (l0 : Value) (bs : List Int) (x : Nat) (w : World) (h : w.ownsRow base 5 1 l0 bs.length (bs.map By)) (hbase : base ≤ w.heap.size) (hb : bs.length + 10 ≤ 140737488355328) :
    Calls Tryz.prog 66 #[l0, .int .u64 (x : Int)] w fun e w' => ∃ l, e = .returned l ∧ RG base l0 w l (bs ++ wpre x 8) w' := by
  obtain ⟨i0, hi0, hz0, hz1, hz2⟩ := info_parts Tryz.info5
  have hsg : IntKind.u64.signed = false := rfl
  have hR0 : Hid (RG base l0 w l0 (bs ++ wpre x 0) w) := RG.start (by rw [show wpre x 0 = [] from rfl, List.append_nil]; exact h)
  clear h
  go_enter Tryz.func66, Tryz.ntmps66
  go_wp2
  go_loopg [0, 5] 8 (fun k s0 s5 wr => ∃ (j : Nat), Hid (j + k = 8) ∧ j ≤ 8 ∧ s5 = .int .i64 (j : Int) ∧ Hid (RG base l0 w s0 (bs ++ wpre x j) wr))
  case atStart => exact ⟨0, by unfold Hid; omega, by omega, rfl, hR0⟩
  case round =>
    obtain ⟨j, hj, hj8, rfl, hR⟩ := hrel
    have hbs : Hid (base ≤ wr.heap.size) := Nat.le_trans hbase (unhide hR).fr.size
    by_cases hlt : j < 8
    · have i1 : (j : Int) < 8 := by omega
      obtain ⟨n, hn⟩ : ∃ n, Hid ((bs ++ wpre x j).length = n) := ⟨_, rfl⟩
      have hnl : n < 140737488355328 := by have h := unhide hn; rw [List.length_append, wpre_length] at h; omega
      have HO : Hid (wr.ownsRow base 5 1 u0 n ((bs ++ wpre x j).map By)) := by have := (unhide hR).own; rw [unhide hn] at this; exact this
      have e1 : IntKind.i64.wrap (8 * (j : Int)) = 8 * (j : Int) := by rw [IntKind.wrap_i64]; omega
      have e2 : IntKind.i64.wrap (56 - 8 * (j : Int)) = ((56 - 8 * j : Nat) : Int) := by rw [IntKind.wrap_i64]; omega
      obtain ⟨sh, hsh⟩ : ∃ sh, Hid (56 - 8 * j = sh) := ⟨_, rfl⟩
      rw [unhide hsh] at e2
      have hs56 : sh ≤ 56 := by have := unhide hsh; omega
      have e3 : ∀ k : IntKind, k.signed = false → k.bits = 64 → k.wrap (sh : Int) = (sh : Int) := fun k h1 h2 => by simp [IntKind.wrap, h1, h2]; omega
      go_wp2_with (first | (at_builtin; refine wpList_append_own_at _ rfl _ _ 27 rfl base 5 i0 (.int .u8 0) 1 1 Tryz.underlying27 hi0 hz0 hz1 hz2 rfl (by decide) _ _ _ rfl ((unhide HO).alloc _) ⟨wr.heap.size, 0, none⟩ 1 1 [.int .u8 ((x : Int) / 2 ^ sh % 256)] rfl rfl (cell_one_new _ _ _) (by simp [Value.oneCell']) (by unfold maxLen; omega) (by omega) (by have := unhide hbs; simp; omega) ?_))
      intro v' w2 hown' hgrow hnil hat
      have HN2 : Hid (RG base l0 w v' (bs ++ wpre x j ++ [(x : Int) / 2 ^ sh % 256]) w2) := (unhide hR).step hown' (by rw [unhide hn]) (by simp) hgrow hat
      have hw8 : Hid (bs ++ wpre x j ++ [(x : Int) / 2 ^ sh % 256] = bs ++ wpre x (j + 1)) := by rw [Hid, castbyte, wpre_succ, unhide hsh, List.append_assoc]
      clear hown' hgrow hnil hat
      go_wp2
      go_roundg (gk - 1)
      case measure => have := unhide hj; omega
      case rel => exact ⟨j + 1, by have := unhide hj; unfold Hid; omega, by omega, by go_num, by rw [← unhide hw8]; exact HN2⟩
    · obtain rfl : j = 8 := by omega
      have i1 : ¬ ((8 : Nat) : Int) < 8 := by omega
      go_wp2
      go_ret
      exact ⟨_, rfl, unhide hR⟩

theorem str_at (s : ByteArray) (i : Nat) (h : i < s.size) : ((s[i]'h).toNat : Int) = (strI s).getD i 0 := by
  have h2 : i < s.data.toList.length := by rw [Array.length_toList]; exact h
  rw [strI, List.getD_eq_getElem?_getD, List.getElem?_map, List.getElem?_eq_getElem h2]
  rfl

set_option maxHeartbeats 1600000 in
set_option maxRecDepth 100000 in
theorem putBytes_any (base : Nat) (l0 vb : Value) (bs B : List Int) (w : World) (h : w.ownsRow base 5 1 l0 bs.length (bs.map By)) (hbase : base ≤ w.heap.size) (hR1 : Rd w vb B) (hap : ∀ b off n c, vb = .slice (some ⟨b, off, none⟩) n c → l0.ownBlock ≠ some b) (hb : bs.length + B.length ≤ 140737488355328) :
    Calls Tryz.prog 69 #[l0, vb] w fun e w' => ∃ l, e = .returned l ∧ RG base l0 w l (bs ++ B) w' := by
  obtain ⟨i0, hi0, hz0, hz1, hz2⟩ := info_parts Tryz.info5
  have hR0 : Hid (RG base l0 w l0 (bs ++ B.take 0) w) := RG.start (by rw [List.take_zero, List.append_nil]; exact h)
  obtain ⟨a, cap, rfl⟩ := hR1.shapeR
  have HB := hide hR1
  have HAP := hide hap
  obtain ⟨N, hNN⟩ : ∃ N, Hid (B.length = N) := ⟨_, rfl⟩
  rw [unhide hNN] at hb HB HAP ⊢
  clear h hR1 hap
  go_enter Tryz.func69, Tryz.ntmps69
  go_wp2
  go_loopg [0, 5] N (fun k s0 s5 wr => ∃ (j : Nat), Hid (j + k = N) ∧ j ≤ N ∧ s5 = .int .i64 (j : Int) ∧ Hid (RG base l0 w s0 (bs ++ B.take j) wr))
  case atStart => exact ⟨0, by unfold Hid; omega, by omega, rfl, hR0⟩
  case round =>
    obtain ⟨j, hj, hjN, rfl, hR⟩ := hrel
    have hbs : Hid (base ≤ wr.heap.size) := Nat.le_trans hbase (unhide hR).fr.size
    by_cases hlt : j < N
    · have i0' : (0 : Int) ≤ (j : Int) := by omega
      have i1 : (j : Int) < (N : Int) := by omega
      obtain ⟨cb, co, rfl, hcb, hc⟩ := (unhide HB).at j (by rw [unhide hNN]; exact hlt)
      have hcell := ((unhide hR).fr.cell (a := ⟨cb, co + j, none⟩) hcb (unhide HAP cb co _ _ rfl)).trans hc
      have htk := hide (take_getD1 B j (by rw [unhide hNN]; exact hlt))
      generalize B.getD j 0 = z at *
      obtain ⟨n, hn⟩ : ∃ n, Hid ((bs ++ B.take j).length = n) := ⟨_, rfl⟩
      have hnl : n < 140737488355328 := by have h := unhide hn; rw [List.length_append, List.length_take, unhide hNN] at h; omega
      have HO : Hid (wr.ownsRow base 5 1 u0 n ((bs ++ B.take j).map By)) := by have := (unhide hR).own; rw [unhide hn] at this; exact this
      clear hc
      go_wp2_with (first | (at_builtin; refine wpList_append_own_at _ rfl _ _ 27 rfl base 5 i0 (.int .u8 0) 1 1 Tryz.underlying27 hi0 hz0 hz1 hz2 rfl (by decide) _ _ _ rfl ((unhide HO).alloc _) ⟨wr.heap.size, 0, none⟩ 1 1 [.int .u8 z] rfl rfl (cell_one_new _ _ _) (by simp [Value.oneCell']) (by unfold maxLen; omega) (by omega) (by have := unhide hbs; simp; omega) ?_))
      intro v' w2 hown' hgrow hnil hat
      have HN2 : Hid (RG base l0 w v' (bs ++ B.take j ++ [z]) w2) := (unhide hR).step hown' (by rw [unhide hn]) (by simp) hgrow hat
      clear hown' hgrow hnil hat
      go_wp2
      go_roundg (gk - 1)
      case measure => have := unhide hj; omega
      case rel => exact ⟨j + 1, by have := unhide hj; unfold Hid; omega, by omega, by go_num, by rw [unhide htk, ← List.append_assoc]; exact HN2⟩
    · obtain rfl : j = N := by omega
      have i1 : ¬ (j : Int) < (j : Int) := by omega
      go_wp2
      go_ret
      refine ⟨_, rfl, ?_⟩
      have h := unhide hR
      rw [List.take_of_length_le (by rw [unhide hNN]; exact Nat.le_refl _)] at h
      exact h


set_option maxHeartbeats 1600000 in
set_option maxRecDepth 100000 in
theorem putText_any (base : Nat) (l0 : Value) (bs : List Int) (s : ByteArray) (w : World) (h : w.ownsRow base 5 1 l0 bs.length (bs.map By)) (hbase : base ≤ w.heap.size) (hb : bs.length + 10 + s.size ≤ 140737488355328) :
    Calls Tryz.prog 67 #[l0, .string s] w fun e w' => ∃ l, e = .returned l ∧ RG base l0 w l (bs ++ (Wm.uform 9 s.size ++ strI s)) w' := by
  obtain ⟨i0, hi0, hz0, hz1, hz2⟩ := info_parts Tryz.info5
  have hlI := hide (strI_length s)
  have hix := hide (str_at s)
  have hU := hide (putUint_any base l0 bs s.size w h hbase (by omega) (by simp only [Nat.reducePow]; omega))
  have e0 : IntKind.u64.wrap (s.size : Int) = (s.size : Int) := by rw [IntKind.wrap_u64]; omega
  have hul : Hid ((Wm.uform 9 s.size).length ≤ 10) := by rw [Hid, Wm.uform_length]; have := (Wm.ulen_bd 9 s.size).2; omega
  clear h
  go_enter Tryz.func67, Tryz.ntmps67
  go_wp2_with fail
  refine (unhide hU).mono ?_
  rintro e w1 ⟨l1, rfl, hR1⟩
  have hR0 : Hid (RG base l0 w l1 (bs ++ Wm.uform 9 s.size ++ (strI s).take 0) w1) := by rw [Hid, List.take_zero, List.append_nil]; exact hR1
  obtain ⟨C, hC⟩ : ∃ C, Hid (bs ++ Wm.uform 9 s.size = C) := ⟨_, rfl⟩
  have hCl : Hid (C.length + s.size ≤ 140737488355328) := by have := unhide hul; rw [Hid, ← unhide hC, List.length_append]; omega
  rw [unhide hC] at hR0
  clear hU hR1
  go_wp2
  go_loopg [0, 5] s.size (fun k s0 s5 wr => ∃ (j : Nat), Hid (j + k = s.size) ∧ j ≤ s.size ∧ s5 = .int .i64 (j : Int) ∧ Hid (RG base l0 w s0 (C ++ (strI s).take j) wr))
  case atStart => exact ⟨0, by unfold Hid; omega, by omega, rfl, hR0⟩
  case round =>
    obtain ⟨j, hj, hjN, rfl, hR⟩ := hrel
    have hbs : Hid (base ≤ wr.heap.size) := Nat.le_trans hbase (unhide hR).fr.size
    by_cases hlt : j < s.size
    · have i0' : (0 : Int) ≤ (j : Int) := by omega
      have i1 : (j : Int) < (s.size : Int) := by omega
      have hgz := unhide hix j hlt
      have htk := hide (take_getD1 (strI s) j (by rw [unhide hlI]; exact hlt))
      generalize (strI s).getD j 0 = z at *
      obtain ⟨n, hn⟩ : ∃ n, Hid ((C ++ (strI s).take j).length = n) := ⟨_, rfl⟩
      have hnl : n < 140737488355328 := by have h := unhide hn; have := unhide hCl; rw [List.length_append, List.length_take, unhide hlI] at h; omega
      have HO : Hid (wr.ownsRow base 5 1 u0 n ((C ++ (strI s).take j).map By)) := by have := (unhide hR).own; rw [unhide hn] at this; exact this
      go_wp2_with (first | (at_builtin; refine wpList_append_own_at _ rfl _ _ 27 rfl base 5 i0 (.int .u8 0) 1 1 Tryz.underlying27 hi0 hz0 hz1 hz2 rfl (by decide) _ _ _ rfl ((unhide HO).alloc _) ⟨wr.heap.size, 0, none⟩ 1 1 [.int .u8 z] rfl rfl (cell_one_new _ _ _) (by simp [Value.oneCell']) (by unfold maxLen; omega) (by omega) (by have := unhide hbs; simp; omega) ?_))
      intro v' w2 hown' hgrow hnil hat
      have HN2 : Hid (RG base l0 w v' (C ++ (strI s).take j ++ [z]) w2) := (unhide hR).step hown' (by rw [unhide hn]) (by simp) hgrow hat
      clear hown' hgrow hnil hat
      go_wp2
      go_roundg (gk - 1)
      case measure => have := unhide hj; omega
      case rel => exact ⟨j + 1, by have := unhide hj; unfold Hid; omega, by omega, by go_num, by rw [unhide htk, ← List.append_assoc]; exact HN2⟩
    · have hje : s.size = j := by omega
      have i1 : ¬ (j : Int) < (s.size : Int) := by omega
      have hfin : Hid (RG base l0 w u0 (bs ++ (Wm.uform 9 s.size ++ strI s)) wr) := by
        have h := unhide hR
        rw [List.take_of_length_le (by rw [unhide hlI]; omega), ← unhide hC, List.append_assoc] at h
        exact h
      clear hje
      go_wp2
      go_ret
      exact ⟨_, rfl, unhide hfin⟩

set_option linter.unusedVariables false
set_option linter.unusedSimpArgs false
set_option maxRecDepth 100000
theorem toStr_strI (s : ByteArray) : toStr (strI s) = s := by
  unfold toStr strI
  rw [List.map_map]
  have e : ((fun b : Int => UInt8.ofNat b.toNat) ∘ fun b : UInt8 => (b.toNat : Int)) = id := by
    funext b
    simp
  rw [e, List.map_id]

theorem wnum_append (a b : List Int) (acc : Nat) : wnum acc (a ++ b) = wnum (wnum acc a) b := by
  induction a generalizing acc with
  | nil => rfl
  | cons z r ih => rw [List.cons_append, wnum, wnum, ih]

theorem wnum_wpre_at (x : Nat) (hx : x < 2 ^ 64) : ∀ j, j ≤ 8 → wnum 0 (wpre x j) = x / 2 ^ (64 - 8 * j) := by
  intro j
  induction j with
  | zero =>
    intro _
    rw [show wpre x 0 = [] from rfl, wnum]
    exact (Nat.div_eq_of_lt (by simpa using hx)).symm
  | succ j ih =>
    intro hj
    rw [wpre_succ, wnum_append, ih (by omega), wnum, wnum]
    rw [show 64 - 8 * j = (56 - 8 * j) + 8 from by omega, show 64 - 8 * (j + 1) = 56 - 8 * j from by omega, Nat.pow_add, ← Nat.div_div_eq_div_mul]
    rw [Int.toNat_natCast]
    omega

theorem wnum_wpre (x : Nat) (hx : x < 2 ^ 64) : wnum 0 (wpre x 8) = x := by
  rw [wnum_wpre_at x hx 8 (Nat.le_refl _)]
  simp
/-- A reading that takes the form of a thing, and answers it. -/
def Bkr {T : Type} (f : Sr → T × Sr) (fm : List Int) (x : T) : Prop := ∀ t : List Int, f (fm ++ t, 0) = (x, (t, 0))
def Bkr3 {T : Type} (f : Sr → T × Int × Sr) (fm : List Int) (x : T) : Prop := ∀ t : List Int, f (fm ++ t, 0) = (x, 0, (t, 0))
theorem unumMost_back {most : Int} {x : Nat} (h : (x : Int) ≤ most) (hx : x < 2 ^ 64) (t : List Int) : unumMost most (Wm.uform 9 x ++ t) = .ok (x, t) := by
  unfold unumMost
  rw [unum_form x t hx]
  simp only
  rw [if_neg (by omega)]
theorem cnt_back {most n : Int} (h0 : 0 ≤ n) (h1 : n ≤ most) (h2 : most < 9223372036854775808) : Bkr (cnt most) (ufm n) n.toNat := by
  intro t
  unfold cnt ufm
  simp only [if_true]
  rw [unumMost_back (by omega) (by omega)]
theorem txt_back {most : Int} {s : ByteArray} (h1 : (s.size : Int) ≤ most) (h2 : most < 9223372036854775808) : Bkr (txt most) (Wm.uform 9 s.size ++ strI s) s := by
  intro t
  unfold txt
  simp only [if_true, List.append_assoc]
  rw [unumMost_back h1 (by omega)]
  simp only
  rw [if_neg (by rw [List.length_append, strI_length]; omega), ← strI_length s, List.take_left, List.drop_left, toStr_strI]
theorem wrd_back {x : Nat} (h : x < 2 ^ 64) : Bkr wrd (wpre x 8) x := by
  intro t
  unfold wrd
  have hl := wpre_length x 8
  simp only [if_true]
  rw [if_neg (by rw [List.length_append, hl]; omega)]
  have e1 : (wpre x 8 ++ t).take 8 = wpre x 8 := List.take_left' hl
  have e2 : (wpre x 8 ++ t).drop 8 = t := List.drop_left' hl
  rw [e1, e2, wnum_wpre x h]
theorem raw_back (b : List Int) : Bkr (raw b.length) b b := by
  intro t
  unfold raw
  simp only [if_true]
  rw [if_neg (by rw [List.length_append]; omega), List.take_left, List.drop_left]
/-- A handler that stands in a function of at most two thousand instructions. -/
def OkH (h : Hd) : Prop := (0 ≤ h.frm ∧ h.frm ≤ 2000) ∧ (0 ≤ h.to ∧ h.to ≤ 2000) ∧ (0 ≤ h.target ∧ h.target ≤ 2000) ∧ (0 ≤ h.height ∧ h.height ≤ 64)
theorem rdH1_back {h : Hd} (k : OkH h) : Bkr3 rdH1 (hfm h) h := by
  obtain ⟨⟨a1, a2⟩, ⟨b1, b2⟩, ⟨c1, c2⟩, d1, d2⟩ := k
  intro t
  unfold rdH1 rdH hfm
  simp only [List.append_assoc]
  rw [cnt_back a1 a2 (by decide)]
  simp only
  rw [cnt_back b1 b2 (by decide)]
  simp only
  rw [cnt_back c1 c2 (by decide)]
  simp only
  rw [cnt_back d1 d2 (by decide)]
  simp only
  congr 1
  cases h
  simp only [Hd.mk.injEq] at *
  omega
theorem lp_back {T : Type} {rd : Sr → T × Int × Sr} {fm : T → List Int} : ∀ (l acc : List T) (t : List Int), (∀ x ∈ l, Bkr3 rd (fm x) x) → lp rd l.length acc (l.flatMap fm ++ t, 0) = (acc ++ l, 0, (t, 0))
  | [], acc, t, _ => by simp [lp]
  | x :: r, acc, t, h => by
    rw [List.length_cons, lp, List.flatMap_cons, List.append_assoc, h x (List.mem_cons_self ..)]
    simp only [ne_eq, not_true_eq_false, if_false]
    rw [lp_back r (acc ++ [x]) t (fun y hy => h y (List.mem_cons_of_mem _ hy)), List.append_assoc]
    rfl
theorem rdL_back {T : Type} {rd : Sr → T × Int × Sr} {fm : T → List Int} {most : Int} (l : List T) (h : ∀ x ∈ l, Bkr3 rd (fm x) x) (hl : (l.length : Int) ≤ most) (h2 : most < 9223372036854775808) : Bkr3 (rdL rd most) (lfm fm l) l := by
  intro t
  unfold rdL lfm
  rw [List.append_assoc, cnt_back (by omega) hl h2]
  simp only
  rw [show ((l.length : Int)).toNat = l.length by omega, lp_back l [] t h, List.nil_append]
theorem isEmpty_ba {s : ByteArray} (h : s.toList.isEmpty = true) : s = ByteArray.empty := by
  have h1 : s.toList = [] := by simpa using h
  rw [ByteArray.toList_eq] at h1
  cases hs : s with
  | mk d =>
    rw [hs] at h1
    have : d = #[] := by simpa using h1
    rw [this]
    rfl
theorem rdC_back {c : Cn} (h : rfB c = true) (ht : c.text.size ≤ 4096) (hn : I64 c.n) : Bkr3 rdC (cfm c) c ∧ NnC c := by
  obtain ⟨k, n, s⟩ := c
  simp only at ht hn
  unfold rfB at h
  by_cases h3 : k = 3
  · subst h3
    simp only [if_true] at h
    have he := isEmpty_ba (s := s) (by simp at h; simpa using h.1)
    subst he
    refine ⟨fun t => ?_, .inl rfl, by simp, hn⟩
    unfold cfm
    simp only [if_true]
    have hw : (IntKind.u64.wrap n).toNat < 2 ^ 64 := by rw [wrap_u]; unfold I64 at hn; omega
    have hb : ∀ u : List Int, byt (3 :: u, 0) = (3, (u, 0)) := fun u => by unfold byt; rfl
    unfold rdC
    rw [List.cons_append, hb]
    simp only [if_true]
    rw [wrd_back hw]
    simp only
    have : wrap64 ((IntKind.u64.wrap n).toNat : Int) = n := by
      rw [wrap_u]; unfold wrap64; unfold I64 at hn; omega
    rw [this]
  · simp only [if_neg h3] at h
    by_cases h4 : k = 4
    · subst h4
      simp only [if_true, decide_eq_true_eq] at h
      subst h
      refine ⟨fun t => ?_, .inr rfl, ht, hn⟩
      unfold cfm
      simp only [if_neg (show ¬ (4 : Int) = 3 by decide)]
      have hb : ∀ u : List Int, byt (4 :: u, 0) = (4, (u, 0)) := fun u => by unfold byt; rfl
      unfold rdC
      rw [List.cons_append, hb]
      simp only [if_neg (show ¬ (4 : Int) = 3 by decide), if_true]
      rw [txt_back (by omega) (by decide)]
    · simp [if_neg h4] at h
/-- What is known of a function of a right program. -/
def OkFb (f : Fc) : Prop := f.name.size ≤ 32 ∧ (0 ≤ f.params ∧ f.params ≤ 64) ∧ (0 ≤ f.locals ∧ f.locals ≤ 64) ∧ encE f.code = 0 ∧ 0 < f.code.length ∧ (∀ q ∈ f.code, I64 q.1 ∧ I64 q.2) ∧ (∀ x ∈ f.hs, OkH x) ∧ f.hs.length ≤ 32
theorem OkFb.nn {f : Fc} (h : OkFb f) : NnF f := by
  obtain ⟨a1, a2, a3, a4, a5, a6, a7, a8⟩ := h
  refine ⟨a1, by omega, by omega, (encE_ok a4).1, a6, fun x hx => ?_, a8, ?_⟩
  · obtain ⟨b1, b2, b3, b4⟩ := a7 x hx
    unfold NnH
    omega
  · rw [encB_ok a4]
    cases hc : f.code with
    | nil => rw [hc] at a5; simp at a5
    | cons q r => simp [efm, ifm]
theorem rdF_back {f : Fc} (h : OkFb f) : Bkr3 rdF (ffm f) f := by
  obtain ⟨a1, ⟨a2, a3⟩, ⟨a4, a5⟩, a6, a7, a8, a9, a10⟩ := h
  intro t
  have hd := dec_back a8 a6
  have hl := encB_lenW f.code
  have h0 : rdF0 (ffm f ++ t, 0) = ((f.name, f.params.toNat, f.locals.toNat, encB f.code), (lfm hfm f.hs ++ t, 0)) := by
    unfold rdF0 ffm
    simp only [List.append_assoc]
    rw [← List.append_assoc (Wm.uform 9 f.name.size), txt_back (by omega) (by decide)]
    simp only
    rw [cnt_back a2 a3 (by decide)]
    simp only
    rw [cnt_back a4 a5 (by decide)]
    simp only
    rw [cnt_back (by omega) (by omega) (by decide)]
    simp only
    rw [show (((encB f.code).length : Int)).toNat = (encB f.code).length by omega, raw_back]
  unfold rdF
  rw [h0]
  simp only
  rw [hd]
  simp only [errOf, lstOf, ne_eq, not_true_eq_false, if_false]
  rw [rdL_back f.hs (fun x hx => rdH1_back (a9 x hx)) (by omega) (by decide) t]
  simp only
  congr 1
  cases f
  simp only [Fc.mk.injEq] at *
  refine ⟨trivial, by omega, by omega, trivial, trivial⟩
/-- What is known of the numbers of a program in memory. -/
def NumP (p : Pg) : Prop := (∀ c ∈ p.consts, I64 c.n) ∧ ∀ f ∈ p.funcs, ∀ q ∈ f.code, I64 q.1 ∧ I64 q.2
theorem okFb_of {p : Pg} (hck : ckF p = none) (hn : NumP p) : ∀ f ∈ p.funcs, OkFb f := by
  intro f hf
  obtain ⟨i, hi⟩ := List.getElem?_of_mem hf
  have hfn := (ckF_none.1 hck).2.2.2 i f hi
  obtain ⟨k1, k2, k3, k4⟩ := fnF_none.1 hfn
  obtain ⟨_, n2, _⟩ := nmF_none.1 k1
  obtain ⟨s1, s2, _, s4, s5, s6⟩ := szF_none.1 k2
  have hc := cdF_none.1 k3
  obtain ⟨g1, g2⟩ := hsF_none.1 k4
  refine ⟨n2, by omega, by omega, encE_of s6 ?_, s5, hn.2 f hf, fun x hx => ?_, g1⟩
  · unfold okL
    rw [List.all_eq_true]
    intro q hq
    obtain ⟨j, hj⟩ := List.getElem?_of_mem hq
    have := (hc j q hj).1
    unfold erN at this
    by_cases e : okB q.1 q.2 = true
    · exact e
    · rw [if_neg e] at this; exact absurd this (by decide)
  · obtain ⟨j, hj⟩ := List.getElem?_of_mem hx
    have := g2 j x hj
    unfold fitB at this
    simp only [decide_eq_true_eq] at this
    unfold OkH
    omega
theorem okC_of {p : Pg} (hck : ckF p = none) (hn : NumP p) : ∀ c ∈ p.consts, Bkr3 rdC (cfm c) c ∧ NnC c := by
  intro c hc
  obtain ⟨i, hi⟩ := List.getElem?_of_mem hc
  have h := (ckF_none.1 hck).1.2 i c hi
  unfold conE at h
  by_cases h1 : rfB c = false
  · rw [if_pos h1] at h; exact absurd h (by decide)
  · rw [if_neg h1] at h
    by_cases h2 : c.text.size > 4096
    · rw [if_pos h2] at h; exact absurd h (by decide)
    · exact rdC_back (by simpa using h1) (by omega) (hn.1 c hc)
theorem num_nn {p : Pg} (hn : NumP p) : ckF p = none → (∀ c ∈ p.consts, NnC c) ∧ (∀ f ∈ p.funcs, NnF f) ∧ p.consts.length ≤ 512 ∧ p.funcs.length ≤ 128 := fun hck =>
  ⟨fun c hc => (okC_of hck hn c hc).2, fun f hf => (okFb_of hck hn f hf).nn, (ckF_none.1 hck).1.1, (ckF_none.1 hck).2.2.1⟩
theorem rdP_back {p : Pg} (hck : ckF p = none) (hn : NumP p) : rdP (pfm p, 0) = (p, 0) := by
  have h1 := rdL_back (most := 512) p.consts (fun c hc => (okC_of hck hn c hc).1) (by have := (ckF_none.1 hck).1.1; omega) (by decide)
  have h2 := rdL_back (most := 128) p.funcs (fun f hf => rdF_back (okFb_of hck hn f hf)) (by have := (ckF_none.1 hck).2.2.1; omega) (by decide)
  have h0 : raw 4 (pfm p, 0) = ([80, 84, 80, 1], (lfm cfm p.consts ++ lfm ffm p.funcs, 0)) := raw_back [80, 84, 80, 1] _
  have hs : (toStr [80, 84, 80, 1]).toList = sgn4 := by rw [ByteArray.toList_eq]; rfl
  have h3 := h2 []
  rw [List.append_nil] at h3
  unfold rdP
  rw [h0]
  simp only
  rw [if_neg (by rw [hs]; simp), h1]
  simp only [ne_eq, not_true_eq_false, if_false]
  rw [h3]
  simp [rEnd]
/-- There and back. -/
theorem decP_back {p : Pg} (hn : NumP p) (h : (enP p).2 = 0) : decP (enP p).1 = (p, 0) ∧ ckF p = none := by
  have hck : ckF p = none := by
    unfold enP at h
    cases hc : ckF p with
    | none => rfl
    | some e => obtain ⟨k, a, y⟩ := e; rw [hc] at h; exact absurd h (ckF_ne hc)
  refine ⟨?_, hck⟩
  unfold enP at h ⊢
  rw [hck] at h ⊢
  simp only at h ⊢
  by_cases q : 4194304 < (pfm p).length
  · rw [if_pos q] at h; exact absurd h (by decide)
  · rw [if_neg q]
    unfold decP
    simp only
    rw [if_neg q, rdP_back hck hn]
    simp only [ne_eq, not_true_eq_false, if_false]
    rw [hck]
set_option linter.unusedVariables false
set_option linter.unusedSimpArgs false
set_option maxRecDepth 100000
theorem bok_nil : BOk [] := fun b hb => by simp at hb
theorem bok_cons {b : Int} {l : List Int} (h0 : 0 ≤ b ∧ b < 256) (h : BOk l) : BOk (b :: l) := fun x hx => by
  rcases List.mem_cons.1 hx with rfl | hx
  · exact h0
  · exact h x hx
theorem bok_fm {T : Type} {f : T → List Int} {l : List T} (h : ∀ x ∈ l, BOk (f x)) : BOk (l.flatMap f) := fun b hb => by
  obtain ⟨x, hx, hb⟩ := List.mem_flatMap.1 hb
  exact h x hx b hb
theorem uf_bok (x : Nat) (h : x < 2 ^ 64) : BOk (Wm.uform 9 x) := uform_bok 9 x (by omega)
theorem ufm_bok {n : Int} (h : n ≤ 9223372036854775807) : BOk (ufm n) := by unfold ufm; exact uf_bok _ (by omega)
theorem lfm_bok {T : Type} {f : T → List Int} {l : List T} (h : ∀ x ∈ l, BOk (f x)) (hl : l.length ≤ 9000000000000) : BOk (lfm f l) := (ufm_bok (by omega)).append (bok_fm h)
theorem hfm_bok {h : Hd} (k : NnH h) : BOk (hfm h) := by
  obtain ⟨⟨_, a⟩, ⟨_, b⟩, ⟨_, c⟩, _, d⟩ := k
  exact (ufm_bok a).append ((ufm_bok b).append ((ufm_bok c).append (ufm_bok d)))
theorem cfm_bok {c : Cn} (k : NnC c) : BOk (cfm c) := by
  obtain ⟨k1, k2, k3⟩ := k
  unfold cfm
  refine bok_cons (by omega) ?_
  split
  · exact wpre_bok _ _
  · exact (uf_bok _ (by omega)).append (strI_bok _)
theorem opF_bok (k : Nat) {a : Int} (h : I64 a) : BOk (opF k a) := by
  unfold opF
  split
  · exact bok_nil
  · split
    · have hb := foldI_bd a h.1 h.2
      exact uf_bok _ (by omega)
    · exact uf_bok _ (by omega)
theorem encB_bok {l : List (Int × Int)} (h : ∀ q ∈ l, I64 q.1 ∧ I64 q.2) : BOk (encB l) := by
  unfold encB
  split
  · rename_i he
    obtain ⟨_, ho⟩ := encE_ok he
    unfold efm
    refine bok_fm fun q hq => ?_
    unfold ifm
    have hop : okB q.1 q.2 = true := by
      unfold okL at ho
      exact List.all_eq_true.1 ho q hq
    have h2 : isOp q.1 = true := (okB_split hop).1
    have h3 : 0 ≤ q.1 ∧ q.1 < 67 := by simpa [isOp] using h2
    exact bok_cons (by omega) (opF_bok _ (h q hq).2)
  · exact bok_nil
theorem ffm_bok {f : Fc} (k : NnF f) : BOk (ffm f) := by
  obtain ⟨k1, ⟨_, k2⟩, ⟨_, k3⟩, k4, k5, k6, k7, k8⟩ := k
  unfold ffm
  have hl := encB_lenW f.code
  exact ((uf_bok _ (by omega)).append (strI_bok _)).append ((ufm_bok k2).append ((ufm_bok k3).append ((ufm_bok (by omega)).append ((encB_bok k5).append (lfm_bok (fun x hx => hfm_bok (k6 x hx)) (by omega))))))
theorem enP_bok {p : Pg} (hn : NumP p) (h : (enP p).2 = 0) : BOk (enP p).1 := by
  have hck := (decP_back hn h).2
  obtain ⟨n1, n2, n3, n4⟩ := num_nn hn hck
  unfold enP
  rw [hck]
  simp only
  split
  · exact bok_nil
  · unfold pfm
    refine BOk.append ?_ ((lfm_bok (fun c hc => cfm_bok (n1 c hc)) (by omega)).append (lfm_bok (fun f hf => ffm_bok (n2 f hf)) (by omega)))
    have : ∀ b ∈ ([80, 84, 80, 1] : List Int), 0 ≤ b ∧ b < 256 := by decide
    exact this

set_option linter.unusedVariables false

theorem own_keepT {w w' : World} {base : Nat} {e : TypeId} {v : Value} {n : Nat} {xs : List Value} (h : w.ownsRow base e 1 v n xs) (hb : ∀ g, v.ownBlock = some g → w'.heap[g]? = w.heap[g]?) : w'.ownsRow base e 1 v n xs := by
  obtain ⟨h1, h2⟩ := h
  refine ⟨h1, ?_⟩
  rcases h2 with h2 | ⟨g, cap, cur, hv, hg, hh, r⟩
  · exact Or.inl h2
  · exact Or.inr ⟨g, cap, cur, hv, hg, by rw [hb g (by rw [hv]; rfl)]; exact hh, r⟩
theorem RG.below {base : Nat} {l0 l : Value} {w0 w1 w : World} {bs : List Int} (b : Below w0.heap.size w0 w1) (h : RG base l0 w1 l bs w) : RG base l0 w0 l bs w := by
  refine ⟨h.own, ⟨h.fr.os.trans b.os, h.fr.tape.trans b.tape, h.fr.output.trans b.output, Nat.le_trans b.size h.fr.size, fun i hi hn => (h.fr.block i (Nat.lt_of_lt_of_le hi b.size) hn).trans (b.block i hi)⟩, ?_⟩
  rcases h.at' with q | ⟨k, q, hk⟩
  · exact .inl q
  · exact .inr ⟨k, q, Nat.le_trans b.size hk⟩
theorem own_below {w w' : World} {base : Nat} {e : TypeId} {v : Value} {n : Nat} {xs : List Value} (h : w.ownsRow base e 1 v n xs) (b : Below w.heap.size w w') : w'.ownsRow base e 1 v n xs :=
  own_keepT h (fun g hg => b.block g (h.lt g hg).2)

set_option maxRecDepth 100000 in
set_option maxHeartbeats 4000000 in
theorem dPut_any (base : Nat) (l0 : Value) (bs : List Int) (k : Nat) (hk : k < 67) (a : Int) (ha : I64 a) (w : World) (h : w.ownsRow base 5 1 l0 bs.length (bs.map By)) (hbase : base ≤ w.heap.size) (hb : bs.length + 20 ≤ 140737488355328) :
    Calls Tryz.prog 114 #[l0, .agg #[.int .i64 (k : Int), .int .i64 a]] w fun e w' => ∃ l, e = .returned l ∧ RG base l0 w l (bs ++ ifm ((k : Int), a)) w' := by
  obtain ⟨i0, hi0, hz0, hz1, hz2⟩ := info_parts Tryz.info5
  have HD := hide (fun w => dOperand_any w (k : Int))
  rw [kdI_nat hk, isOp_nat hk] at HD
  have HOW := hide h
  have eF : Hid (ifm ((k : Int), a) = (k : Int) :: opF (kd k) a) := by unfold Hid ifm; simp
  have hwk : IntKind.u8.wrap (k : Int) = (k : Int) := by rw [IntKind.wrap_u8]; omega
  obtain ⟨d, hd⟩ : ∃ d, Hid (d = kd k) := ⟨_, rfl⟩
  rw [← unhide hd] at HD
  have HPI := hide (fun (l : Value) (w : World) (h : w.ownsRow base 5 1 l (bs ++ [(k : Int)]).length ((bs ++ [(k : Int)]).map By)) (hb2 : base ≤ w.heap.size) => putInt_any base l (bs ++ [(k : Int)]) a w h hb2 (by rw [List.length_append, List.length_singleton]; omega) ha.1 ha.2)
  have HPU := hide (fun (l : Value) (w : World) (h : w.ownsRow base 5 1 l (bs ++ [(k : Int)]).length ((bs ++ [(k : Int)]).map By)) (hb2 : base ≤ w.heap.size) => putUint_any base l (bs ++ [(k : Int)]) (a % 18446744073709551616).toNat w h hb2 (by rw [List.length_append, List.length_singleton]; omega) (by omega))
  have hwu := wrap_u a
  obtain ⟨X, hX⟩ : ∃ X, Hid (X = (a % 18446744073709551616).toNat) := ⟨_, rfl⟩
  rw [← unhide hX] at HPU hwu
  obtain ⟨n, hn⟩ : ∃ n, Hid (bs.length = n) := ⟨_, rfl⟩
  rw [unhide hn] at hb
  have HBA := hide hbase
  clear h ha hbase
  go_enter Tryz.func114, Tryz.ntmps114
  go_wp2_with fail
  refine (unhide HD _).mono ?_
  rintro e w1 ⟨rfl, hb1⟩
  obtain ⟨c0, c1⟩ := par_cells hb1
  have hb1' := Bl.par hb1
  have HO := hide (own_below (unhide HOW) hb1')
  have B1 := hide hb1'
  have hpl := World.block_lt_of_cell? _ _ c1
  have HHH : Hid (base ≤ w1.heap.size) := Nat.le_trans (unhide HBA) hb1'.size
  clear hb1 hb1'
  go_wp2_with (first | (at_builtin; refine wpList_append_own_at _ rfl _ _ 27 rfl base 5 i0 (.int .u8 0) 1 1 Tryz.underlying27 hi0 hz0 hz1 hz2 rfl (by decide) _ _ _ rfl ((unhide HO).alloc _) ⟨w1.heap.size, 0, none⟩ 1 1 [.int .u8 (k : Int)] rfl rfl (cell_one_new _ _ _) (by simp [Value.oneCell']) (by have := unhide hn; unfold maxLen; omega) (by have := unhide hn; omega) (by have := unhide HHH; simp; omega) ?_))
  intro v' w2 hown' hgrow hnil hat
  have R2 : Hid (RG base l0 w1 v' (bs ++ [(k : Int)]) w2) := (RG.start (unhide HO)).step hown' (by rfl) (by simp) hgrow hat
  have d1 : w2.cell? ⟨w.heap.size, 1, none⟩ = some (.int .i64 a) := ((unhide R2).fr.cell (a := ⟨w.heap.size, 1, none⟩) hpl (fun e => absurd ((unhide HOW).lt w.heap.size e).2 (Nat.lt_irrefl _))).trans c1
  have hsz : Hid (base ≤ w2.heap.size) := Nat.le_trans (unhide HHH) (unhide R2).fr.size
  clear hown' hgrow hnil hat c0 c1
  by_cases h1 : d = 1
  · have KP := hide (unhide HPI v' w2 (unhide R2).own (unhide hsz))
    have e : Hid (ifm ((k : Int), a) = (k : Int) :: Wm.uform 9 (foldI a).toNat) := by unfold Hid; rw [unhide eF, ← unhide hd, h1]; rfl
    subst h1
    go_wp2_with fail
    refine (unhide KP).mono ?_
    rintro e3 w3 ⟨l3, rfl, hR3⟩
    have R3 := hide hR3
    clear hR3
    go_wp2_with fail
    go_ret
    refine ⟨l3, rfl, ?_⟩
    have q := ((unhide R2).trans (unhide R3)).below (unhide B1)
    rw [unhide e]
    simpa using q
  · have h1' : ((d : Int) == 1) = false := by simp; omega
    by_cases h0 : d = 0
    · have e : Hid (ifm ((k : Int), a) = [(k : Int)]) := by unfold Hid; rw [unhide eF, ← unhide hd, h0]; rfl
      subst h0
      go_wp2_with fail
      go_ret
      refine ⟨v', rfl, ?_⟩
      rw [unhide e]
      exact (unhide R2).below (unhide B1)
    · have h0' : ((d : Int) != 0) = true := by simp; omega
      have KP := hide (unhide HPU v' w2 (unhide R2).own (unhide hsz))
      have e : Hid (ifm ((k : Int), a) = (k : Int) :: Wm.uform 9 X) := by unfold Hid; rw [unhide eF, ← unhide hd, unhide hX]; unfold opF; rw [if_neg h0, if_neg h1]
      clear h0 h1
      go_wp2_with fail
      refine (unhide KP).mono ?_
      rintro e3 w3 ⟨l3, rfl, hR3⟩
      have R3 := hide hR3
      clear hR3
      go_wp2_with fail
      go_ret
      refine ⟨l3, rfl, ?_⟩
      have q := ((unhide R2).trans (unhide R3)).below (unhide B1)
      rw [unhide e]
      simpa using q

set_option maxRecDepth 100000 in
set_option maxHeartbeats 4000000 in
theorem dEncode_any {w : World} {lv : Value} {l : List (Int × Int)} (h : RtV w lv l) (hN : l.length ≤ 8796093021952) (hI : ∀ p ∈ l, I64 p.1 ∧ I64 p.2) :
    Calls Tryz.prog 68 #[lv] w fun e w' => EncPost w l e w' := by
  obtain ⟨a0, cap, rfl, hlc, hcm, hcell⟩ := h
  have HC := hide hcell
  obtain ⟨L, hL⟩ : ∃ L, Hid (l.length = L) := ⟨_, rfl⟩
  rw [unhide hL] at hN hlc ⊢
  clear hcell
  by_cases h2 : 2000 < L
  · have HE : Hid (encE l = 5 ∧ encB l = []) := by
      have e : encE l = 5 := by unfold encE; rw [if_pos (by rw [unhide hL]; exact h2)]
      exact ⟨e, by unfold encB; rw [e]; rfl⟩
    clear hI HC
    go_enter Tryz.func68, Tryz.ntmps68
    go_wp2_with fail
    go_ret2
    refine ⟨.slice none 0 0, by rw [(unhide HE).1]; rfl, ?_, Below.refl _ _⟩
    rw [(unhide HE).2]
    exact World.ownsRow_nil _ _ _ _
  · have HII := hide hI
    clear hI
    go_enter Tryz.func68, Tryz.ntmps68
    go_wp2_with fail
    go_loopg [4, 5] L (fun g t4 t5 wr => ∃ (i : Nat) (v : Value), Hid (i + g = L) ∧ t4 = v ∧ t5 = .int .i64 (i : Int) ∧ Hid (wr.ownsRow w.heap.size 5 1 v (efm (l.take i)).length ((efm (l.take i)).map By) ∧ Below w.heap.size w wr ∧ okL (l.take i) = true))
    case atStart => exact ⟨0, _, by unfold Hid; omega, rfl, rfl, by simpa [efm] using World.ownsRow_nil _ _ _ _, Below.refl _ _, by simp [okL]⟩
    case round =>
      obtain ⟨i, v, hi, rfl, rfl, hJ⟩ := hrel
      by_cases hlt : i < L
      · have hil : i < l.length := by rw [unhide hL]; exact hlt
        obtain ⟨⟨op, a⟩, hpr⟩ : ∃ q, l[i]? = some q := ⟨_, List.getElem?_eq_getElem hil⟩
        obtain ⟨b, off, rfl, hb, c0, c1⟩ := unhide HC i _ hpr
        obtain ⟨hIo, hIa⟩ := unhide HII _ (List.mem_of_getElem? hpr)
        simp only at hIo hIa
        have hs := (unhide hJ).2.1
        have k0 := (hs.cell (p := ⟨b, off + i * 2, none⟩) hb).trans c0
        have k1 := (hs.cell (p := ⟨b, off + i * 2 + 1, none⟩) hb).trans c1
        have hbr := Nat.lt_of_lt_of_le hb hs.size
        have i0 : (0 : Int) ≤ (i : Int) := by omega
        have i1 : (i : Int) < (L : Int) := by omega
        have htk : Hid (l.take (i + 1) = l.take i ++ [(op, a)]) := itake_push l i _ hpr
        have hbl : Hid ((efm (l.take i)).length ≤ 22000) := by
          have := efm_len (l.take i)
          have : (l.take i).length ≤ i := List.length_take_le _ _
          unfold Hid; omega
        have HP := hide hpr
        have HIA := hide hIa
        have HB := hide hb
        have HC0 := hide c0
        have HC1 := hide c1
        have HCk := hide (fun w => dCheck_any w op a hIa)
        have Hk : Hid (erN op a = if okB op a then 0 else 7) := rfl
        clear hs c0 c1 hpr hIo hIa hil
        cases hok : okB op a
        · have her : erN op a = 7 := by rw [unhide Hk, hok]; rfl
          rw [her] at HCk
          have HE : Hid (encE l = 7 ∧ encB l = []) := by
            have e : encE l = 7 := by unfold encE; rw [if_neg (by rw [unhide hL]; exact h2), okL_no (unhide HP) hok]; rfl
            exact ⟨e, by unfold encB; rw [e]; rfl⟩
          clear her hok Hk
          go_wp2_with fail
          refine (unhide HCk _).mono ?_
          rintro e w2 ⟨rfl, hb2⟩
          have B2 := hide hb2
          clear hb2
          go_wp2_with fail
          go_ret2
          refine ⟨.slice none 0 0, by rw [(unhide HE).1]; rfl, ?_, Bl.go (unhide hJ).2.1 (unhide hJ).2.1.size (unhide B2)⟩
          rw [(unhide HE).2]
          exact World.ownsRow_nil _ _ _ _
        · have her : erN op a = 0 := by rw [unhide Hk, hok]; rfl
          rw [her] at HCk
          have hop : isOp op = true := by simp [okB] at hok; exact hok.1
          have ho : 0 ≤ op ∧ op < 67 := by simpa [isOp] using hop
          obtain ⟨k, rfl⟩ : ∃ k : Nat, op = k := ⟨op.toNat, by omega⟩
          have HK67 : Hid (k < 67) := by unfold Hid; omega
          have HOK := hide hok
          clear her hok Hk hop ho
          go_wp2_with fail
          refine (unhide HCk _).mono ?_
          rintro e w2 ⟨rfl, hb2⟩
          have hs2 := Bl.go (unhide hJ).2.1 (unhide hJ).2.1.size hb2
          have k0' := (hs2.cell (p := ⟨b, off + i * 2, none⟩) (unhide HB)).trans (unhide HC0)
          have k1' := (hs2.cell (p := ⟨b, off + i * 2 + 1, none⟩) (unhide HB)).trans (unhide HC1)
          have hbr2 := Nat.lt_of_lt_of_le (unhide HB) hs2.size
          have KP := hide (dPut_any w.heap.size _ (efm (l.take i)) k (unhide HK67) a (unhide HIA) w2 (own_below (unhide hJ).1 hb2) hs2.size (by have := unhide hbl; omega))
          have B2 := hide hs2
          clear hb2 hs2 k0 k1 hbr
          go_wp2_with fail
          refine (unhide KP).mono ?_
          rintro e w3 ⟨l3, rfl, hR3⟩
          have R3 := hide hR3
          clear hR3 KP
          go_wp2_with fail
          go_roundg (gk - 1)
          case measure => have := unhide hi; omega
          case rel =>
            refine ⟨i + 1, l3, by have := unhide hi; unfold Hid; omega, rfl, by go_num, ?_⟩
            unfold Hid
            rw [unhide htk, efm_push]
            refine ⟨(unhide R3).own, (unhide B2).trans ((unhide R3).fr.below (unhide B2).size (fun q hq e => ?_)), ?_⟩
            · have := ((unhide hJ).1.lt q e).1
              omega
            · have q := (unhide hJ).2.2
              unfold okL at q ⊢
              rw [List.all_append, q]
              simpa using unhide HOK
      · have hiL : i = L := by have := unhide hi; omega
        subst hiL
        have hT : l.take i = l := List.take_of_length_le (by rw [unhide hL]; exact Nat.le_refl _)
        obtain ⟨hJ1, hJ2, hJ3⟩ := unhide hJ
        rw [hT] at hJ1 hJ3
        have HE : Hid (encE l = 0 ∧ encB l = efm l) := by
          have e : encE l = 0 := by unfold encE; rw [if_neg (by rw [unhide hL]; exact h2), hJ3]; rfl
          exact ⟨e, by unfold encB; rw [if_pos e]⟩
        have J1 := hide hJ1
        have J2 := hide hJ2
        clear hT hJ1 hJ2 hJ3 hJ HII HC
        go_wp2_with fail
        go_ret2
        refine ⟨_, by rw [(unhide HE).1]; rfl, ?_, unhide J2⟩
        rw [(unhide HE).2]
        exact unhide J1

set_option linter.unusedVariables false
set_option linter.unusedSimpArgs false
set_option maxRecDepth 100000
/-- A row of one's own that holds these bytes; nothing that was there is touched. -/
def Ow (w : World) (l : Value) (bs : List Int) (wr : World) : Prop := wr.ownsRow w.heap.size 5 1 l bs.length (bs.map By) ∧ Below w.heap.size w wr
theorem Ow.size {w wr : World} {l : Value} {bs : List Int} (h : Ow w l bs wr) : w.heap.size ≤ wr.heap.size := h.2.size
theorem Ow.rg {w wr w2 : World} {l l2 : Value} {bs b2 : List Int} (h : Ow w l bs wr) (k : RG w.heap.size l wr l2 b2 w2) : Ow w l2 b2 w2 :=
  ⟨k.own, h.2.trans (k.fr.below h.2.size (fun b hb e => by have := (h.1.lt b e).1; omega))⟩
theorem Ow.below {w wr w2 : World} {l : Value} {bs : List Int} (h : Ow w l bs wr) (b : Below wr.heap.size wr w2) : Ow w l bs w2 := ⟨own_below h.1 b, h.2.trans (b.mono h.2.size)⟩
theorem Ow.shape {w wr : World} {l : Value} {bs : List Int} (h : Ow w l bs wr) : ∃ a c, l = .slice a bs.length c := by
  obtain ⟨a, c, e, _⟩ := (Ro.of_own h.1).shape
  exact ⟨a, c, e⟩
theorem oCount {w wr : World} {l : Value} {bs : List Int} (h : Ow w l bs wr) (n : Int) (h0 : 0 ≤ n) (h1 : n ≤ 9223372036854775807) (hb : bs.length + 10 ≤ 140737488355328) :
    Calls Tryz.prog 65 #[l, .int .i64 n] wr fun e w' => ∃ l', e = .returned l' ∧ Ow w l' (bs ++ ufm n) w' := by
  have H := hide (putUint_any w.heap.size l bs n.toNat wr h.1 h.size hb (by omega))
  have HO := hide h
  have e1 : ((n.toNat : Nat) : Int) = n := by omega
  rw [e1] at H
  obtain ⟨a, c, rfl⟩ := h.shape
  have hw : IntKind.u64.wrap n = n := by rw [wrap_u]; omega
  clear h e1
  go_enter Tryz.func65, Tryz.ntmps65
  go_wp2_with fail
  refine (unhide H).mono ?_
  rintro e w2 ⟨l2, rfl, hg⟩
  have HG := hide hg
  clear hg
  go_wp2_with fail
  go_ret
  exact ⟨_, rfl, (unhide HO).rg (unhide HG)⟩
theorem oWord {w wr : World} {l : Value} {bs : List Int} (h : Ow w l bs wr) (x : Nat) (hb : bs.length + 10 ≤ 140737488355328) :
    Calls Tryz.prog 66 #[l, .int .u64 (x : Int)] wr fun e w' => ∃ l', e = .returned l' ∧ Ow w l' (bs ++ wpre x 8) w' :=
  (putWord_any w.heap.size l bs x wr h.1 h.size hb).mono fun e w' ⟨l', he, hg⟩ => ⟨l', he, h.rg hg⟩
theorem oText {w wr : World} {l : Value} {bs : List Int} (h : Ow w l bs wr) (s : ByteArray) (hb : bs.length + 10 + s.size ≤ 140737488355328) :
    Calls Tryz.prog 67 #[l, .string s] wr fun e w' => ∃ l', e = .returned l' ∧ Ow w l' (bs ++ (Wm.uform 9 s.size ++ strI s)) w' :=
  (putText_any w.heap.size l bs s wr h.1 h.size hb).mono fun e w' ⟨l', he, hg⟩ => ⟨l', he, h.rg hg⟩
/-- A box that no row lies in stays as it is. -/
theorem RG.box {base n bf : Nat} {l l2 : Value} {wr w2 : World} {b2 : List Int} {L : List Value} (k : RG base l wr l2 b2 w2) (hb : Bx wr n bf L) (hne : l.ownBlock ≠ some bf) : Bx w2 n bf L ∧ l2.ownBlock ≠ some bf := by
  refine ⟨hb.fr k.fr hne, fun e => ?_⟩
  rcases k.at' with q | ⟨b, q, hbb⟩
  · rw [q] at e; exact hne e
  · rw [q] at e; cases e; have := hb.lt; omega
theorem gCount {w wr : World} {l : Value} {bs : List Int} (h : Ow w l bs wr) (n : Int) (h0 : 0 ≤ n) (h1 : n ≤ 9223372036854775807) (hb : bs.length + 10 ≤ 140737488355328) :
    Calls Tryz.prog 65 #[l, .int .i64 n] wr fun e w' => ∃ l', e = .returned l' ∧ RG w.heap.size l wr l' (bs ++ ufm n) w' := by
  have H := hide (putUint_any w.heap.size l bs n.toNat wr h.1 h.size hb (by omega))
  have e1 : ((n.toNat : Nat) : Int) = n := by omega
  rw [e1] at H
  obtain ⟨a, c, rfl⟩ := h.shape
  have hw : IntKind.u64.wrap n = n := by rw [wrap_u]; omega
  clear h e1
  go_enter Tryz.func65, Tryz.ntmps65
  go_wp2_with fail
  refine (unhide H).mono ?_
  rintro e w2 ⟨l2, rfl, hg⟩
  have HG := hide hg
  clear hg
  go_wp2_with fail
  go_ret
  exact ⟨_, rfl, unhide HG⟩

set_option linter.unusedVariables false
set_option linter.unusedSimpArgs false
set_option maxRecDepth 100000
theorem cell_one_new2 (w : World) (o : Obj) (v : Value) (t : TypeId) : ∀ j u, [v][j]? = some u → ((w.alloc o).alloc (.cells #[v] t)).cell? ((⟨w.heap.size + 1, 0, none⟩ : Addr).add j) = some u := by
  have := cell_one_new (w.alloc o) v t
  rwa [World.size_alloc] at this
theorem Ow.made (w : World) : Ow w (.slice (some ⟨w.heap.size, 0, none⟩) 4 4) [80, 84, 80, 1] (w.alloc (.cells #[.int .u8 80, .int .u8 84, .int .u8 80, .int .u8 1] 5)) :=
  ⟨⟨rfl, .inr ⟨w.heap.size, 4, _, rfl, Nat.le_refl _, heap_alloc_new w _, Nat.le_refl _, by unfold maxLen; omega, rfl, rfl⟩⟩, (Below.refl _ w).alloc (Nat.le_refl _) _⟩
set_option maxHeartbeats 12800000 in
theorem rBytes_any {w : World} {pv : Value} {p : Pg} (hp : PgV w pv p) (hc : ∀ c ∈ p.consts, NnC c) (hf : ∀ f ∈ p.funcs, NnF f) (n1 : p.consts.length ≤ 512) (n2 : p.funcs.length ≤ 128) :
    Calls Tryz.prog 31 #[pv] w fun e w' => ∃ l, e = .returned l ∧ w'.ownsRow w.heap.size 5 1 l (pfm p).length ((pfm p).map By) ∧ Below w.heap.size w w' := by
  have HC := hide hc
  have HF := hide hf
  obtain ⟨cv, fv, rfl, hcs, hfs⟩ := hp
  have HCR := hide hcs
  have HFR := hide hfs
  obtain ⟨_, ca, ccap, rfl, _, _, _⟩ := hcs
  obtain ⟨fa, fcap, rfl, _, _, _⟩ := hfs.at
  obtain ⟨NC, hNC⟩ : ∃ n, Hid (p.consts.length = n) := ⟨_, rfl⟩
  obtain ⟨NF, hNF⟩ : ∃ n, Hid (p.funcs.length = n) := ⟨_, rfl⟩
  rw [unhide hNC] at n1 ⊢
  rw [unhide hNF] at n2 ⊢
  obtain ⟨W1, eW1⟩ : ∃ W1, Hid (W1 = w.alloc (.cells #[.slice ca NC ccap, .slice fa NF fcap] 25)) := ⟨_, rfl⟩
  have hb1 : Below w.heap.size w W1 := by rw [unhide eW1]; exact (Below.refl _ w).alloc (Nat.le_refl _) _
  have F1 := hide hb1
  obtain ⟨bx, ebx⟩ : ∃ b, Hid (w.heap.size = b) := ⟨_, rfl⟩
  have X1 : Hid (Bx W1 2 bx [.slice ca NC ccap, .slice fa NF fcap]) := by rw [unhide eW1]; exact Bx.new rfl (unhide ebx)
  obtain ⟨b1, eb1⟩ : ∃ b, Hid (W1.heap.size = b) := ⟨_, rfl⟩
  have hs1 : W1.heap.size = bx + 1 := by rw [unhide eW1, World.size_alloc, unhide ebx]
  have O1 : Hid (Ow W1 (.slice (some ⟨bx + 1, 0, none⟩) 4 4) [80, 84, 80, 1] (W1.alloc (.cells #[.int .u8 80, .int .u8 84, .int .u8 80, .int .u8 1] 5))) := by have := Ow.made W1; rwa [hs1] at this
  clear hb1 hc hf hs1
  go_enter Tryz.func31, Tryz.ntmps31
  go_wp2_with fail
  rw [← unhide eW1, unhide ebx]
  refine (oCount (unhide O1) (NC : Int) (by omega) (by omega) (by simp)).mono ?_
  rintro e W2 ⟨l2, rfl, ho2⟩
  have O2 := hide ho2
  have X2 : Hid (Bx W2 2 bx [.slice ca NC ccap, .slice fa NF fcap]) := (unhide X1).fr (S := fun _ => False) (Fr.of_below ho2.2) (fun e => e)
  have m0 := (unhide X2).cell (j := 0) rfl
  have lX := (unhide X2).lt
  have u0 := ufm_len (NC : Int)
  have u1 := ufm_len (NF : Int)
  have LC : Hid (∀ i, ((p.consts.take i).flatMap cfm).length ≤ 2560000) := fun i => by
    have h1 := fm_len cfm 5000 (p.consts.take i) (fun x hx => cfm_len (unhide HC x (List.mem_of_mem_take hx)))
    have h2 : (p.consts.take i).length ≤ 512 := by rw [List.length_take, unhide hNC]; omega
    have := Nat.mul_le_mul_right 5000 h2
    omega
  have LF : Hid (∀ i, ((p.funcs.take i).flatMap ffm).length ≤ 3072000) := fun i => by
    have h1 := fm_len ffm 24000 (p.funcs.take i) (fun x hx => ffm_len (unhide HF x (List.mem_of_mem_take hx)))
    have h2 : (p.funcs.take i).length ≤ 128 := by rw [List.length_take, unhide hNF]; omega
    have := Nat.mul_le_mul_right 24000 h2
    omega
  obtain ⟨i0', hi0, hy0, hy1, hy2⟩ := info_parts Tryz.info5
  clear ho2 eW1 O1
  go_wp2_with fail
  clear m0 lX
  go_loopg [3, 4] NC (fun gg t3 t4 wr => ∃ (i : Nat) (vl : Value), Hid (i + gg = NC) ∧ t3 = vl ∧ t4 = .int .i64 (i : Int) ∧ Hid (Ow W1 vl ([80, 84, 80, 1] ++ (ufm NC ++ (p.consts.take i).flatMap cfm)) wr))
  case atStart => exact ⟨0, _, by unfold Hid; omega, rfl, rfl, by unfold Hid; simpa using unhide O2⟩
  case round =>
    obtain ⟨i, vl, hi, e3, rfl, hO⟩ := hrel
    obtain rfl := e3.symm
    clear e3
    clear O2 X2
    have BW : Hid (Below W1.heap.size W1 wr) := (unhide hO).2
    have Xr : Hid (Bx wr 2 bx [.slice ca NC ccap, .slice fa NF fcap]) := (unhide X1).fr (S := fun _ => False) (Fr.of_below (unhide BW)) (fun e => e)
    have Fr1 : Hid (Below w.heap.size w wr) := (unhide F1).trans ((unhide BW).mono (unhide F1).size)
    have m0 := (unhide Xr).cell (j := 0) rfl
    have lX := (unhide Xr).lt
    by_cases hlt : i < NC
    · have hil : i < p.consts.length := by rw [unhide hNC]; exact hlt
      obtain ⟨c, hcc⟩ : ∃ c, p.consts[i]? = some c := ⟨_, List.getElem?_eq_getElem hil⟩
      obtain ⟨b, off, cap', e', _, _, hb, hcl⟩ := (unhide HCR).elem zC hcc
      have e1' : ca = some ⟨b, off, none⟩ := by injection e'
      subst e1'
      have hnn := unhide HC c (List.mem_of_getElem? hcc)
      have hfl := fm_take cfm hcc
      have k0 := ((unhide Fr1).cell (p := ⟨b, off + i * 3 + 0, none⟩) hb).trans (hcl 0 _ rfl)
      have k1 := ((unhide Fr1).cell (p := ⟨b, off + i * 3 + 1, none⟩) hb).trans (hcl 1 _ rfl)
      have k2 := ((unhide Fr1).cell (p := ⟨b, off + i * 3 + 2, none⟩) hb).trans (hcl 2 _ rfl)
      have lb := Nat.lt_of_lt_of_le hb (unhide Fr1).size
      rw [Nat.add_zero] at k0
      obtain ⟨ck, cn, ct⟩ := c
      simp only at k0 k1 k2
      have i0 : (0 : Int) ≤ (i : Int) := by omega
      have i1 : (i : Int) < (NC : Int) := by omega
      obtain ⟨Y, eY⟩ : ∃ Y, Hid (Y = wr.alloc (.cells #[.int .i64 ck, .int .i64 cn, .string ct] 69)) := ⟨_, rfl⟩
      have hbY : Below wr.heap.size wr Y := by rw [unhide eY]; exact (Below.refl _ _).alloc (Nat.le_refl _) _
      have OY : Hid (Ow W1 vl ([80, 84, 80, 1] ++ (ufm NC ++ (p.consts.take i).flatMap cfm)) Y) := (unhide hO).below hbY
      have hbl := unhide LC i
      have hbl2 : ([80, 84, 80, 1] ++ (ufm NC ++ (p.consts.take i).flatMap cfm)).length ≤ 3000000 := by simp only [List.length_append, List.length_cons, List.length_nil]; omega
      obtain ⟨bs, ebs⟩ : ∃ bs, Hid ([80, 84, 80, 1] ++ (ufm (NC : Int) ++ (p.consts.take i).flatMap cfm) = bs) := ⟨_, by unfold Hid; rfl⟩
      rw [unhide ebs] at hbl2 OY
      obtain ⟨bc, ebc⟩ : ∃ b, Hid (wr.heap.size = b) := ⟨_, rfl⟩
      have CY : Hid (Bx Y 3 bc [.int .i64 ck, .int .i64 cn, .string ct]) := by rw [unhide eY]; exact Bx.new rfl (unhide ebc)
      have c0 := (unhide CY).cell (j := 0) rfl
      have hN := unhide hi
      have hnx : ∀ bs', bs' = bs ++ cfm ⟨ck, cn, ct⟩ → [80, 84, 80, 1] ++ (ufm NC ++ (p.consts.take (i + 1)).flatMap cfm) = bs' := fun bs' e => by rw [e, ← unhide ebs, hfl]; simp only [List.append_assoc]
      have HNX := hide hnx
      have HI := hide hi
      have OW : Hid (Ow W1 vl bs wr) := by have := unhide hO; rwa [unhide ebs] at this
      clear hcl hb e' hcc hil hbY hnx hfl hbl hO
      have OA : Hid (∀ o : Obj, ((wr.alloc (.cells #[.int .i64 ck, .int .i64 cn, .string ct] 69)).alloc o).ownsRow W1.heap.size 5 1 vl bs.length (bs.map By)) := fun o => by rw [← unhide eY]; exact (unhide OY).1.alloc o
      rcases hnn.1 with rfl | rfl
      · skip
        go_wp2_with (first | (at_builtin; refine wpList_append_own_at _ rfl _ _ 27 rfl W1.heap.size 5 i0' (.int .u8 0) 1 1 Tryz.underlying27 hi0 hy0 hy1 hy2 rfl (by decide) _ _ _ rfl (unhide OA _) ⟨wr.heap.size + 1, 0, none⟩ 1 1 [.int .u8 3] rfl rfl (cell_one_new2 _ _ _ _) (by simp [Value.oneCell']) (by unfold maxLen; omega) (by omega) (by simp; have := (unhide BW).size; omega) ?_))
        intro v2 w2 hown hgrow hnil hat
        rw [← unhide eY] at hgrow
        have fY : Fr (fun k => vl.ownBlock = some k) Y w2 := ((Fr.refl (fun k => vl.ownBlock = some k) Y).alloc _).grown hgrow (fun k e => .inr e)
        have hvl : vl.ownBlock ≠ some bc := fun e => by have := ((unhide OW).1.lt bc e).2; have := unhide ebc; omega
        have C2 : Hid (Bx w2 3 bc [.int .i64 3, .int .i64 cn, .string ct]) := (unhide CY).fr fY hvl
        have O2 : Hid (Ow W1 v2 (bs ++ [3]) w2) := ⟨by have := hown; simpa [By] using this, (unhide OY).2.trans (fY.below (unhide OY).2.size (fun k hk e => by have := ((unhide OY).1.lt k e).1; omega))⟩
        have c0 := (unhide C2).cell (j := 0) rfl
        have c1 := (unhide C2).cell (j := 1) rfl
        have c2 := (unhide C2).cell (j := 2) rfl
        have lC := (unhide C2).lt
        rw [unhide ebc]
        clear hown hgrow hnil hat fY hvl eY OA OY OW CY m0 k0 k1 k2 lb lX
        obtain ⟨x, hx, hxx⟩ : ∃ x : Nat, IntKind.u64.wrap cn = (x : Int) ∧ x = (IntKind.u64.wrap cn).toNat := ⟨(IntKind.u64.wrap cn).toNat, by rw [wrap_u]; omega, rfl⟩
        have HX := hide hxx
        clear hxx
        go_wp2_with fail
        refine (oWord (unhide O2) x (by simp; omega)).mono ?_
        rintro e w3 ⟨l3, rfl, ho3⟩
        have O3 : Hid (Ow W1 l3 ([80, 84, 80, 1] ++ (ufm NC ++ (p.consts.take (i + 1)).flatMap cfm)) w3) := by
          unfold Hid
          rw [unhide HNX (bs ++ [3] ++ wpre x 8) (by rw [unhide HX]; simp [cfm])]
          exact ho3
        clear ho3 O2 C2 c0 c1 c2 lC
        go_wp2_with fail
        go_roundg (gk - 1)
        case measure => have := unhide HI; omega
        case rel => exact ⟨i + 1, l3, by have := unhide HI; unfold Hid; omega, rfl, by go_num, unhide O3⟩
      · skip
        go_wp2_with (first | (at_builtin; refine wpList_append_own_at _ rfl _ _ 27 rfl W1.heap.size 5 i0' (.int .u8 0) 1 1 Tryz.underlying27 hi0 hy0 hy1 hy2 rfl (by decide) _ _ _ rfl (unhide OA _) ⟨wr.heap.size + 1, 0, none⟩ 1 1 [.int .u8 4] rfl rfl (cell_one_new2 _ _ _ _) (by simp [Value.oneCell']) (by unfold maxLen; omega) (by omega) (by simp; have := (unhide BW).size; omega) ?_))
        intro v2 w2 hown hgrow hnil hat
        rw [← unhide eY] at hgrow
        have fY : Fr (fun k => vl.ownBlock = some k) Y w2 := ((Fr.refl (fun k => vl.ownBlock = some k) Y).alloc _).grown hgrow (fun k e => .inr e)
        have hvl : vl.ownBlock ≠ some bc := fun e => by have := ((unhide OW).1.lt bc e).2; have := unhide ebc; omega
        have C2 : Hid (Bx w2 3 bc [.int .i64 4, .int .i64 cn, .string ct]) := (unhide CY).fr fY hvl
        have O2 : Hid (Ow W1 v2 (bs ++ [4]) w2) := ⟨by have := hown; simpa [By] using this, (unhide OY).2.trans (fY.below (unhide OY).2.size (fun k hk e => by have := ((unhide OY).1.lt k e).1; omega))⟩
        have c0 := (unhide C2).cell (j := 0) rfl
        have c1 := (unhide C2).cell (j := 1) rfl
        have c2 := (unhide C2).cell (j := 2) rfl
        have lC := (unhide C2).lt
        rw [unhide ebc]
        clear hown hgrow hnil hat fY hvl eY OA OY OW CY m0 k0 k1 k2 lb lX
        go_wp2_with fail
        have htl := hnn.2.1
        refine (oText (unhide O2) ct (by simp at htl ⊢; omega)).mono ?_
        rintro e w3 ⟨l3, rfl, ho3⟩
        have O3 : Hid (Ow W1 l3 ([80, 84, 80, 1] ++ (ufm NC ++ (p.consts.take (i + 1)).flatMap cfm)) w3) := by
          unfold Hid
          rw [unhide HNX (bs ++ [4] ++ (Wm.uform 9 ct.size ++ strI ct)) (by simp [cfm])]
          exact ho3
        clear ho3 O2 C2 c0 c1 c2 lC
        go_wp2_with fail
        go_roundg (gk - 1)
        case measure => have := unhide HI; omega
        case rel => exact ⟨i + 1, l3, by have := unhide HI; unfold Hid; omega, rfl, by go_num, unhide O3⟩
    · have hiN : i = NC := by have := unhide hi; omega
      subst hiN
      obtain ⟨bs, ebs⟩ : ∃ bs, Hid ([80, 84, 80, 1] ++ lfm cfm p.consts = bs) := ⟨_, by unfold Hid; rfl⟩
      have OW : Hid (Ow W1 vl bs wr) := by
        have h1 : p.consts.take i = p.consts := List.take_of_length_le (by rw [unhide hNC]; exact Nat.le_refl _)
        have := unhide hO
        rw [h1] at this
        rw [← unhide ebs]
        unfold lfm
        rw [unhide hNC]
        exact this
      have LB : bs.length ≤ 3000000 := by
        have h1 := unhide LC p.consts.length
        rw [List.take_length] at h1
        rw [← unhide ebs]
        unfold lfm
        have := ufm_len (p.consts.length : Int)
        simp only [List.length_append, List.length_cons, List.length_nil]
        omega
      have m1 := (unhide Xr).cell (j := 1) rfl
      have i1 : ¬ (i : Int) < (i : Int) := by omega
      clear hO hlt
      go_wp2_with fail
      clear m0 m1 lX
      refine (oCount (unhide OW) (NF : Int) (by omega) (by omega) (by omega)).mono ?_
      rintro e W3 ⟨l3, rfl, ho3⟩
      have O3 : Hid (Ow W1 l3 (bs ++ (ufm NF ++ (p.funcs.take 0).flatMap ffm)) W3) := by unfold Hid; simpa using ho3
      clear ho3 OW BW Xr Fr1
      go_wp2_with fail
      go_loopg [3, 6] NF (fun gg t3 t6 wr => ∃ (k : Nat) (ul : Value), Hid (k + gg = NF) ∧ t3 = ul ∧ t6 = .int .i64 (k : Int) ∧ Hid (Ow W1 ul (bs ++ (ufm NF ++ (p.funcs.take k).flatMap ffm)) wr))
      case atStart => exact ⟨0, _, by unfold Hid; omega, rfl, rfl, unhide O3⟩
      case round =>
        obtain ⟨k, ul, hk, e3, rfl, hO⟩ := hrel
        obtain rfl := e3.symm
        clear e3 O3
        have BW : Hid (Below W1.heap.size W1 wr) := (unhide hO).2
        have Xr : Hid (Bx wr 2 bx [.slice ca i ccap, .slice fa NF fcap]) := (unhide X1).fr (S := fun _ => False) (Fr.of_below (unhide BW)) (fun e => e)
        have Fr1 : Hid (Below w.heap.size w wr) := (unhide F1).trans ((unhide BW).mono (unhide F1).size)
        have m1 := (unhide Xr).cell (j := 1) rfl
        have lX := (unhide Xr).lt
        by_cases hlt : k < NF
        · have hkl : k < p.funcs.length := by rw [unhide hNF]; exact hlt
          obtain ⟨f, hff⟩ : ∃ f, p.funcs[k]? = some f := ⟨_, List.getElem?_eq_getElem hkl⟩
          obtain ⟨fa', fcap', ef', _, _, hat⟩ := (unhide HFR).at
          obtain ⟨b, off, x, ea, hb, hx, cs⟩ := hat k f hff
          obtain ⟨a1, c1, a2, c2, rfl⟩ := hx.parts
          have efa : fa = some ⟨b, off, none⟩ := by
            have : fa = fa' := by injection ef'
            rw [this, ea]
          subst efa
          have hnn := unhide HF f (List.mem_of_getElem? hff)
          have hfl := fm_take ffm hff
          obtain ⟨g1, ⟨g2, g2'⟩, ⟨g3, g3'⟩, g4, g5, g6, g7, g8⟩ := hnn
          have HRC := hide hx.2.2.2.1
          have HRH := hide hx.2.2.2.2
          have HG6 := hide g6
          have HG5 := hide g5
          have k0 := ((unhide Fr1).cell (p := ⟨b, off + k * 5 + 0, none⟩) hb).trans (cs 0 _ rfl)
          have k1 := ((unhide Fr1).cell (p := ⟨b, off + k * 5 + 1, none⟩) hb).trans (cs 1 _ rfl)
          have k2 := ((unhide Fr1).cell (p := ⟨b, off + k * 5 + 2, none⟩) hb).trans (cs 2 _ rfl)
          have k3 := ((unhide Fr1).cell (p := ⟨b, off + k * 5 + 3, none⟩) hb).trans (cs 3 _ rfl)
          have k4 := ((unhide Fr1).cell (p := ⟨b, off + k * 5 + 4, none⟩) hb).trans (cs 4 _ rfl)
          have lb := Nat.lt_of_lt_of_le hb (unhide Fr1).size
          rw [Nat.add_zero] at k0
          obtain ⟨fnm, fpa, flo, fco, fhs⟩ := f
          simp only at k0 k1 k2 k3 k4 g1 g2 g2' g3 g3' g4 g7 g8 HRC HRH HG6 HG5
          obtain ⟨CL, hCL⟩ : ∃ n, Hid (fco.length = n) := ⟨_, rfl⟩
          obtain ⟨HN, hHN⟩ : ∃ n, Hid (fhs.length = n) := ⟨_, rfl⟩
          rw [unhide hCL] at k3 g4
          rw [unhide hHN] at k4 g7
          have i0 : (0 : Int) ≤ (k : Int) := by omega
          have i2 : (k : Int) < (NF : Int) := by omega
          obtain ⟨Y, eY⟩ : ∃ Y, Hid (Y = wr.alloc (.cells #[.string fnm, .int .i64 fpa, .int .i64 flo, .slice a1 CL c1, .slice a2 HN c2] 73)) := ⟨_, rfl⟩
          have hbY : Below wr.heap.size wr Y := by rw [unhide eY]; exact (Below.refl _ _).alloc (Nat.le_refl _) _
          obtain ⟨bf, ebf⟩ : ∃ b, Hid (wr.heap.size = b) := ⟨_, rfl⟩
          have B0 : Hid (Bx Y 5 bf [.string fnm, .int .i64 fpa, .int .i64 flo, .slice a1 CL c1, .slice a2 HN c2]) := by rw [unhide eY]; exact Bx.new rfl (unhide ebf)
          have N0 : Hid (ul.ownBlock ≠ some bf) := fun e => by have := ((unhide hO).1.lt bf e).2; have := unhide ebf; omega
          obtain ⟨q0, eq0⟩ : ∃ b, Hid (bs ++ (ufm (NF : Int) ++ (p.funcs.take k).flatMap ffm) = b) := ⟨_, by unfold Hid; rfl⟩
          have O0 : Hid (Ow W1 ul q0 Y) := by have := (unhide hO).below hbY; rwa [unhide eq0] at this
          have L0 : q0.length ≤ 6100000 := by
            have := unhide LF k
            rw [← unhide eq0]; simp only [List.length_append]; omega
          have HFL : Hid ((p.funcs.take (k + 1)).flatMap ffm = (p.funcs.take k).flatMap ffm ++ ffm ⟨fnm, fpa, flo, fco, fhs⟩) := hfl
          obtain ⟨gO, hgO⟩ : ∃ g, Hid (gk = g) := ⟨_, rfl⟩
          have HK : Hid (k + gO = NF) := by rw [← unhide hgO]; exact hk
          have sl := strI_length fnm
          have ul1 := Nat.le_refl (Wm.uform 9 fnm.size).length
          have uln : (Wm.uform 9 fnm.size).length ≤ 10 := by have := ufm_len (fnm.size : Int); unfold ufm at this; simpa using this
          have up := ufm_len fpa
          have uo := ufm_len flo
          have uc := ufm_len ((encB fco).length : Int)
          have uh := ufm_len (HN : Int)
          have ue := encB_lenW fco
          clear hat cs ef' ea hkl hff hbY hfl hO hx g5 g6 hk ul1
          go_wp2_with fail
          rw [← unhide eY, unhide ebf]
          clear eY
          refine (putText_any W1.heap.size ul q0 fnm Y (unhide O0).1 (unhide O0).size (by omega)).mono ?_
          rintro e w1 ⟨v1, rfl, hg1⟩
          obtain ⟨hbx1, hne1⟩ := hg1.box (unhide B0) (unhide N0)
          have B1 := hide hbx1
          have N1 := hide hne1
          obtain ⟨q1, eq1⟩ : ∃ b, Hid (q0 ++ (Wm.uform 9 fnm.size ++ strI fnm) = b) := ⟨_, by unfold Hid; rfl⟩
          have O1 : Hid (Ow W1 v1 q1 w1) := by have := (unhide O0).rg hg1; rwa [unhide eq1] at this
          have L1 : q1.length ≤ 6100100 := by rw [← unhide eq1]; simp only [List.length_append]; omega
          clear hbx1 hne1 hg1 B0 N0 O0 k0 k1 k2 k3 k4 lb lX m1
          have d0 := (unhide B1).cell (j := 0) rfl
          have d1 := (unhide B1).cell (j := 1) rfl
          have d2 := (unhide B1).cell (j := 2) rfl
          have d3 := (unhide B1).cell (j := 3) rfl
          have d4 := (unhide B1).cell (j := 4) rfl
          have lD := (unhide B1).lt
          go_wp2_with fail
          refine (gCount (unhide O1) fpa g2 g2' (by omega)).mono ?_
          rintro e w2 ⟨v2, rfl, hg2⟩
          obtain ⟨hbx2, hne2⟩ := hg2.box (unhide B1) (unhide N1)
          have B2 := hide hbx2
          have N2 := hide hne2
          obtain ⟨q2, eq2⟩ : ∃ b, Hid (q1 ++ ufm fpa = b) := ⟨_, by unfold Hid; rfl⟩
          have O2 : Hid (Ow W1 v2 q2 w2) := by have := (unhide O1).rg hg2; rwa [unhide eq2] at this
          have L2 : q2.length ≤ 6100200 := by rw [← unhide eq2]; simp only [List.length_append]; omega
          clear hbx2 hne2 hg2 B1 N1 O1 d0 d1 d2 d3 d4 lD
          have d0 := (unhide B2).cell (j := 0) rfl
          have d1 := (unhide B2).cell (j := 1) rfl
          have d2 := (unhide B2).cell (j := 2) rfl
          have d3 := (unhide B2).cell (j := 3) rfl
          have d4 := (unhide B2).cell (j := 4) rfl
          have lD := (unhide B2).lt
          go_wp2_with fail
          refine (gCount (unhide O2) flo g3 g3' (by omega)).mono ?_
          rintro e w3 ⟨v3, rfl, hg3⟩
          obtain ⟨hbx3, hne3⟩ := hg3.box (unhide B2) (unhide N2)
          have B3 := hide hbx3
          have N3 := hide hne3
          obtain ⟨q3, eq3⟩ : ∃ b, Hid (q2 ++ ufm flo = b) := ⟨_, by unfold Hid; rfl⟩
          have O3 : Hid (Ow W1 v3 q3 w3) := by have := (unhide O2).rg hg3; rwa [unhide eq3] at this
          have L3 : q3.length ≤ 6100300 := by rw [← unhide eq3]; simp only [List.length_append]; omega
          clear hbx3 hne3 hg3 B2 N2 O2 d0 d1 d2 d3 d4 lD
          have d0 := (unhide B3).cell (j := 0) rfl
          have d1 := (unhide B3).cell (j := 1) rfl
          have d2 := (unhide B3).cell (j := 2) rfl
          have d3 := (unhide B3).cell (j := 3) rfl
          have d4 := (unhide B3).cell (j := 4) rfl
          have lD := (unhide B3).lt
          have RC3 : Hid (RtV w3 (.slice a1 CL c1) fco) := by
            have h1 := (unhide HRC).below (((unhide F1).trans ((unhide O3).2.mono (unhide F1).size))) (Nat.le_refl _)
            have h2 := RtV.of_rx h1
            rwa [unhide hCL] at h2
          go_wp2_with fail
          refine (dEncode_any (unhide RC3) (by rw [unhide hCL]; omega) (unhide HG5)).mono ?_
          rintro e w4 ⟨vb, rfl, how4, hb4⟩
          have O4 : Hid (Ow W1 v3 q3 w4) := (unhide O3).below hb4
          have B4 : Hid (Bx w4 5 bf [.string fnm, .int .i64 fpa, .int .i64 flo, .slice a1 CL c1, .slice a2 HN c2]) := (unhide B3).fr (S := fun _ => False) (Fr.of_below hb4) (fun e => e)
          have R4 : Hid (Ro w4 1 vb (encB fco).length ((encB fco).map By)) := Ro.of_own how4
          have A4 : Hid (∀ g, vb.ownBlock = some g → v3.ownBlock ≠ some g ∧ g < w4.heap.size) := fun g hg => ⟨fun e => by have := ((unhide O3).1.lt g e).2; have := (how4.lt g hg).1; omega, (how4.lt g hg).2⟩
          obtain ⟨ea, ec, evb, _, _⟩ := (unhide R4).shape
          subst evb
          obtain ⟨EN, hEN⟩ : ∃ n, Hid ((encB fco).length = n) := ⟨_, rfl⟩
          have HEB := hide ue
          rw [unhide hEN] at R4 A4 uc ue ⊢
          clear how4 hb4 B3 O3 RC3 d0 d1 d2 d3 d4 lD
          have d4 := (unhide B4).cell (j := 4) rfl
          have lD := (unhide B4).lt
          go_wp2_with fail
          refine (gCount (unhide O4) (EN : Int) (by omega) (by omega) (by omega)).mono ?_
          rintro e w5 ⟨v5, rfl, hg5⟩
          obtain ⟨hbx5, hne5⟩ := hg5.box (unhide B4) (unhide N3)
          have B5 := hide hbx5
          have N5 := hide hne5
          obtain ⟨q5, eq5⟩ : ∃ b, Hid (q3 ++ ufm (EN : Int) = b) := ⟨_, by unfold Hid; rfl⟩
          have O5 : Hid (Ow W1 v5 q5 w5) := by have := (unhide O4).rg hg5; rwa [unhide eq5] at this
          have L5 : q5.length ≤ 6100400 := by rw [← unhide eq5]; simp only [List.length_append]; omega
          have R5 : Hid (Rd w5 (.slice ea EN ec) (encB fco)) := by
            have h1 := (unhide R4).fr hg5.fr (fun g hg => ((unhide A4) g hg).1)
            exact Rd.of_ro (by rw [unhide hEN]; exact h1)
          have A5 : Hid (∀ b off n c, Value.slice ea EN ec = .slice (some ⟨b, off, none⟩) n c → v5.ownBlock ≠ some b) := fun b off n c e e2 => by
            have e3 : ea = some ⟨b, off, none⟩ := by injection e
            subst e3
            obtain ⟨h1, h2⟩ := (unhide A4) b rfl
            rcases hg5.at' with h3 | ⟨g, h3, h4⟩
            · rw [h3] at e2; exact h1 e2
            · rw [h3] at e2; cases e2; omega
          clear hbx5 hne5 hg5 B4 N3 O4 R4 A4 d4 lD
          have d4 := (unhide B5).cell (j := 4) rfl
          have lD := (unhide B5).lt
          go_wp2_with fail
          refine (putBytes_any W1.heap.size v5 (.slice ea EN ec) q5 (encB fco) w5 (unhide O5).1 (unhide O5).size (unhide R5) (unhide A5) (by rw [unhide hEN]; omega)).mono ?_
          rintro e w6 ⟨v6, rfl, hg6⟩
          obtain ⟨hbx6, hne6⟩ := hg6.box (unhide B5) (unhide N5)
          have B6 := hide hbx6
          have N6 := hide hne6
          obtain ⟨q6, eq6⟩ : ∃ b, Hid (q5 ++ encB fco = b) := ⟨_, by unfold Hid; rfl⟩
          have O6 : Hid (Ow W1 v6 q6 w6) := by have := (unhide O5).rg hg6; rwa [unhide eq6] at this
          have L6 : q6.length ≤ 6122400 := by rw [← unhide eq6]; simp only [List.length_append]; rw [unhide hEN]; omega
          clear hbx6 hne6 hg6 B5 N5 O5 R5 A5 d4 lD
          have d4 := (unhide B6).cell (j := 4) rfl
          have lD := (unhide B6).lt
          go_wp2_with fail
          refine (gCount (unhide O6) (HN : Int) (by omega) (by omega) (by omega)).mono ?_
          rintro e w7 ⟨v7, rfl, hg7⟩
          obtain ⟨hbx7, hne7⟩ := hg7.box (unhide B6) (unhide N6)
          have B7 := hide hbx7
          have N7 := hide hne7
          obtain ⟨q7, eq7⟩ : ∃ b, Hid (q6 ++ ufm (HN : Int) = b) := ⟨_, by unfold Hid; rfl⟩
          have O7 : Hid (Ow W1 v7 (q7 ++ (fhs.take 0).flatMap hfm) w7) := by have := (unhide O6).rg hg7; rw [unhide eq7] at this; unfold Hid; simpa using this
          have L7 : q7.length ≤ 6122500 := by rw [← unhide eq7]; simp only [List.length_append]; omega
          have HQ : Hid (q7 ++ fhs.flatMap hfm = bs ++ (ufm (NF : Int) ++ (p.funcs.take (k + 1)).flatMap ffm)) := by
            unfold Hid
            rw [unhide HFL, ← unhide eq7, ← unhide eq6, ← unhide eq5, ← unhide eq3, ← unhide eq2, ← unhide eq1, ← unhide eq0, ← unhide hEN, ← unhide hHN]
            unfold ffm lfm
            simp only [List.append_assoc]
          have LH : Hid (∀ i, ((fhs.take i).flatMap hfm).length ≤ 1280) := fun i => by
            have h1 := fm_len hfm 40 (fhs.take i) (fun x _ => hfm_len x)
            have h2 : (fhs.take i).length ≤ 32 := by rw [List.length_take, unhide hHN]; omega
            have := Nat.mul_le_mul_right 40 h2
            omega
          clear hbx7 hne7 hg7 B6 N6 O6 d4 lD L0 L1 L2 L3 L5 L6 uln up uo uc uh ue sl
          go_wp2_with fail
          go_loopg [3, 10] HN (fun gg t3 t10 wr => ∃ (i2 : Nat) (hl : Value), Hid (i2 + gg = HN) ∧ t3 = hl ∧ t10 = .int .i64 (i2 : Int) ∧ Hid (Ow W1 hl (q7 ++ (fhs.take i2).flatMap hfm) wr) ∧ Hid (Bx wr 5 bf [.string fnm, .int .i64 fpa, .int .i64 flo, .slice a1 CL c1, .slice a2 HN c2]) ∧ Hid (hl.ownBlock ≠ some bf))
          case atStart => exact ⟨0, _, by unfold Hid; omega, rfl, rfl, unhide O7, unhide B7, unhide N7⟩
          case round =>
            obtain ⟨i2, hl, hi2, e3, rfl, hO, hB, hNe⟩ := hrel
            obtain rfl := e3.symm
            clear e3 O7 B7 N7
            have d4 := (unhide hB).cell (j := 4) rfl
            have lD := (unhide hB).lt
            by_cases hlt2 : i2 < HN
            · have hjl : i2 < fhs.length := by rw [unhide hHN]; exact hlt2
              obtain ⟨h, hhh⟩ : ∃ h, fhs[i2]? = some h := ⟨_, List.getElem?_eq_getElem hjl⟩
              have HRH2 := hide (Rx.elem zH (unhide HRH) hhh)
              obtain ⟨b', off', cap', e', _, _, hb', hcl'⟩ := unhide HRH2
              have e1' : a2 = some ⟨b', off', none⟩ := by injection e'
              subst e1'
              have FrI : Hid (Below w.heap.size w wr) := (unhide F1).trans ((unhide hO).2.mono (unhide F1).size)
              have hnH := unhide HG6 h (List.mem_of_getElem? hhh)
              have hfh := fm_take hfm hhh
              have k0 := ((unhide FrI).cell (p := ⟨b', off' + i2 * 4 + 0, none⟩) hb').trans (hcl' 0 _ rfl)
              have k1 := ((unhide FrI).cell (p := ⟨b', off' + i2 * 4 + 1, none⟩) hb').trans (hcl' 1 _ rfl)
              have k2 := ((unhide FrI).cell (p := ⟨b', off' + i2 * 4 + 2, none⟩) hb').trans (hcl' 2 _ rfl)
              have k3 := ((unhide FrI).cell (p := ⟨b', off' + i2 * 4 + 3, none⟩) hb').trans (hcl' 3 _ rfl)
              have lb := Nat.lt_of_lt_of_le hb' (unhide FrI).size
              rw [Nat.add_zero] at k0
              obtain ⟨hf, ht, hg, hh⟩ := h
              obtain ⟨⟨p1, p1'⟩, ⟨p2, p2'⟩, ⟨p3, p3'⟩, p4, p4'⟩ := hnH
              simp only at k0 k1 k2 k3 p1 p1' p2 p2' p3 p3' p4 p4'
              have j0 : (0 : Int) ≤ (i2 : Int) := by omega
              have j1 : (i2 : Int) < (HN : Int) := by omega
              obtain ⟨Z, eZ⟩ : ∃ Z, Hid (Z = wr.alloc (.cells #[.int .i64 hf, .int .i64 ht, .int .i64 hg, .int .i64 hh] 112)) := ⟨_, rfl⟩
              have hbZ : Below wr.heap.size wr Z := by rw [unhide eZ]; exact (Below.refl _ _).alloc (Nat.le_refl _) _
              obtain ⟨bh, ebh⟩ : ∃ b, Hid (wr.heap.size = b) := ⟨_, rfl⟩
              have H0 : Hid (Bx Z 4 bh [.int .i64 hf, .int .i64 ht, .int .i64 hg, .int .i64 hh]) := by rw [unhide eZ]; exact Bx.new rfl (unhide ebh)
              have M0 : Hid (hl.ownBlock ≠ some bh) := fun e => by have := ((unhide hO).1.lt bh e).2; have := unhide ebh; omega
              have B0 : Hid (Bx Z 5 bf [.string fnm, .int .i64 fpa, .int .i64 flo, .slice a1 CL c1, .slice (some ⟨b', off', none⟩) HN c2]) := (unhide hB).fr (S := fun _ => False) (Fr.of_below hbZ) (fun e => e)
              have N0 : Hid (hl.ownBlock ≠ some bf) := unhide hNe
              obtain ⟨r0, er0⟩ : ∃ b, Hid (q7 ++ (fhs.take i2).flatMap hfm = b) := ⟨_, by unfold Hid; rfl⟩
              have P0 : Hid (Ow W1 hl r0 Z) := by have := (unhide hO).below hbZ; rwa [unhide er0] at this
              have Q0 : r0.length ≤ 6124000 := by have := unhide LH i2; rw [← unhide er0]; simp only [List.length_append]; omega
              have HFH := hide hfh
              have HI2 : Hid (i2 + gk = HN) := hi2
              clear hcl' hb' e' hhh hjl hbZ hfh hO hB hNe hi2 HRH2 FrI
              go_wp2_with fail
              rw [← unhide eZ, unhide ebh]
              clear eZ
              refine (gCount (unhide P0) hf p1 p1' (by omega)).mono ?_
              rintro e z1 ⟨u1, rfl, hgz1⟩
              obtain ⟨x1, x2⟩ := hgz1.box (unhide H0) (unhide M0)
              obtain ⟨x3, x4⟩ := hgz1.box (unhide B0) (unhide N0)
              have H1 := hide x1
              have M1 := hide x2
              have B1 := hide x3
              have N1 := hide x4
              obtain ⟨r1, er1⟩ : ∃ b, Hid (r0 ++ ufm hf = b) := ⟨_, by unfold Hid; rfl⟩
              have P1 : Hid (Ow W1 u1 r1 z1) := by have := (unhide P0).rg hgz1; rwa [unhide er1] at this
              have Q1 : r1.length ≤ 6124100 := by rw [← unhide er1]; simp only [List.length_append]; have := ufm_len hf; omega
              clear x1 x2 x3 x4 hgz1 H0 M0 B0 N0 P0 Q0 k0 k1 k2 k3 lb d4 lD
              have e0 := (unhide H1).cell (j := 0) rfl
              have e1 := (unhide H1).cell (j := 1) rfl
              have e2 := (unhide H1).cell (j := 2) rfl
              have e3 := (unhide H1).cell (j := 3) rfl
              have lE := (unhide H1).lt
              go_wp2_with fail
              refine (gCount (unhide P1) ht p2 p2' (by omega)).mono ?_
              rintro e z2 ⟨u2, rfl, hgz2⟩
              obtain ⟨x1, x2⟩ := hgz2.box (unhide H1) (unhide M1)
              obtain ⟨x3, x4⟩ := hgz2.box (unhide B1) (unhide N1)
              have H2 := hide x1
              have M2 := hide x2
              have B2 := hide x3
              have N2 := hide x4
              obtain ⟨r2, er2⟩ : ∃ b, Hid (r1 ++ ufm ht = b) := ⟨_, by unfold Hid; rfl⟩
              have P2 : Hid (Ow W1 u2 r2 z2) := by have := (unhide P1).rg hgz2; rwa [unhide er2] at this
              have Q2 : r2.length ≤ 6124200 := by rw [← unhide er2]; simp only [List.length_append]; have := ufm_len ht; omega
              clear x1 x2 x3 x4 hgz2 H1 M1 B1 N1 P1 Q1 e0 e1 e2 e3 lE
              have e0 := (unhide H2).cell (j := 0) rfl
              have e1 := (unhide H2).cell (j := 1) rfl
              have e2 := (unhide H2).cell (j := 2) rfl
              have e3 := (unhide H2).cell (j := 3) rfl
              have lE := (unhide H2).lt
              go_wp2_with fail
              refine (gCount (unhide P2) hg p3 p3' (by omega)).mono ?_
              rintro e z3 ⟨u3, rfl, hgz3⟩
              obtain ⟨x1, x2⟩ := hgz3.box (unhide H2) (unhide M2)
              obtain ⟨x3, x4⟩ := hgz3.box (unhide B2) (unhide N2)
              have H3 := hide x1
              have M3 := hide x2
              have B3 := hide x3
              have N3 := hide x4
              obtain ⟨r3, er3⟩ : ∃ b, Hid (r2 ++ ufm hg = b) := ⟨_, by unfold Hid; rfl⟩
              have P3 : Hid (Ow W1 u3 r3 z3) := by have := (unhide P2).rg hgz3; rwa [unhide er3] at this
              have Q3 : r3.length ≤ 6124300 := by rw [← unhide er3]; simp only [List.length_append]; have := ufm_len hg; omega
              clear x1 x2 x3 x4 hgz3 H2 M2 B2 N2 P2 Q2 e0 e1 e2 e3 lE
              have e0 := (unhide H3).cell (j := 0) rfl
              have e1 := (unhide H3).cell (j := 1) rfl
              have e2 := (unhide H3).cell (j := 2) rfl
              have e3 := (unhide H3).cell (j := 3) rfl
              have lE := (unhide H3).lt
              go_wp2_with fail
              refine (gCount (unhide P3) hh p4 p4' (by omega)).mono ?_
              rintro e z4 ⟨u4, rfl, hgz4⟩
              obtain ⟨x1, x2⟩ := hgz4.box (unhide H3) (unhide M3)
              obtain ⟨x3, x4⟩ := hgz4.box (unhide B3) (unhide N3)
              have H4 := hide x1
              have M4 := hide x2
              have B4 := hide x3
              have N4 := hide x4
              obtain ⟨r4, er4⟩ : ∃ b, Hid (r3 ++ ufm hh = b) := ⟨_, by unfold Hid; rfl⟩
              have P4 : Hid (Ow W1 u4 r4 z4) := by have := (unhide P3).rg hgz4; rwa [unhide er4] at this
              have Q4 : r4.length ≤ 6124400 := by rw [← unhide er4]; simp only [List.length_append]; have := ufm_len hh; omega
              clear x1 x2 x3 x4 hgz4 H3 M3 B3 N3 P3 Q3 e0 e1 e2 e3 lE
              have e0 := (unhide H4).cell (j := 0) rfl
              have e1 := (unhide H4).cell (j := 1) rfl
              have e2 := (unhide H4).cell (j := 2) rfl
              have e3 := (unhide H4).cell (j := 3) rfl
              have lE := (unhide H4).lt
              have OE : Hid (Ow W1 u4 (q7 ++ (fhs.take (i2 + 1)).flatMap hfm) z4) := by
                have h1 : q7 ++ (fhs.take (i2 + 1)).flatMap hfm = r4 := by
                  rw [unhide HFH, ← unhide er4, ← unhide er3, ← unhide er2, ← unhide er1, ← unhide er0]
                  unfold hfm
                  simp only [List.append_assoc]
                unfold Hid
                rw [h1]
                exact unhide P4
              clear e0 e1 e2 e3 lE P4
              go_wp2_with fail
              go_roundg (gk - 1)
              case measure => have := unhide HI2; omega
              case rel => exact ⟨i2 + 1, u4, by have := unhide HI2; unfold Hid; omega, rfl, by go_num, unhide OE, unhide B4, unhide N4⟩
            · have hN2 : i2 = HN := by have := unhide hi2; omega
              have j1 : ¬ (i2 : Int) < (HN : Int) := by omega
              have OE : Hid (Ow W1 hl (bs ++ (ufm (NF : Int) ++ (p.funcs.take (k + 1)).flatMap ffm)) wr) := by
                have h1 : fhs.take i2 = fhs := List.take_of_length_le (by rw [unhide hHN]; omega)
                have := unhide hO
                rw [h1, unhide HQ] at this
                exact this
              clear hO hB hNe
              go_wp2_with fail
              go_roundg (gO - 1)
              case measure => have := unhide HK; have := unhide hgO; omega
              case rel => exact ⟨k + 1, hl, by have := unhide HK; unfold Hid; omega, rfl, by go_num, unhide OE⟩
        · have hkN : k = NF := by have := unhide hk; omega
          subst hkN
          have i2 : ¬ (k : Int) < (k : Int) := by omega
          have hres : Hid (wr.ownsRow w.heap.size 5 1 ul (pfm p).length ((pfm p).map By) ∧ Below w.heap.size w wr) := by
            refine ⟨?_, unhide Fr1⟩
            have h1 : p.funcs.take k = p.funcs := List.take_of_length_le (by rw [unhide hNF]; exact Nat.le_refl _)
            have h2 := (unhide hO).1
            rw [h1] at h2
            have e : pfm p = bs ++ (ufm k ++ p.funcs.flatMap ffm) := by unfold pfm; rw [← unhide ebs, ← unhide hNF]; unfold lfm; simp only [List.append_assoc]
            rw [e]
            exact own_low h2 (unhide F1).size
          go_wp2_with fail
          go_ret
          exact ⟨_, rfl, (unhide hres).1, (unhide hres).2⟩
end Go.Proofs.YtlogmdldjmkkjaaGreatDoor
