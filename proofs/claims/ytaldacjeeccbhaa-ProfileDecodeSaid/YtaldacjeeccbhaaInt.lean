/-
  Numbers with a sign.
-/
import Derived.Test.YtaldacjeeccbhaaPut
import Derived.Maps.AppendAt
import Derived.Lib.AppendStr
namespace Go.Proofs.Ytaldacjeeccbhaa
open Go.RowKit

set_option maxRecDepth 100000 in
set_option maxHeartbeats 400000 in
theorem newWriter_any (w : World) (p : Nat) (hp : w.heap.size = p) :
    Calls Try.prog 38 #[] w fun e w' => e = .returned (.pointer (some ⟨p, 0, none⟩)) ∧ Wtr w' p (.slice none 0 0) [] ∧ Below p w w' ∧ p < w'.heap.size := by
  subst hp
  go_enter Try.func38, Try.ntmps38
  go_wp2
  go_ret
  refine ⟨rfl, ⟨by simp, ?_, World.ownsRow_nil _ _ _ _, by simp [Value.ownBlock]⟩, (Below.refl _ _).alloc (Nat.le_refl _) _, by simp⟩
  simp only [World.frozen?, heap_alloc_new]; rfl

set_option maxRecDepth 100000 in
set_option maxHeartbeats 400000 in
theorem byte_any (p : Nat) (v : Value) (bs : List Int) (x : Int) (w : World) (h : Wtr w p v bs) (hb : bs.length < 140737488355328) :
    Calls Try.prog 58 #[.pointer (some ⟨p, 0, none⟩), .int .u8 x] w fun e w' => e = .returned (.tuple #[]) ∧ ∃ v', Wtr w' p v' (bs ++ [x]) ∧ WStep p w v w' v' := by
  have h1 := hide (put8_any p v bs x w h hb)
  clear h hb
  go_enter Try.func58, Try.ntmps58
  go_wp2_with fail
  refine (unhide h1).mono ?_
  rintro e w' ⟨rfl, hh⟩
  go_wp2
  go_end0
  exact ⟨rfl, hh⟩

set_option maxRecDepth 100000 in
set_option maxHeartbeats 800000 in
theorem uint_any (p : Nat) (v : Value) (bs : List Int) (x : Nat) (w : World) (h : Wtr w p v bs) (hb : bs.length + 10 ≤ 140737488355328) (hx : x < 2 ^ 64) :
    Calls Try.prog 40 #[.pointer (some ⟨p, 0, none⟩), .int .u64 x] w fun e w' => e = .returned (.tuple #[]) ∧ ∃ v', Wtr w' p v' (bs ++ Wm.uform 9 x) ∧ WStep p w v w' v' := by
  have hS : Wm.UAt x x 9 [] := Wm.UAt.start x hx
  have hS2 : Wtr w p v (bs ++ []) := by simpa using h
  clear h
  go_enter Try.func40, Try.ntmps40
  go_wp2
  go_loopg [1] 9 (fun k s wr => ∃ (z : Nat) (done : List Int) (v' : Value), s = .int .u64 z ∧ Wm.UAt x z k done ∧ Wtr wr p v' (bs ++ done) ∧ WStep p w v wr v')
  case atStart => exact ⟨x, [], v, rfl, hS, hS2, WStep.refl _ _ _⟩
  case round =>
    obtain ⟨z, done, v', rfl, hU, hW, hT⟩ := hrel
    clear hS hS2
    have hl : (bs ++ done).length < 140737488355328 := by have := hU.len; rw [List.length_append]; omega
    have HU := hide hU
    have HT := hide hT
    have HW := hide hW
    clear hU hW hT
    by_cases hlt : 128 ≤ z
    · go_wp2_with fail
      refine (put8_any p v' (bs ++ done) _ wr (unhide HW) hl).mono ?_
      rintro e w' ⟨rfl, v2, hW2, hT2⟩
      have HW2 := hide hW2
      have HT2 := hide hT2
      clear hW2 hT2
      obtain ⟨m, rfl, hN⟩ := (unhide HU).next hlt
      have HN := hide hN
      clear hN
      go_wp2
      go_roundg m
      case measure => omega
      case rel => exact ⟨z / 128, done ++ [((z % 128 + 128 : Nat) : Int)], v2, by go_num, unhide HN, by rw [← List.append_assoc, ← Wm.or128i z]; exact unhide HW2, (unhide HT).trans (unhide HT2)⟩
    · have HD := hide ((unhide HU).done (by omega))
      go_wp2_with fail
      refine (put8_any p v' (bs ++ done) _ wr (unhide HW) hl).mono ?_
      rintro e w' ⟨rfl, v2, hW2, hT2⟩
      have HW2 := hide hW2
      have HT2 := hide hT2
      clear hW2 hT2
      go_wp2
      go_end0
      exact ⟨rfl, v2, by rw [← unhide HD, ← List.append_assoc]; exact unhide HW2, (unhide HT).trans (unhide HT2)⟩


theorem addr_add0 (g i : Nat) : (⟨g, 0, none⟩ : Addr).add i = ⟨g, i, none⟩ := by unfold Addr.add; split <;> simp_all

/-- The slice v reads as the bytes bs. -/
def Rd (w : World) (v : Value) (bs : List Int) : Prop :=
  (v = .slice none 0 0 ∧ bs = []) ∨ ∃ b off cap, v = .slice (some ⟨b, off, none⟩) bs.length cap ∧ bs.length ≤ cap ∧ cap ≤ maxLen ∧ b < w.heap.size ∧ ∀ i, i < bs.length → w.cell? ⟨b, off + i, none⟩ = some (.int .u8 (bs.getD i 0))

theorem Rd.of_own {w : World} {base : Nat} {v : Value} {bs : List Int} (h : w.ownsRow base 5 1 v bs.length (bs.map By)) : Rd w v bs := by
  have hl := h.lt
  have hcs : ∀ g, v.ownBlock = some g → _ := fun g => @World.ownsRow.cells w base 5 1 v bs.length (bs.map By) h g
  rcases h.2 with ⟨rfl, h0⟩ | ⟨g, cap, cur, rfl, hb, hg, hn, hc, hs, ht⟩
  · exact .inl ⟨rfl, List.eq_nil_of_length_eq_zero h0⟩
  · refine .inr ⟨g, 0, cap, rfl, hn, hc, (hl g rfl).2, fun i hi => ?_⟩
    have := hcs g rfl i (By (bs.getD i 0)) (by simp [List.getD, hi])
    rw [addr_add0] at this
    simpa [By] using this

theorem Rd.keep {w w' : World} {S : Nat → Prop} {v : Value} {bs : List Int} (h : Rd w v bs) (f : Fr S w w') (hS : ∀ b off len cap, v = .slice (some ⟨b, off, none⟩) len cap → ¬ S b) : Rd w' v bs := by
  rcases h with h | ⟨b, off, cap, rfl, h1, h2, h3, h4⟩
  · exact .inl h
  · refine .inr ⟨b, off, cap, rfl, h1, h2, Nat.lt_of_lt_of_le h3 f.size, fun i hi => ?_⟩
    rw [f.cell (a := ⟨b, off + i, none⟩) h3 (hS b off _ cap rfl)]
    exact h4 i hi
theorem Rd.below {w w' : World} {v : Value} {bs : List Int} (h : Rd w v bs) (f : Below w.heap.size w w') : Rd w' v bs :=
  h.keep (Fr.of_below (S := fun _ => False) f) (by simp)

theorem addr_add_block (a : Addr) (j : Nat) : (a.add j).block = a.block := by unfold Addr.add; split <;> rfl

set_option maxRecDepth 100000 in
set_option maxHeartbeats 400000 in
theorem clone_nil (w : World) :
    Calls Try.prog 60 #[.slice none 0 0] w fun e w' => e = .returned (.slice none 0 0) ∧ w = w' := by
  have hnil := fun (a : Option Addr) (n c : Nat) (w : World) => Lib.run_eql_slice_nil (P := Try.prog) w 33 5 a n c 0 0 Try.underlying33
  go_enter Try.func60, Try.ntmps60
  go_wp2
  go_ret
  exact ⟨rfl, rfl⟩

set_option maxRecDepth 100000 in
set_option maxHeartbeats 400000 in
theorem clone_some (a : Addr) (n cap : Nat) (news : List Value) (w : World) (hl : news.length = n) (hnews : ∀ j u, news[j]? = some u → w.cell? (a.add j) = some u) (h1 : ∀ u ∈ news, u.oneCell' = true) (hn : n ≤ 140737488355328) (ha : a.block < w.heap.size) :
    Calls Try.prog 60 #[.slice (some a) n cap] w fun e w' => ∃ v', e = .returned v' ∧ w'.ownsRow w.heap.size 5 1 v' n news ∧ Below w.heap.size w w' := by
  have hnil := fun (a : Option Addr) (n c : Nat) (w : World) => Lib.run_eql_slice_nil (P := Try.prog) w 33 5 a n c 0 0 Try.underlying33
  obtain ⟨i0, hi0, hz0, hz1, hz2⟩ := info_parts Try.info5
  have HN : Hid (∀ j u, news[j]? = some u → (w.alloc (.cells #[] 5)).cell? (a.add j) = some u) := fun j u hj =>
    (World.cell?_of_block (w := w) (Below.heap_alloc w _ _ (by rw [addr_add_block]; exact ha))).trans (hnews j u hj)
  have H1 := hide h1
  have HL := hide hl
  clear hnews h1 hl ha
  go_enter Try.func60, Try.ntmps60
  go_wp2_with (at_builtin; refine wpList_append_own_at _ rfl (.tmp 5) (.tmp 6) 33 rfl w.heap.size 5 i0 (.int .u8 0) 1 1 Try.underlying33 hi0 hz0 hz1 hz2 rfl (by omega) (.slice (some ⟨w.heap.size, 0, none⟩) 0 0) 0 [] rfl (World.ownsRow_made w #[] 0 (Nat.le_refl _) (by unfold maxLen; omega) rfl) a n cap news rfl (by rw [unhide HL]; omega) (unhide HN) (unhide H1) (by unfold maxLen; omega) (by omega) (by simp) ?_)
  intro v' w1 ho hg _ _
  go_wp2
  go_ret
  refine ⟨v', rfl, by simpa using ho, ?_⟩
  exact ((Below.refl _ _).alloc (Nat.le_refl _) _).grown hg (by simp) (by intro k hk; simp [Value.ownBlock] at hk; omega)

set_option maxRecDepth 100000 in
set_option maxHeartbeats 400000 in
/-- Done, of a writer: what it holds, in memory of its own. -/
theorem done_any (p : Nat) (v : Value) (bs : List Int) (w : World) (h : Wtr w p v bs) (hb : bs.length ≤ 140737488355328) :
    Calls Try.prog 43 #[.pointer (some ⟨p, 0, none⟩)] w fun e w' => ∃ v', e = .returned v' ∧ w'.ownsRow w.heap.size 5 1 v' bs.length (bs.map By) ∧ Below w.heap.size w w' := by
  have hc := h.cell
  have hlt := h.row_lt
  rcases h.own.2 with ⟨rfl, h0⟩ | ⟨g, cap, cur, rfl, _, hg, hn, hcm, hs, ht⟩
  · have hbs : bs = [] := List.eq_nil_of_length_eq_zero h0
    subst hbs
    clear h hlt
    go_enter Try.func43, Try.ntmps43
    go_wp2_with (go_at_call 60; refine (clone_nil _).mono ?_; rintro e w' ⟨rfl, rfl⟩)
    go_ret
    exact ⟨_, rfl, World.ownsRow_nil _ _ _ _, Below.refl _ _⟩
  · have hcl := hide (clone_some ⟨g, 0, none⟩ bs.length cap (bs.map By) w (by simp) (@World.ownsRow.cells w 0 5 1 _ bs.length (bs.map By) h.own g rfl) (by simp [By, Value.oneCell']) hb (hlt g rfl))
    clear h hlt hg hs ht hcm hn
    go_enter Try.func43, Try.ntmps43
    go_wp2_with fail
    refine (unhide hcl).mono ?_
    rintro e w' ⟨v', rfl, ho, hb⟩
    go_wp2
    go_ret
    exact ⟨v', rfl, ho, hb⟩


/-- The number that stands for one with a sign. -/
def foldI (n : Int) : Int := if 0 ≤ n then 2 * n else -2 * n - 1

theorem nat_xor_ones (a : Nat) (h : a < 2 ^ 64) : a ^^^ (2 ^ 64 - 1) = 2 ^ 64 - 1 - a := by
  have e := congrArg BitVec.toNat (BitVec.xor_allOnes (x := BitVec.ofNat 64 a))
  rw [BitVec.toNat_xor, BitVec.toNat_not, BitVec.toNat_allOnes, BitVec.toNat_ofNat, Nat.mod_eq_of_lt h] at e
  exact e
theorem xor_zero64 (a : Int) (h0 : 0 ≤ a) (h1 : a < 18446744073709551616) : bits .xor .u64 a 0 = a := by
  rw [u64_xor a 0 h0 h1 (by omega) (by omega)]
  simp only [Int.toNat_zero, Nat.xor_zero]; omega
theorem xor_ones64 (a : Int) (h0 : 0 ≤ a) (h1 : a < 18446744073709551616) : bits .xor .u64 a 18446744073709551615 = 18446744073709551615 - a := by
  rw [u64_xor a 18446744073709551615 h0 h1 (by omega) (by omega)]
  have e := nat_xor_ones a.toNat (by omega)
  rw [show (18446744073709551615 : Int).toNat = 2 ^ 64 - 1 from rfl, e]
  omega
theorem fold_pos (n : Int) (hn : 0 ≤ n) (h1 : n ≤ 9223372036854775807) : bits BinOp.xor IntKind.u64 (n * 2) (n / 9223372036854775808) = foldI n := by
  rw [show n / 9223372036854775808 = 0 from by omega, xor_zero64 _ (by omega) (by omega), foldI, if_pos hn]; omega
theorem fold_neg (n : Int) (hn : n < 0) (h0 : -9223372036854775808 ≤ n) : bits BinOp.xor IntKind.u64 (IntKind.u64.wrap (IntKind.u64.wrap n * 2)) (IntKind.u64.wrap (n / 9223372036854775808)) = foldI n := by
  simp only [IntKind.wrap_u64]
  rw [show n / 9223372036854775808 % 18446744073709551616 = 18446744073709551615 from by omega, xor_ones64 _ (by omega) (by omega), foldI, if_neg (by omega)]; omega
theorem foldI_bd (n : Int) (h0 : -9223372036854775808 ≤ n) (h1 : n ≤ 9223372036854775807) : 0 ≤ foldI n ∧ foldI n < 18446744073709551616 := by
  unfold foldI; split <;> omega

set_option maxRecDepth 100000 in
set_option maxHeartbeats 400000 in
theorem fold_any (n : Int) (w : World) (h0 : -9223372036854775808 ≤ n) (h1 : n ≤ 9223372036854775807) :
    Calls Try.prog 83 #[.int .i64 n] w fun e w' => e = .returned (.int .u64 (foldI n)) ∧ w' = w := by
  by_cases hn : 0 ≤ n
  · have e := hide (fold_pos n hn h1)
    go_enter Try.func83, Try.ntmps83
    go_wp2
    go_ret
    exact ⟨ret_int (unhide e), rfl⟩
  · have e := hide (fold_neg n (by omega) h0)
    go_enter Try.func83, Try.ntmps83
    go_wp2
    go_ret
    exact ⟨ret_int (unhide e), rfl⟩

set_option maxRecDepth 100000 in
set_option maxHeartbeats 400000 in
theorem int_any (p : Nat) (v : Value) (bs : List Int) (n : Int) (w : World) (h : Wtr w p v bs) (hb : bs.length + 10 ≤ 140737488355328) (h0 : -9223372036854775808 ≤ n) (h1 : n ≤ 9223372036854775807) :
    Calls Try.prog 59 #[.pointer (some ⟨p, 0, none⟩), .int .i64 n] w fun e w' => e = .returned (.tuple #[]) ∧ ∃ v', Wtr w' p v' (bs ++ Wm.uform 9 (foldI n).toNat) ∧ WStep p w v w' v' := by
  have hbd := foldI_bd n h0 h1
  have hF := fold_any n w h0 h1
  obtain ⟨y, hy⟩ : ∃ y : Nat, foldI n = y := ⟨(foldI n).toNat, by omega⟩
  rw [hy] at hbd hF ⊢
  have HF := hide hF
  have HU := hide (uint_any p v bs y w h hb (by omega))
  rw [Int.toNat_natCast]
  clear hy hbd h hF h0 h1
  go_enter Try.func59, Try.ntmps59
  go_wp2_with fail
  refine (unhide HF).mono ?_
  rintro e w' ⟨rfl, rfl⟩
  go_wp2_with fail
  refine (unhide HU).mono ?_
  rintro e w' ⟨rfl, hh⟩
  go_wp2
  go_end0
  exact ⟨rfl, hh⟩
end Go.Proofs.Ytaldacjeeccbhaa
