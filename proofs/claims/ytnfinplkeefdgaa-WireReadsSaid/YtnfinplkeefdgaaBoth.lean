/-
  The program's reader and the document's answer alike.
-/
import Derived.Test.YtnfinplkeefdgaaCloses
namespace Go.Proofs.Ytnfinplkeefdgaa
open Go.RowKit

set_option maxHeartbeats 800000 in
set_option maxRecDepth 100000 in
theorem get5own (r : Nat) {rb : Nat} (v : Value) (bs : List Int) (on : Int) (m : Nat) (w : World) (h : Rdr w r rb v bs 0) (hrb : rb < w.heap.size) (hB : BOk bs) (hl : bs.length ≤ 140737488355328) (hm : m ≤ bs.length) :
    Calls Try.prog 32 #[.pointer (some ⟨r, 0, none⟩), GetV on 5 (m : Int)] w fun e w' => ∃ val, GPost r rb w 0 (toStr (bs.take m)) 0 val (bs.drop m) 0 e w' ∧ w'.ownsRow (w.heap.size + 2) 5 1 val m ((bs.take m).map By) := by
  have hr := h.lt
  have hC := rRaw_good r v bs m ((w.alloc (.cells #[.int .i64 on, .int .i64 5, .int .i64 (m : Int)] 57)).alloc (.cells #[.int .u64 0, .string ByteArray.empty, .int .i64 0] 59)) ((h.alloc _).alloc _) hl hm
  obtain ⟨s, hs⟩ : ∃ s, Hid (toStr (bs.take m) = s) := ⟨_, rfl⟩
  obtain ⟨left, hlf⟩ : ∃ left, Hid (bs.drop m = left) := ⟨_, rfl⟩
  rw [unhide hs, unhide hlf]
  rw [unhide hlf] at hC
  have HC := hide hC
  have hdr : Hid (RFr r w ((w.alloc (.cells #[.int .i64 on, .int .i64 5, .int .i64 (m : Int)] 57)).alloc (.cells #[.int .u64 0, .string ByteArray.empty, .int .i64 0] 59))) := RFr.alloc2 r w _ _
  clear h hC
  unfold GetV
  go_enter Try.func32, Try.ntmps32
  go_wp2_with fail
  refine (unhide HC).mono ?_
  rintro e w1 ⟨val, rfl, ho, v2, h1, h2⟩
  have c0 : w1.cell? ⟨w.heap.size + 1, 0, none⟩ = some (.int .u64 0) := (Fr.cell h2 (a := ⟨w.heap.size + 1, 0, none⟩) (by simp) (by simp; omega)).trans (by simp)
  have c1 : w1.cell? ⟨w.heap.size + 1, 1, none⟩ = some (.string ByteArray.empty) := (Fr.cell h2 (a := ⟨w.heap.size + 1, 1, none⟩) (by simp) (by simp; omega)).trans (by simp)
  have c2 : w1.cell? ⟨w.heap.size + 1, 2, none⟩ = some (.int .i64 0) := (Fr.cell h2 (a := ⟨w.heap.size + 1, 2, none⟩) (by simp) (by simp; omega)).trans (by simp)
  have f0 : w1.frozen? ⟨w.heap.size + 1, 0, none⟩ = false := (Fr.frozen h2 (a := ⟨w.heap.size + 1, 0, none⟩) (by simp) (by simp; omega)).trans (by simp)
  have f1 : w1.frozen? ⟨w.heap.size + 1, 1, none⟩ = false := (Fr.frozen h2 (a := ⟨w.heap.size + 1, 1, none⟩) (by simp) (by simp; omega)).trans (by simp)
  have f2 : w1.frozen? ⟨w.heap.size + 1, 2, none⟩ = false := (Fr.frozen h2 (a := ⟨w.heap.size + 1, 2, none⟩) (by simp) (by simp; omega)).trans (by simp)
  have hcv := str_conv w1 val (bs.take m) (Rd.of_own (by rw [show (bs.take m).length = m from by simp; omega]; exact ho)) (hB.take m)
  rw [unhide hs] at hcv
  have HH := hide (And.intro h1 ((unhide hdr).trans h2))
  have HO := hide (own_mono (base' := w.heap.size + 2) ho (by simp))
  clear h1 h2 ho
  go_wp2
  (try simp only [Exit.inBlock, Exit.then])
  refine bodyPost_ret (v := .tuple #[GotV 0 s 0, val]) ?_ rfl ⟨val, ⟨rfl, v2, got_close (w.heap.size + 1) _ _ _ hrb hr (by omega) (unhide HH).1 (unhide HH).2⟩, ?_⟩
  · rw [results_cell_tmp rfl]
    unfold GotV
    go_simp
    all_goals rfl
  · exact own_set (own_set (own_set (unhide HO) ⟨w.heap.size + 1, 0, none⟩ (by simp) _) ⟨w.heap.size + 1, 1, none⟩ (by simp) _) ⟨w.heap.size + 1, 2, none⟩ (by simp) _

/-- A byte appended to a row of one's own: the new row, where it lies, and THE OLD ROW READS AS IT DID. -/
theorem run_append_keep (w : World) (base : Nat) (ty : TypeId) (v : Value) (bs : List Int) (hown : w.ownsRow base 5 1 v bs.length (bs.map By)) (a : Addr) (c : Nat) (b : Int)
    (hnews : ∀ j u, [By b][j]? = some u → w.cell? (a.add j) = some u) (hN : bs.length + 1 ≤ 140737488355328) (hbase : base ≤ w.heap.size) :
    ∃ v' w', (Builtin.append_ #[22, 22] ty #[v, .slice (some a) 1 c]).run Try.prog w = .ok v' w' ∧ w'.ownsRow base 5 1 v' (bs.length + 1) (bs.map By ++ [By b]) ∧ w.grownBy w' v.ownBlock ∧
      (v'.ownBlock = v.ownBlock ∨ v'.ownBlock = some w.heap.size) ∧ Rd w' v bs := by
  obtain ⟨i0, hi0, hz0, hz1, hz2⟩ := info_parts Try.info5
  obtain ⟨v', w', hr, ho, hg, _, hat⟩ := run_append_own_at (P := Try.prog) w base 22 ty 5 i0 (.int .u8 0) 1 1 Try.underlying22 hi0 hz0 hz1 hz2 rfl (by decide) v bs.length (bs.map By) hown a 1 c [By b] rfl hnews (by simp [By, Value.oneCell']) (by unfold maxLen; omega) (by omega) hbase
  refine ⟨v', w', hr, ho, hg, hat, ?_⟩
  have hR := Rd.of_own hown
  rcases hown.2 with ⟨rfl, h0⟩ | ⟨g, cap, cur, rfl, hbg, hgc, hnc, hcm, hcs, htake⟩
  · exact .inl ⟨rfl, List.eq_nil_of_length_eq_zero h0⟩
  · have hlt : g < w.heap.size := (hown.lt g rfl).2
    by_cases hroom : bs.length + 1 ≤ cap
    · -- in place
      have hvb : v'.ownBlock = some g := by
        have hr2 := run_append_room (P := Try.prog) w 22 ty 5 i0 Try.underlying22 hi0 g bs.length cap cur hgc a 1 c [By b] (by rw [hz1]; rfl) hnews (by simp [By, Value.oneCell']) hroom (by rw [hz1]; simp; omega)
        rw [hr] at hr2
        simp only [Result.ok.injEq] at hr2
        rw [hr2.1]; rfl
      have hc := ho.cells (g := g) hvb
      refine .inr ⟨g, 0, cap, rfl, hnc, hcm, Nat.lt_of_lt_of_le hlt hg.size, fun i hi => ?_⟩
      have := hc i (By (bs.getD i 0)) (by rw [List.getElem?_append_left (by simpa using hi)]; simp [List.getD, hi])
      rw [addr_add] at this
      exact this
    · -- moved
      have holds : ∀ j u, (bs.map By)[j]? = some u → w.cell? ((⟨g, 0, none⟩ : Addr).add j) = some u := hown.cells (g := g) rfl
      have hr2 := run_append_grow (P := Try.prog) w 22 ty 5 i0 (.int .u8 0) Try.underlying22 hi0 hz0 ⟨g, 0, none⟩ bs.length cap (bs.map By) (by rw [hz1]; simp) holds a 1 c [By b] (by rw [hz1]; rfl) hnews (by omega) (by omega) (growslice_fits (by omega) (by rw [hz2]; omega))
      rw [hr] at hr2
      simp only [Result.ok.injEq] at hr2
      rw [hr2.2]
      exact hR.keep (S := fun _ => False) ((Fr.refl _ w).drew.alloc _) (by simp)


/-- The list that a call hands out: none, or Raw's, a row of its own. -/
def LOk (N : Nat) (kind : Int) (w w' : World) (l : Value) : Prop := l = .slice none 0 0 ∨ kind = 5 ∧ ∃ xs : List Int, xs.length ≤ N ∧ w'.ownsRow (w.heap.size + 2) 5 1 l xs.length (xs.map By)

/-- What both answer to a call. -/
structure Both (bs : List Int) (e0 on kind n : Int) (x : Int) (s : ByteArray) (nn : Int) (left : List Int) (e1 : Int) : Prop where
  ok : BOk left
  len : left.length ≤ bs.length
  get : ∀ r rb v w, Rdr w r rb v bs e0 → rb < w.heap.size → Calls Try.prog 32 #[.pointer (some ⟨r, 0, none⟩), GetV on kind n] w fun e w' => ∃ l, GPost r rb w x s nn l left e1 e w' ∧ LOk bs.length kind w w' l
  ref : ∀ q qb v B pl w, RefR w q qb v B pl e0 → B.drop pl = bs → BOk B → B.length ≤ 140737488355328 → qb < w.heap.size → Calls Try.prog 36 #[.pointer (some ⟨q, 0, none⟩), GetV on kind n] w fun e w' => RGPost q qb v B w x s nn left e1 e w'

theorem both (bs : List Int) (e0 on kind n : Int) (hB : BOk bs) (hl : bs.length ≤ 140737488355328) (hn : n ≤ 9223372036854775807) : ∃ x s nn left e1, Both bs e0 on kind n x s nn left e1 := by
  by_cases hk : kind < 0 ∨ 8 < kind
  · exact ⟨0, ByteArray.empty, rEnd bs e0, bs, e0, hB, Nat.le_refl _, fun r rb v w h _ => (get9 r v bs e0 on n kind hk w h).mono fun e w' hp => ⟨_, hp, .inl rfl⟩,
      fun q qb v B pl w h hd _ _ hqb => by subst hd; exact getRef9 q v B pl e0 on n kind hk w h hqb⟩
  obtain ⟨k, rfl⟩ := Int.eq_ofNat_of_zero_le (show 0 ≤ kind by omega)
  have hk8 : k ≤ 8 := by omega
  clear hk
  match k, hk8 with
  | 0, _ =>
    obtain ⟨b, left, e1, hres, _⟩ := stepByte bs e0 hB
    obtain ⟨_, _, s3, s4⟩ := (leavesByte bs hB).res hB hres
    exact ⟨b, ByteArray.empty, 0, left, e1, s4, s3, fun r rb v w h hrb => (get0 r v bs left e0 e1 on n b (byteBd bs e0 hB hres) hres w h hrb).mono fun e w' hp => ⟨_, hp, .inl rfl⟩,
      fun q qb v B pl w h hd hB2 hN hqb => by subst hd; exact getRef0 q v B pl left e0 e1 on n b (byteBd _ e0 hB hres) hres w h hqb hN⟩
  | 1, _ =>
    obtain ⟨x, left, e1, hres, hx, _⟩ := stepUint bs e0 hB
    obtain ⟨_, _, s3, s4⟩ := (leavesNum _ bs hB).res hB hres
    exact ⟨(x : Int), ByteArray.empty, 0, left, e1, s4, s3, fun r rb v w h hrb => (get1 r v bs left e0 e1 on n (x : Int) hres hB w h hrb).mono fun e w' hp => ⟨_, hp, .inl rfl⟩,
      fun q qb v B pl w h hd hB2 hN hqb => by subst hd; exact getRef1 q v B pl left e0 e1 on n (x : Int) hres hB2 w h hqb hN⟩
  | 2, _ =>
    obtain ⟨x, left, e1, hres, hx, _⟩ := stepInt bs e0 hB
    obtain ⟨_, _, s3, s4⟩ := (leavesNum _ bs hB).res hB hres
    exact ⟨(IntKind.u64.wrap x), ByteArray.empty, 0, left, e1, s4, s3, fun r rb v w h hrb => (get2 r v bs left e0 e1 on n x hres hB w h hrb).mono fun e w' hp => ⟨_, hp, .inl rfl⟩,
      fun q qb v B pl w h hd hB2 hN hqb => by subst hd; exact getRef2 q v B pl left e0 e1 on n x hres hB2 w h hqb hN⟩
  | 3, _ =>
    obtain ⟨x, left, e1, hres, hx, _⟩ := stepWord bs e0 hB
    obtain ⟨_, _, s3, s4⟩ := (leavesWord bs hB).res hB hres
    exact ⟨(x : Int), ByteArray.empty, 0, left, e1, s4, s3, fun r rb v w h hrb => (get3 r v bs left e0 e1 on n (x : Int) hres hB w h hrb).mono fun e w' hp => ⟨_, hp, .inl rfl⟩,
      fun q qb v B pl w h hd hB2 hN hqb => by subst hd; exact getRef3 q v B pl left e0 e1 on n (x : Int) hres hB2 w h hqb hN⟩
  | 4, _ =>
    obtain ⟨s, left, e1, hres, hx, _⟩ := stepText n bs e0 hB
    obtain ⟨_, _, s3, s4⟩ := (leavesText n bs hB).res hB hres
    exact ⟨0, s, 0, left, e1, s4, s3, fun r rb v w h hrb => (get4 r v bs left e0 e1 on n s hres hB hn w h hrb).mono fun e w' hp => ⟨_, hp, .inl rfl⟩,
      fun q qb v B pl w h hd hB2 hN hqb => by subst hd; exact getRef4 q v B pl left e0 e1 on n s hres hB2 hn w h hqb hN⟩
  | 5, _ =>
    by_cases hbad : e0 ≠ 0 ∨ n < 0 ∨ (bs.length : Int) < n
    · exact ⟨0, ByteArray.empty, 0, bs, rawErr n e0, hB, Nat.le_refl _, fun r rb v w h hrb => (get5bad r v bs e0 on n w h hrb hbad).mono fun e w' hp => ⟨_, hp, .inl rfl⟩,
        fun q qb v B pl w h hd _ hN hqb => by subst hd; exact getRef5bad q v B pl e0 on n w h hqb hN hbad⟩
    · have he : e0 = 0 := by
        rcases Classical.em (e0 = 0) with q | q
        · exact q
        · exact absurd (.inl q) hbad
      have hn0 : 0 ≤ n := by
        rcases Int.lt_or_le n 0 with q | q
        · exact absurd (.inr (.inl q)) hbad
        · exact q
      have hnl : n ≤ (bs.length : Int) := by
        rcases Int.lt_or_le (bs.length : Int) n with q | q
        · exact absurd (.inr (.inr q)) hbad
        · exact q
      subst he
      obtain ⟨m, rfl⟩ := Int.eq_ofNat_of_zero_le hn0
      have hm : m ≤ bs.length := by omega
      refine ⟨0, toStr (bs.take m), 0, bs.drop m, 0, hB.drop m, by rw [List.length_drop]; omega, fun r rb v w h hrb => (get5own r v bs on m w h hrb hB hl hm).mono fun e w' ⟨val, hp, ho⟩ => ⟨val, hp, .inr ⟨rfl, bs.take m, by simp; omega, ?_⟩⟩,
        fun q qb v B pl w h hd hB2 hN hqb => ?_⟩
      · rw [show (bs.take m).length = m from by simp; omega]; exact ho
      · subst hd
        rw [List.drop_drop]
        exact getRef5good q v B pl m on w h hqb hB2 hN (by rw [List.length_drop] at hm; have := h.le; omega)
  | 6, _ =>
    obtain ⟨x, left, e1, hres⟩ := countShape n bs e0
    obtain ⟨_, _, s3, s4⟩ := (leavesMost _ n bs hB).res hB hres
    exact ⟨(IntKind.u64.wrap x), ByteArray.empty, 0, left, e1, s4, s3, fun r rb v w h hrb => (get6 r v bs left e0 e1 on n x hres hB hn w h hrb).mono fun e w' hp => ⟨_, hp, .inl rfl⟩,
      fun q qb v B pl w h hd hB2 hN hqb => by subst hd; exact getRef6 q v B pl left e0 e1 on n x hres hB2 hn w h hqb hN⟩
  | 7, _ => exact ⟨(bs.length : Int), ByteArray.empty, 0, bs, e0, hB, Nat.le_refl _, fun r rb v w h _ => (get7 r v bs e0 on n w h hl).mono fun e w' hp => ⟨_, hp, .inl rfl⟩,
      fun q qb v B pl w h hd _ hN hqb => by subst hd; exact getRef7 q v B pl e0 on n w h hqb hN⟩
  | 8, _ => exact ⟨0, ByteArray.empty, e0, bs, e0, hB, Nat.le_refl _, fun r rb v w h _ => (get8 r v bs e0 on n w h).mono fun e w' hp => ⟨_, hp, .inl rfl⟩,
      fun q qb v B pl w h hd _ _ _ => by subst hd; exact getRef8 q v B pl e0 on n w h⟩
end Go.Proofs.Ytnfinplkeefdgaa
