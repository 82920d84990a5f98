/-
  Bytes that are lent and kept; which of two; an append that keeps what was.
-/
import Derived.Test.YtpenhefhedmhiaaSame
import Derived.Test.YtpenhefhedmhiaaWritten
import Derived.Maps.AppendAt
import Derived.BigQuiet
import Derived.OwnWalk
namespace Go.Proofs.Ytpenhefhedmhiaa
open Go.RowKit

/-- All are bytes. -/
def BOk (bs : List Int) : Prop := ∀ b ∈ bs, 0 ≤ b ∧ b < 256

theorem Rd.shapeR {w : World} {v : Value} {bs : List Int} (h : Rd w v bs) : ∃ a cap, v = .slice a bs.length cap := by
  rcases h with ⟨rfl, rfl⟩ | ⟨b, off, cap, rfl, _⟩
  · exact ⟨none, 0, rfl⟩
  · exact ⟨_, cap, rfl⟩

/-- A byte that a slice reads. -/
theorem Rd.at {w : World} {a : Option Addr} {len cap : Nat} {bs : List Int} (h : Rd w (.slice a len cap) bs) (i : Nat) (hi : i < bs.length) : ∃ b off, a = some ⟨b, off, none⟩ ∧ b < w.heap.size ∧ w.cell? ⟨b, off + i, none⟩ = some (.int .u8 (bs.getD i 0)) := by
  rcases h with ⟨_, rfl⟩ | ⟨b, off, cap', e, _, _, hb, hc⟩
  · simp at hi
  · simp only [Value.slice.injEq] at e
    exact ⟨b, off, e.1, hb, hc i hi⟩

theorem addr_add (b off j : Nat) : (⟨b, off, none⟩ : Addr).add j = ⟨b, off + j, none⟩ := by unfold Addr.add; split <;> simp_all

theorem Fr.drewN {S : Nat → Prop} {w : World} : ∀ n, Fr S w (w.drewN n)
  | _ => ⟨rfl, rfl, rfl, Nat.le_refl _, fun _ _ _ => rfl⟩

/-- What holds of a row that is made byte by byte. -/
def Grows (w0 : World) (l : Value) (bs : List Int) (w : World) : Prop := w.ownsRow w0.heap.size 5 1 l bs.length (bs.map By) ∧ Below w0.heap.size w0 w

theorem take_getD0 (bs : List Int) (j : Nat) (hj : j < bs.length) : bs.take (j + 1) = bs.take j ++ [bs.getD j 0] := by
  rw [List.take_add_one]; simp [List.getD, hj]

theorem Grows.step {w0 wr w1 : World} {l v : Value} {bs : List Int} {b : Int} {o : Obj} {n : Nat} {xs : List Value} (h : Grows w0 l bs wr) (hown : w1.ownsRow w0.heap.size 5 1 v n xs) (hn : n = bs.length + 1) (hx : xs = bs.map By ++ [.int .u8 b]) (hg : (wr.alloc o).grownBy w1 l.ownBlock) : Grows w0 v (bs ++ [b]) w1 := by
  subst hn hx
  refine ⟨by simpa [By] using hown, ?_⟩
  have F : Fr (fun _ => False) w0 w1 := ((Fr.of_below h.2).alloc o).grown hg (fun k hk => .inl (h.1.lt k hk).1)
  exact F.below (Nat.le_refl _) (by simp)

/-- The marks behind what is lent. -/
def marks (n : Nat) : List Int := (List.range n).map fun (i : Nat) => 201 + (i : Int) % 40

theorem marks_succ (n : Nat) : marks (n + 1) = marks n ++ [201 + (n : Int) % 40] := by simp [marks, List.range_succ]

theorem marks_length (n : Nat) : (marks n).length = n := by simp [marks]

theorem marks_bok (n : Nat) : BOk (marks n) := by
  intro b hb
  simp only [marks, List.mem_map] at hb
  obtain ⟨i, _, rfl⟩ := hb
  omega

theorem marks_getD (n i : Nat) (h : i < n) : (marks n).getD i 0 = 201 + (i : Int) % 40 := by simp [marks, List.getD, h]

set_option maxHeartbeats 1600000 in
set_option maxRecDepth 100000 in
theorem lent_any (v : Value) (B : List Int) (w : World) (hR : Rd w v B) (hN : B.length + 64 ≤ 140737488355328) :
    Calls Try.prog 22 #[v] w fun e w' => ∃ v', e = .returned v' ∧ Grows w v' (B ++ marks 64) w' := by
  obtain ⟨i0, hi0, hz0, hz1, hz2⟩ := info_parts Try.info5
  obtain ⟨a, cap, rfl⟩ := hR.shapeR
  have HR := hide hR
  obtain ⟨N, hNN⟩ : ∃ N, Hid (B.length = N) := ⟨_, rfl⟩
  rw [unhide hNN] at hN HR ⊢
  clear hR
  go_enter Try.func22, Try.ntmps22
  go_wp2
  go_loopg [3, 4] N (fun k l s wr => ∃ (j : Nat), Hid (j + k = N) ∧ s = .int .i64 (j : Int) ∧ Hid (Grows w l (B.take j) wr))
  case atStart => exact ⟨0, by unfold Hid; omega, rfl, by exact ⟨World.ownsRow_nil _ _ _ _, Below.refl _ _⟩⟩
  case round =>
    obtain ⟨j, hj, rfl, hG⟩ := hrel
    by_cases hlt : j < N
    · obtain ⟨cb, co, rfl, hcb, hc⟩ := (unhide HR).at j (by rw [unhide hNN]; exact hlt)
      have hcell : wr.cell? ⟨cb, co + j, none⟩ = some (.int .u8 (B.getD j 0)) := ((unhide hG).2.cell (p := ⟨cb, co + j, none⟩) hcb).trans hc
      have htk := hide (take_getD0 B j (by rw [unhide hNN]; exact hlt))
      have hlen : (B.take j).length = j := by rw [List.length_take, unhide hNN]; omega
      have hown := (unhide hG).1
      rw [hlen] at hown
      have HO := hide hown
      have hlen := hide hlen
      generalize B.getD j 0 = b at *
      have i1 : (0 : Int) ≤ (j : Int) := by omega
      have i2 : (j : Int) < (N : Int) := by omega
      clear hc hown
      go_wp2_with (first | (at_builtin; refine wpList_append_own_at _ rfl _ _ 25 rfl w.heap.size 5 i0 (.int .u8 0) 1 1 Try.underlying25 hi0 hz0 hz1 hz2 rfl (by decide) _ _ _ rfl ((unhide HO).alloc _) ⟨wr.heap.size, 0, none⟩ 1 1 [.int .u8 b] rfl rfl (cell_one_new _ _ _) (by simp [Value.oneCell']) (by unfold maxLen; omega) (by omega) (by have := (unhide hG).2.size; simp; omega) ?_))
      intro v' w1 hown' hgrow hnil hat
      have HN : Hid (Grows w v' (B.take (j + 1)) w1) := hide (by
        rw [unhide htk]
        exact (unhide hG).step hown' (by rw [unhide hlen]) (by rw [List.map_take]) hgrow)
      clear hown' hgrow hnil hat
      go_wp2
      go_roundg (gk - 1)
      case measure => have := unhide hj; omega
      case rel => exact ⟨j + 1, by have := unhide hj; unfold Hid; omega, by go_num, HN⟩
    · have hjN : j = N := by have := unhide hj; omega
      subst hjN
      have HG : Hid (Grows w u3 (B ++ marks 0) wr) := by
        have h := unhide hG
        rw [List.take_of_length_le (by rw [unhide hNN]; exact Nat.le_refl _)] at h
        rw [show marks 0 = [] from rfl, List.append_nil]
        exact h
      clear hG
      go_wp2
      go_loopg [3, 5] 64 (fun k l s wr => ∃ (i : Nat), Hid (i + k = 64) ∧ i ≤ 64 ∧ s = .int .i64 (i : Int) ∧ Hid (Grows w l (B ++ marks i) wr))
      case atStart => exact ⟨0, by unfold Hid; omega, by omega, rfl, HG⟩
      case round =>
        obtain ⟨i, hi, hi64, rfl, hG⟩ := hrel
        by_cases hlt : i < 64
        · have hlen : (B ++ marks i).length = j + i := by rw [List.length_append, marks_length, unhide hNN]
          have hown := (unhide hG).1
          rw [hlen] at hown
          have HO := hide hown
          have hlen := hide hlen
          have hmk := hide (marks_succ i)
          have i2 : (i : Int) < 64 := by omega
          have hb0 : 0 ≤ (i : Int) % 40 := by omega
          have hb1 : (i : Int) % 40 < 40 := by omega
          clear hown
          go_wp2_with (first | (at_builtin; refine wpList_append_own_at _ rfl _ _ 25 rfl w.heap.size 5 i0 (.int .u8 0) 1 1 Try.underlying25 hi0 hz0 hz1 hz2 rfl (by decide) _ _ _ rfl ((unhide HO).alloc _) ⟨wr.heap.size, 0, none⟩ 1 1 [.int .u8 (201 + (i : Int) % 40)] rfl rfl (cell_one_new _ _ _) (by simp [Value.oneCell']) (by unfold maxLen; omega) (by omega) (by have := (unhide hG).2.size; simp; omega) ?_))
          intro v' w1 hown' hgrow hnil hat
          have HN : Hid (Grows w v' (B ++ marks (i + 1)) w1) := hide (by
            rw [unhide hmk, ← List.append_assoc]
            exact (unhide hG).step hown' (by rw [unhide hlen]) (by first | rfl | simp) hgrow)
          clear hown' hgrow hnil hat
          go_wp2
          go_roundg (gk - 1)
          case measure => have := unhide hi; omega
          case rel => exact ⟨i + 1, by have := unhide hi; unfold Hid; omega, by omega, by go_num, HN⟩
        · have hi64' : i = 64 := by omega
          subst hi64'
          go_wp2
          go_ret
          exact ⟨_, rfl, unhide hG⟩

set_option maxHeartbeats 1600000 in
set_option maxRecDepth 100000 in
theorem kept_any (vl vb : Value) (B : List Int) (w : World) (hL : Rd w vl (B ++ marks 64)) (hR : Rd w vb B) (hN : B.length + 64 ≤ 140737488355328) :
    Calls Try.prog 23 #[vl, vb] w fun e w' => e = .returned (.bool true) ∧ w' = w := by
  obtain ⟨a, cap, rfl⟩ := hR.shapeR
  obtain ⟨al, capl, rfl⟩ := hL.shapeR
  have hlen : (B ++ marks 64).length = B.length + 64 := by rw [List.length_append, marks_length]
  have HR := hide hR
  have HL := hide hL
  rw [hlen] at HL ⊢
  obtain ⟨N, hNN⟩ : ∃ N, Hid (B.length = N) := ⟨_, rfl⟩
  rw [unhide hNN] at hN HR HL hlen ⊢
  have HLen := hide hlen
  clear hR hL hlen
  go_enter Try.func23, Try.ntmps23
  go_wp2
  go_loopg [5] (N + 64) (fun k s wr => ∃ (j : Nat), Hid (j + k = N + 64) ∧ s = .int .i64 (j : Int) ∧ wr = w)
  case atStart => exact ⟨0, by unfold Hid; omega, rfl, rfl⟩
  case round =>
    obtain ⟨j, hj, rfl, rfl⟩ := hrel
    by_cases hlt : j < N + 64
    · obtain ⟨cb, co, rfl, hcb, hc⟩ := (unhide HL).at j (by rw [unhide HLen]; exact hlt)
      have i1 : (0 : Int) ≤ (j : Int) := by omega
      have i2 : (j : Int) < (N : Int) + 64 := by omega
      by_cases hjN : j < N
      · obtain ⟨db, d0, rfl, hdb, hd⟩ := (unhide HR).at j (by rw [unhide hNN]; exact hjN)
        have e : (B ++ marks 64).getD j 0 = B.getD j 0 := by rw [List.getD, List.getElem?_append_left (by rw [unhide hNN]; exact hjN)]; rfl
        rw [e] at hc
        generalize B.getD j 0 = b at *
        have i3 : (j : Int) < (N : Int) := by omega
        clear e
        go_wp2
        go_roundg (gk - 1)
        case measure => have := unhide hj; omega
        case rel => exact ⟨j + 1, by have := unhide hj; unfold Hid; omega, by go_num, rfl⟩
      · have e : (B ++ marks 64).getD j 0 = 201 + ((j - N : Nat) : Int) % 40 := by
          rw [List.getD, List.getElem?_append_right (by rw [unhide hNN]; omega), unhide hNN]
          exact marks_getD 64 (j - N) (by omega)
        rw [e] at hc
        obtain ⟨d, rfl⟩ : ∃ d, j = N + d := ⟨j - N, by omega⟩
        rw [Nat.add_sub_cancel_left] at hc
        clear e
        have hsub : (N : Int) + (d : Int) - (N : Int) = (d : Int) := by omega
        go_wp2
        go_roundg (gk - 1)
        case measure => have := unhide hj; omega
        case rel => exact ⟨N + d + 1, by have := unhide hj; unfold Hid; omega, by go_num, rfl⟩
    · go_wp2
      go_ret
      exact ⟨rfl, rfl⟩

theorem tmod2 (k : Int) : Int.tmod k 2 = k % 2 ∨ Int.tmod k 2 = k % 2 - 2 ∧ k % 2 = 1 ∧ k < 0 := by
  rcases Int.lt_or_le k 0 with h | h
  · have e : Int.tmod k 2 = -((-k) % 2) := by
      rw [← Int.tmod_eq_emod_of_nonneg (by omega), Int.neg_tmod, Int.neg_neg]
    rw [e]; omega
  · exact .inl (Int.tmod_eq_emod_of_nonneg h)

/-- Which of two: by the rest of a division. -/
def pick2 (k : Int) : Int := k % 2

set_option maxHeartbeats 400000 in
set_option maxRecDepth 100000 in
theorem pick_any (k : Int) (w : World) : Calls Try.prog 12 #[.int .i64 k, .int .i64 2] w fun e w' => e = .returned (.int .i64 (pick2 k)) ∧ w' = w := by
  unfold pick2
  by_cases hn : Int.tmod k 2 < 0
  · have e : k % 2 = Int.tmod k 2 + 2 := by
      have h := tmod2 k
      omega
    rw [e]
    go_enter Try.func12, Try.ntmps12
    go_wp2
    all_goals go_ret
    all_goals first | exact ⟨rfl, rfl⟩ | (refine ⟨ret_int ?_, rfl⟩; omega)
  · have e : k % 2 = Int.tmod k 2 := by have h := tmod2 k; omega
    rw [e]
    have hn' : decide (Int.tmod k 2 < 0) = false := decide_eq_false hn
    go_enter Try.func12, Try.ntmps12
    go_wp2
    all_goals go_ret
    all_goals first | exact ⟨rfl, rfl⟩ | (refine ⟨ret_int ?_, rfl⟩; omega)

/-- A byte appended to a row of one's own: the new row, where it lies, and THE OLD ROW READS AS IT DID. -/
theorem run_append_keep (w : World) (base : Nat) (ty : TypeId) (v : Value) (bs : List Int) (hown : w.ownsRow base 5 1 v bs.length (bs.map By)) (a : Addr) (c : Nat) (b : Int)
    (hnews : ∀ j u, [By b][j]? = some u → w.cell? (a.add j) = some u) (hN : bs.length + 1 ≤ 140737488355328) (hbase : base ≤ w.heap.size) :
    ∃ v' w', (Builtin.append_ #[25, 25] ty #[v, .slice (some a) 1 c]).run Try.prog w = .ok v' w' ∧ w'.ownsRow base 5 1 v' (bs.length + 1) (bs.map By ++ [By b]) ∧ w.grownBy w' v.ownBlock ∧
      (v'.ownBlock = v.ownBlock ∨ v'.ownBlock = some w.heap.size) ∧ Rd w' v bs := by
  obtain ⟨i0, hi0, hz0, hz1, hz2⟩ := info_parts Try.info5
  obtain ⟨v', w', hr, ho, hg, _, hat⟩ := run_append_own_at (P := Try.prog) w base 25 ty 5 i0 (.int .u8 0) 1 1 Try.underlying25 hi0 hz0 hz1 hz2 rfl (by decide) v bs.length (bs.map By) hown a 1 c [By b] rfl hnews (by simp [By, Value.oneCell']) (by unfold maxLen; omega) (by omega) hbase
  refine ⟨v', w', hr, ho, hg, hat, ?_⟩
  have hR := Rd.of_own hown
  rcases hown.2 with ⟨rfl, h0⟩ | ⟨g, cap, cur, rfl, hbg, hgc, hnc, hcm, hcs, htake⟩
  · exact .inl ⟨rfl, List.eq_nil_of_length_eq_zero h0⟩
  · have hlt : g < w.heap.size := (hown.lt g rfl).2
    by_cases hroom : bs.length + 1 ≤ cap
    · -- in place
      have hvb : v'.ownBlock = some g := by
        have hr2 := run_append_room (P := Try.prog) w 25 ty 5 i0 Try.underlying25 hi0 g bs.length cap cur hgc a 1 c [By b] (by rw [hz1]; rfl) hnews (by simp [By, Value.oneCell']) hroom (by rw [hz1]; simp; omega)
        rw [hr] at hr2
        simp only [Result.ok.injEq] at hr2
        rw [hr2.1]; rfl
      have hc := ho.cells (g := g) hvb
      refine .inr ⟨g, 0, cap, rfl, hnc, hcm, Nat.lt_of_lt_of_le hlt hg.size, fun i hi => ?_⟩
      have := hc i (By (bs.getD i 0)) (by rw [List.getElem?_append_left (by simpa using hi)]; simp [List.getD, hi])
      rw [addr_add] at this
      exact this
    · -- moved
      have holds : ∀ j u, (bs.map By)[j]? = some u → w.cell? ((⟨g, 0, none⟩ : Addr).add j) = some u := hown.cells (g := g) rfl
      have hr2 := run_append_grow (P := Try.prog) w 25 ty 5 i0 (.int .u8 0) Try.underlying25 hi0 hz0 ⟨g, 0, none⟩ bs.length cap (bs.map By) (by rw [hz1]; simp) holds a 1 c [By b] (by rw [hz1]; rfl) hnews (by omega) (by omega) (growslice_fits (by omega) (by rw [hz2]; omega))
      rw [hr] at hr2
      simp only [Result.ok.injEq] at hr2
      rw [hr2.2]
      exact hR.keep (S := fun _ => False) ((Fr.refl _ w).drew.alloc _) (by simp)
end Go.Proofs.Ytpenhefhedmhiaa
