/-
  Raw's list is a row of its own; an append that keeps what was.
-/
import Derived.Test.YtnfinplkeefdgaaCloses
namespace Go.Proofs.Ytnfinplkeefdgaa
open Go.RowKit

set_option maxHeartbeats 800000 in
set_option maxRecDepth 100000 in
theorem get5own (r : Nat) {rb : Nat} (v : Value) (bs : List Int) (on : Int) (m : Nat) (w : World) (h : Rdr w r rb v bs 0) (hrb : rb < w.heap.size) (hB : BOk bs) (hl : bs.length ≤ 140737488355328) (hm : m ≤ bs.length) :
    Calls Try.prog 32 #[.pointer (some ⟨r, 0, none⟩), GetV on 5 (m : Int)] w fun e w' => ∃ val, GPost r rb w 0 (toStr (bs.take m)) 0 val (bs.drop m) 0 e w' ∧ w'.ownsRow (w.heap.size + 2) 5 1 val m ((bs.take m).map By) := by
  have hr := h.lt
  have hC := rRaw_good r v bs m ((w.alloc (.cells #[.int .i64 on, .int .i64 5, .int .i64 (m : Int)] 57)).alloc (.cells #[.int .u64 0, .string ByteArray.empty, .int .i64 0] 59)) ((h.alloc _).alloc _) hl hm
  obtain ⟨s, hs⟩ : ∃ s, Hid (toStr (bs.take m) = s) := ⟨_, rfl⟩
  obtain ⟨left, hlf⟩ : ∃ left, Hid (bs.drop m = left) := ⟨_, rfl⟩
  rw [unhide hs, unhide hlf]
  rw [unhide hlf] at hC
  have HC := hide hC
  have hdr : Hid (RFr r w ((w.alloc (.cells #[.int .i64 on, .int .i64 5, .int .i64 (m : Int)] 57)).alloc (.cells #[.int .u64 0, .string ByteArray.empty, .int .i64 0] 59))) := RFr.alloc2 r w _ _
  clear h hC
  unfold GetV
  go_enter Try.func32, Try.ntmps32
  go_wp2_with fail
  refine (unhide HC).mono ?_
  rintro e w1 ⟨val, rfl, ho, v2, h1, h2⟩
  have c0 : w1.cell? ⟨w.heap.size + 1, 0, none⟩ = some (.int .u64 0) := (Fr.cell h2 (a := ⟨w.heap.size + 1, 0, none⟩) (by simp) (by simp; omega)).trans (by simp)
  have c1 : w1.cell? ⟨w.heap.size + 1, 1, none⟩ = some (.string ByteArray.empty) := (Fr.cell h2 (a := ⟨w.heap.size + 1, 1, none⟩) (by simp) (by simp; omega)).trans (by simp)
  have c2 : w1.cell? ⟨w.heap.size + 1, 2, none⟩ = some (.int .i64 0) := (Fr.cell h2 (a := ⟨w.heap.size + 1, 2, none⟩) (by simp) (by simp; omega)).trans (by simp)
  have f0 : w1.frozen? ⟨w.heap.size + 1, 0, none⟩ = false := (Fr.frozen h2 (a := ⟨w.heap.size + 1, 0, none⟩) (by simp) (by simp; omega)).trans (by simp)
  have f1 : w1.frozen? ⟨w.heap.size + 1, 1, none⟩ = false := (Fr.frozen h2 (a := ⟨w.heap.size + 1, 1, none⟩) (by simp) (by simp; omega)).trans (by simp)
  have f2 : w1.frozen? ⟨w.heap.size + 1, 2, none⟩ = false := (Fr.frozen h2 (a := ⟨w.heap.size + 1, 2, none⟩) (by simp) (by simp; omega)).trans (by simp)
  have hcv := str_conv w1 val (bs.take m) (Rd.of_own (by rw [show (bs.take m).length = m from by simp; omega]; exact ho)) (hB.take m)
  rw [unhide hs] at hcv
  have HH := hide (And.intro h1 ((unhide hdr).trans h2))
  have HO := hide (own_mono (base' := w.heap.size + 2) ho (by simp))
  clear h1 h2 ho
  go_wp2
  (try simp only [Exit.inBlock, Exit.then])
  refine bodyPost_ret (v := .tuple #[GotV 0 s 0, val]) ?_ rfl ⟨val, ⟨rfl, v2, got_close (w.heap.size + 1) _ _ _ hrb hr (by omega) (unhide HH).1 (unhide HH).2⟩, ?_⟩
  · rw [results_cell_tmp rfl]
    unfold GotV
    go_simp
    all_goals rfl
  · exact own_set (own_set (own_set (unhide HO) ⟨w.heap.size + 1, 0, none⟩ (by simp) _) ⟨w.heap.size + 1, 1, none⟩ (by simp) _) ⟨w.heap.size + 1, 2, none⟩ (by simp) _

/-- A byte appended to a row of one's own: the new row, where it lies, and THE OLD ROW READS AS IT DID. -/
theorem run_append_keep (w : World) (base : Nat) (ty : TypeId) (v : Value) (bs : List Int) (hown : w.ownsRow base 5 1 v bs.length (bs.map By)) (a : Addr) (c : Nat) (b : Int)
    (hnews : ∀ j u, [By b][j]? = some u → w.cell? (a.add j) = some u) (hN : bs.length + 1 ≤ 140737488355328) (hbase : base ≤ w.heap.size) :
    ∃ v' w', (Builtin.append_ #[22, 22] ty #[v, .slice (some a) 1 c]).run Try.prog w = .ok v' w' ∧ w'.ownsRow base 5 1 v' (bs.length + 1) (bs.map By ++ [By b]) ∧ w.grownBy w' v.ownBlock ∧
      (v'.ownBlock = v.ownBlock ∨ v'.ownBlock = some w.heap.size) ∧ Rd w' v bs := by
  obtain ⟨i0, hi0, hz0, hz1, hz2⟩ := info_parts Try.info5
  obtain ⟨v', w', hr, ho, hg, _, hat⟩ := run_append_own_at (P := Try.prog) w base 22 ty 5 i0 (.int .u8 0) 1 1 Try.underlying22 hi0 hz0 hz1 hz2 rfl (by decide) v bs.length (bs.map By) hown a 1 c [By b] rfl hnews (by simp [By, Value.oneCell']) (by unfold maxLen; omega) (by omega) hbase
  refine ⟨v', w', hr, ho, hg, hat, ?_⟩
  have hR := Rd.of_own hown
  rcases hown.2 with ⟨rfl, h0⟩ | ⟨g, cap, cur, rfl, hbg, hgc, hnc, hcm, hcs, htake⟩
  · exact .inl ⟨rfl, List.eq_nil_of_length_eq_zero h0⟩
  · have hlt : g < w.heap.size := (hown.lt g rfl).2
    by_cases hroom : bs.length + 1 ≤ cap
    · -- in place
      have hvb : v'.ownBlock = some g := by
        have hr2 := run_append_room (P := Try.prog) w 22 ty 5 i0 Try.underlying22 hi0 g bs.length cap cur hgc a 1 c [By b] (by rw [hz1]; rfl) hnews (by simp [By, Value.oneCell']) hroom (by rw [hz1]; simp; omega)
        rw [hr] at hr2
        simp only [Result.ok.injEq] at hr2
        rw [hr2.1]; rfl
      have hc := ho.cells (g := g) hvb
      refine .inr ⟨g, 0, cap, rfl, hnc, hcm, Nat.lt_of_lt_of_le hlt hg.size, fun i hi => ?_⟩
      have := hc i (By (bs.getD i 0)) (by rw [List.getElem?_append_left (by simpa using hi)]; simp [List.getD, hi])
      rw [addr_add] at this
      exact this
    · -- moved
      have holds : ∀ j u, (bs.map By)[j]? = some u → w.cell? ((⟨g, 0, none⟩ : Addr).add j) = some u := hown.cells (g := g) rfl
      have hr2 := run_append_grow (P := Try.prog) w 22 ty 5 i0 (.int .u8 0) Try.underlying22 hi0 hz0 ⟨g, 0, none⟩ bs.length cap (bs.map By) (by rw [hz1]; simp) holds a 1 c [By b] (by rw [hz1]; rfl) hnews (by omega) (by omega) (growslice_fits (by omega) (by rw [hz2]; omega))
      rw [hr] at hr2
      simp only [Result.ok.injEq] at hr2
      rw [hr2.2]
      exact hR.keep (S := fun _ => False) ((Fr.refl _ w).drew.alloc _) (by simp)
end Go.Proofs.Ytnfinplkeefdgaa
