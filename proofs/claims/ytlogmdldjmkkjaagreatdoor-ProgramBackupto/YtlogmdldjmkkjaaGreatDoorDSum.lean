/-
  Sum of bytes.
-/
import Derived.Test.YtlogmdldjmkkjaaGreatDoorHSum2
import Derived.Test.YtlogmdldjmkkjaaGreatDoorWrite
namespace Go.Proofs.YtlogmdldjmkkjaaGreatDoor.dg
open Go.RowKit

/-- The digest. -/
def digF (B : List Int) : List Int := byF (endF (wordsOf B (B.length / 64)) (padT (B.drop (64 * (B.length / 64))) B.length)) 32
theorem digF_len (B : List Int) : (digF B).length = 32 := byF_len _ 32
theorem padT_ne (r : List Int) (n : Nat) (h : r.length < 64) : padT r n ≠ z128 := by
  intro e
  have hb : bas r.length + r.length < 120 := by unfold bas; split <;> omega
  have hl := pad0_len r h
  have h1 : (padT r n)[bas r.length + r.length]? = some 128 := by
    unfold padT
    rw [List.getElem?_append_left (by rw [List.length_take]; omega), List.getElem?_take, if_pos hb]
    unfold pad0
    have hl2 : (z128.take (bas r.length) ++ r ++ z128.drop (bas r.length + r.length)).length = 128 := by
      have := hl; unfold pad0 at this; rwa [List.length_set] at this
    rw [List.getElem?_set_self (by omega)]
  rw [e] at h1
  have := List.eq_of_mem_replicate (List.mem_of_getElem? h1)
  omega
/-- The tail and the digest that were told are those of a beginning. -/
structure TD (all tl dg : List Int) : Prop where
  ok : tl = z128 ∨ ∃ m, m ≤ all.length ∧ tl = padT ((all.take m).drop (64 * (m / 64))) m ∧ dg = digF (all.take m)
theorem FD.rest {all v op : List Int} {n : Nat} (h : FD all v op n) : (op.take (n % 64)).length = n % 64 ∧ op.take (op.take (n % 64)).length = op.take (n % 64) := by
  have : (op.take (n % 64)).length = n % 64 := by rw [List.length_take, h.lo]; omega
  exact ⟨this, by rw [this]⟩
theorem FD.dig {all v op : List Int} {n : Nat} (h : FD all v op n) : byF (endF v (padT (op.take (n % 64)) n)) 32 = digF all := by
  unfold digF
  rw [h.oo, h.vv, h.nl]

set_option maxHeartbeats 1600000 in
set_option maxRecDepth 100000 in
theorem dsum_any (vb : Value) (B : List Int) (w : World) (hR : Rd w vb B) (hB : BOk B) (hM : B.length ≤ 140737488355328) (hK : KT w) :
    Calls Tryz.prog 22 #[vb] w fun e w' => e = .returned (.agg (Ar .u8 (digF B))) ∧ Below w.heap.size w w' := by
  have hz := hide Tryz.zero24
  have HR := hide hR
  have HK := hide hK
  have HB := hide hB
  have HM := hide hM
  have HT : Hid ((w.alloc (.cells (Ar .u8 z32) 30)).there w.heap.size 0 32) := (Seg.fresh w 30 .u8 z32).2
  clear hR hB hM hK
  go_enter Tryz.func22, Tryz.ntmps22
  go_wp2_with (first | (refine wpList_alloc_ar rfl 30 rfl (Ar .u8 z32) 32 (unhide hz) ?_))
  refine (new_any _).mono ?_
  rintro e w1 ⟨p, rfl, hp, hHs, hb1⟩
  have h0 := (unhide HK).2
  have hb01 : Below w.heap.size w w1 := ((Below.refl _ w).alloc (Nat.le_refl _) _).trans (hb1.mono (by simp))
  have hpw : w.heap.size < p := by simp at hp; omega
  have hWS : WS w1 p [] z128 z32 vb B w1 := ⟨⟨_, _, _, hHs, FD.start⟩, (unhide HR).below hb01, fun b off n c e => by
    rcases unhide HR with ⟨e2, _⟩ | ⟨b2, off2, c2, e2, _, _, hb2, _⟩
    · rw [e2] at e; cases e
    · rw [e2] at e
      simp only [Value.slice.injEq, Option.some.injEq, Addr.mk.injEq] at e
      omega, ((unhide HK).alloc _).below ((unhide HK).alloc _).2 hb1, Fr.refl _ _, hHs.lt'⟩
  have hw1 := (unhide HK).2
  have hth1 : Hid (w1.there w.heap.size 0 32) := there_keep (unhide HT) (hb1.block _ (by simp))
  have hC := hide (write_any p [] z128 z32 vb B w1 hWS (unhide HB) (by omega) (by have := unhide HM; simp; omega) (unhide HM))
  have hKT1 : Hid (KT w1) := hWS.kt
  have HB1 := hide hb01
  have Hpw := hide (And.intro hpw hHs.lt')
  clear hp hHs hb1 h0 hb01 hpw hWS
  go_wp2_with fail
  refine (unhide hC).mono ?_
  rintro e w2 ⟨rfl, v, op, n, hHs, hFD, hFr⟩
  rw [List.nil_append] at hFD
  have hbr := hFD.rest
  have hpl := (unhide Hpw).1
  have hw2 := (unhide HK).2
  have hKT2 : KT w2 := ⟨fun j v hv => (World.cell?_of_block (w := w1) (hFr.block 1 (unhide hKT1).2 (by omega))).trans ((unhide hKT1).1 j v hv), Nat.lt_of_lt_of_le (unhide hKT1).2 hFr.size⟩
  have hnl := hFD.nl
  have hS := hsum_any p v op (op.take (n % 64)) n z128 z32 w2 hHs hbr.2 hbr.1 (by have := unhide HM; omega) hKT2 (by omega) (fun b hb => hHs.bo b (List.mem_of_mem_take hb)) (fun e => absurd e.symm (padT_ne _ n (by rw [hbr.1]; omega)))
  unfold SumPost at hS
  rw [hFD.dig] at hS
  have hS := hide hS
  have hw1w : w.heap.size ≤ w1.heap.size := (unhide HB1).size
  have hthw : w.heap.size < w1.heap.size := World.block_lt_of_cell? w1 ⟨w.heap.size, 0, none⟩ (Option.isSome_iff_exists.1 ((unhide hth1) 0 (by omega)).1).choose_spec
  have hth2 : Hid (w2.there w.heap.size 0 32) := there_keep (unhide hth1) (hFr.block _ hthw (by omega))
  have HB2 : Hid (Below w.heap.size w w2) := (unhide HB1).trans (hFr.below hw1w (fun k hk e => by omega))
  have hz2 := hFr.size
  clear hHs hFD hbr hKT2 hnl hFr hC
  go_wp2_with fail
  refine (unhide hS).mono ?_
  rintro e w3 ⟨rfl, hFr3, _⟩
  have hth3 : Hid (w3.there w.heap.size 0 32) := there_keep (unhide hth2) (hFr3.block _ (by omega) (by omega))
  have HB3 : Hid (Below w.heap.size w w3) := (unhide HB2).trans (hFr3.below (unhide HB2).size (fun k hk e => by omega))
  have hdl := digF_len B
  obtain ⟨D, hD⟩ : ∃ D, Hid (digF B = D) := ⟨_, rfl⟩
  rw [unhide hD] at hdl ⊢
  clear hFr3 hS hpl hw1w hthw hz2
  go_wp2_with (first | (refine wpList_store_ar rfl 30 _ _ rfl w.heap.size 0 rfl .u8 D 32 rfl hdl (unhide hth3) Tryz.info30 ?_))
  have hst := Seg.stored (k := .u8) D (by rw [hdl]; exact unhide hth3)
  refine bodyPost_ret (v := .agg (Ar .u8 D)) ?_ rfl ⟨by rw [unhide hD], ?_⟩
  · rw [results_cell_one rfl]
    have hld := run_loadVar_ar (P := Tryz.prog) _ w.heap.size 0 30 .u8 D _ 32 hst hdl Tryz.underlying30 rfl Tryz.info30
    exact hld
  · have F := Fr.setCells (S := fun _ => False) (a := w) w.heap.size (.inl (Nat.le_refl _)) (D.map (Value.int .u8)) 0 (Fr.of_below (unhide HB3))
    exact F.below (Nat.le_refl _) (by simp)
end Go.Proofs.YtlogmdldjmkkjaaGreatDoor.dg
