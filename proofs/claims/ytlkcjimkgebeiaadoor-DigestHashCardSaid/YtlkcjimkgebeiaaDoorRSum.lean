/-
  Sum, by the document.
-/
import Derived.Test.YtlkcjimkgebeiaaDoorRPad
namespace Go.Proofs.YtlkcjimkgebeiaaDoor
open Go.RowKit

theorem zeroN_ok (n : Nat) : (n + 1 + zeroN n + 8) % 64 = 0 ∧ zeroN n < 64 := by unfold zeroN; omega
theorem padA_len (B : List Int) : (padA B).length = B.length + 1 + zeroN B.length + 8 := by
  unfold padA
  rw [List.length_append, List.length_append, List.length_append, List.length_replicate, lenB_len]; rfl
theorem padA_bok (B : List Int) (h : BOk B) : BOk (padA B) := by
  intro b hb
  unfold padA at hb
  rcases List.mem_append.1 hb with hb | hb
  · rcases List.mem_append.1 hb with hb | hb
    · rcases List.mem_append.1 hb with hb | hb
      · exact h b hb
      · simp at hb; omega
    · have := List.eq_of_mem_replicate hb; omega
  · exact lenB_bok _ 8 b hb
theorem wordsOf_len (P : List Int) : ∀ m, (wordsOf P m).length = 8
  | 0 => rfl
  | _ + 1 => behF_len _ _
/-- What the document's Sum keeps. -/
structure RS (w0 : World) (p4 : Nat) (vP : Value) (P xs : List Int) (w : World) : Prop where
  t2 : w.there w0.heap.size 0 32
  s4 : Seg w p4 0 .u32 xs
  rd : Rd w vP P
  bl : Below w0.heap.size w0 w
  l4 : w0.heap.size < p4
  lt : p4 < w.heap.size
  ap : ∀ b off n c, vP = .slice (some ⟨b, off, none⟩) n c → b ≠ p4

set_option maxHeartbeats 3200000 in
set_option maxRecDepth 100000 in
theorem rsum_any (v : Value) (B : List Int) (w : World) (hR : Rd w v B) (hB : BOk B) (hN : B.length + 72 ≤ 140737488355328) :
    Calls Tryd.prog 8 #[v] w fun e w' => e = .returned (.agg (Ar .u8 (byF (wordsOf (padA B) ((padA B).length / 64)) 32))) ∧ Below w.heap.size w w' := by
  have hz24 := hide Tryd.zero24
  have hz42 := hide Tryd.zero42
  have hC := hide (padded_ref v B (w.alloc (.cells (Ar .u8 z32) 24)) (hR.below ((Below.refl _ _).alloc (Nat.le_refl _) _)) hN)
  have hpl := padA_len B
  have hzk := zeroN_ok B.length
  have HPB := hide (padA_bok B hB)
  have HT : Hid ((w.alloc (.cells (Ar .u8 z32) 24)).there w.heap.size 0 32) := (Seg.fresh w 24 .u8 z32).2
  obtain ⟨P, hP⟩ : ∃ P, Hid (padA B = P) := ⟨_, rfl⟩
  rw [unhide hP] at hC hpl HPB
  have HPl : Hid (P.length % 64 = 0 ∧ 64 ≤ P.length ∧ P.length ≤ 140737488355400) := by rw [Hid]; omega
  clear hR hB hpl hzk
  go_enter Tryd.func8, Tryd.ntmps8
  go_wp2_with (first | (refine wpList_alloc_ar rfl 24 rfl (Ar .u8 z32) 32 (unhide hz24) ?_))
  refine (unhide hC).mono ?_
  rintro e w1 ⟨vP, rfl, hG⟩
  have hlp := unhide HPl
  obtain ⟨g, cp, rfl, hg0, hg1, _, _, _⟩ := own_at hG.1 (by omega)
  have hrd := Rd.of_own hG.1
  have hbl := hG.2
  have ht1 : w1.there w.heap.size 0 32 := there_keep (unhide HT) (hbl.block _ (by simp))
  have hsz := hbl.size
  simp at hsz hg0
  have HA : Hid (Rd w1 (.slice (some ⟨g, 0, none⟩) P.length cp) P ∧ w1.there w.heap.size 0 32 ∧ Below w.heap.size w w1 ∧ g < w1.heap.size ∧ w.heap.size + 1 ≤ w1.heap.size) := ⟨hrd, ht1, ((Below.refl _ w).alloc (Nat.le_refl _) _).trans (hbl.mono (by simp)), hg1, hsz⟩
  clear hG hrd hbl ht1 hsz hg0 hg1 hC HT hlp
  obtain ⟨LP, hLP⟩ : ∃ LP, Hid (P.length = LP) := ⟨_, rfl⟩
  rw [unhide hLP] at HA HPl ⊢
  go_wp2_with fail
  refine (first_any _).mono ?_
  rintro e w2 ⟨rfl, hb2⟩
  obtain ⟨V0, hV0⟩ : ∃ V0, Hid (iv = V0) := ⟨_, rfl⟩
  have HVL : Hid (V0.length = 8) := by rw [Hid, ← unhide hV0]; rfl
  rw [unhide hV0]
  obtain ⟨q1, q2, q3⟩ := boxed32 w2 42 z8 V0 (by rw [unhide HVL]; rfl) (by rw [unhide HVL]; omega)
  have HT2 : Hid ((w2.alloc (.cells (Ar .u32 z8) 42)).there w2.heap.size 0 8) := (Seg.fresh w2 42 .u32 z8).2
  have hA := unhide HA
  have hs2 := hb2.size
  have b12 := hb2.trans (q2.mono hb2.size)
  have HRS : Hid (RS w w2.heap.size (.slice (some ⟨g, 0, none⟩) LP cp) P V0 ((w2.alloc (.cells (Ar .u32 z8) 42)).setCells w2.heap.size 0 (V0.map (Value.int .u32)))) :=
    ⟨there_keep hA.2.1 (b12.block _ (by omega)), q1, hA.1.below b12, hA.2.2.1.trans (b12.mono (by omega)), by omega, q3, fun b off n c e => by simp only [Value.slice.injEq, Option.some.injEq, Addr.mk.injEq] at e; omega⟩
  clear q1 q2 q3 hA hs2 b12 hb2 HA
  go_wp2_with (first | (refine wpList_alloc_ar rfl 42 rfl (Ar .u32 z8) 8 (unhide hz42) ?_) | (refine wpList_store_ar rfl 42 _ _ rfl w2.heap.size 0 rfl .u32 V0 8 rfl (unhide HVL) (unhide HT2) Tryd.info42 ?_; generalize (w2.alloc (.cells (Ar .u32 z8) 42)).setCells w2.heap.size 0 (V0.map (Value.int .u32)) = w3 at *; generalize w2.heap.size = p4 at *))
  have hw0 : Hid (wordsOf P 0 = V0) := unhide hV0
  go_loopg [5] (LP / 64) (fun k s wr => ∃ (m : Nat), Hid (m + k = LP / 64) ∧ s = .int .i64 (64 * (m : Int)) ∧ Hid (RS w p4 (.slice (some ⟨g, 0, none⟩) LP cp) P (wordsOf P m) wr))
  case atStart => exact ⟨0, by unfold Hid; omega, rfl, by rw [unhide hw0]; exact HRS⟩
  case round =>
    obtain ⟨m, hm, rfl, hG⟩ := hrel
    by_cases hlt : m < LP / 64
    · have hl := unhide HPl
      have hvl := wordsOf_len P m
      have hC2 := rblock_any (.slice (some ⟨g, 0, none⟩) LP cp) (wordsOf P m) P ((P.drop (64 * m)).take 64) (64 * m) hvl rfl (by rw [unhide hLP]; omega) (by rw [unhide hLP]; omega) wr (unhide hG).rd (unhide HPB)
      rw [show behF (wordsOf P m) ((P.drop (64 * m)).take 64) = wordsOf P (m + 1) from rfl, show (((64 * m : Nat)) : Int) = 64 * (m : Int) by omega] at hC2
      have hC2 := hide hC2
      have hvl2 := wordsOf_len P (m + 1)
      obtain ⟨X, hX⟩ : ∃ X, Hid (wordsOf P m = X) := ⟨_, rfl⟩
      obtain ⟨X2, hX2⟩ : ∃ X2, Hid (wordsOf P (m + 1) = X2) := ⟨_, rfl⟩
      rw [unhide hX] at hG hvl hC2
      rw [unhide hX2] at hvl2 hC2
      have i1 : (64 : Int) * (m : Int) < (LP : Int) := by omega
      go_wp2_with (first | (refine wpList_load_ar rfl 42 _ rfl p4 0 rfl .u32 X _ 8 (unhide hG).s4 hvl Tryd.underlying42 rfl Tryd.info42 ?_))
      refine (unhide hC2).mono ?_
      rintro e w4 ⟨rfl, hb4⟩
      have hg := unhide hG
      have hsz4 := hb4.size
      have hbs := hg.bl.size
      have h4lt := hg.lt
      have h4l := hg.l4
      have hth4 : Hid (w4.there p4 0 8) := by have := (hg.s4.keepB (hb4.block _ hg.lt)).2; rwa [hvl] at this
      have F := Fr.setCells (S := fun k => k = p4) (a := w4) p4 (.inr rfl) (X2.map (Value.int .u32)) 0 (Fr.refl _ w4)
      have HRN : Hid (RS w p4 (.slice (some ⟨g, 0, none⟩) LP cp) P X2 (w4.setCells p4 0 (X2.map (Value.int .u32)))) :=
        ⟨World.there_setCells (there_keep hg.t2 (hb4.block _ (by omega))) _ _ _, Seg.stored X2 (by rw [hvl2]; exact unhide hth4), (hg.rd.below hb4).keep F hg.ap, (hg.bl.trans (hb4.mono hbs)).trans (F.below (by omega) (fun k hk e => by omega)), hg.l4, Nat.lt_of_lt_of_le (by omega) F.size, hg.ap⟩
      clear hg hsz4 hbs h4lt h4l F hb4 hC2
      go_wp2_with (first | (refine wpList_store_ar rfl 42 _ _ rfl p4 0 rfl .u32 X2 8 rfl hvl2 (unhide hth4) Tryd.info42 ?_; generalize w4.setCells p4 0 (X2.map (Value.int .u32)) = w5 at *))
      go_roundg (gk - 1)
      case measure => have := unhide hm; omega
      case rel => exact ⟨m + 1, by have := unhide hm; unfold Hid; omega, by go_num, by rw [unhide hX2]; exact HRN⟩
    · obtain rfl : m = LP / 64 := by have := unhide hm; omega
      have hl := unhide HPl
      have hvl := wordsOf_len P (LP / 64)
      have hFin : Hid (byF (wordsOf (padA B) ((padA B).length / 64)) 32 = byF (wordsOf P (LP / 64)) 32) := by rw [Hid, unhide hP, unhide hLP]
      obtain ⟨X, hX⟩ : ∃ X, Hid (wordsOf P (LP / 64) = X) := ⟨_, rfl⟩
      rw [unhide hX] at hG hvl hFin
      have i1 : ¬ (64 : Int) * ((LP / 64 : Nat) : Int) < (LP : Int) := by omega
      have hg := unhide hG
      have H6 : Hid (Seg (wr.alloc (.cells (Ar .u8 z32) 24)) wr.heap.size 0 .u8 z32) := Seg.fresh wr 24 .u8 z32
      have hgl := hg.lt
      have hg4 := hg.l4
      have HQ : Hid ((wr.alloc (.cells (Ar .u8 z32) 24)).there w.heap.size 0 32 ∧ Seg (wr.alloc (.cells (Ar .u8 z32) 24)) p4 0 .u32 X ∧ Below w.heap.size w (wr.alloc (.cells (Ar .u8 z32) 24)) ∧ w.heap.size < p4 ∧ p4 < wr.heap.size) := ⟨World.there_alloc hg.t2 _, hg.s4.alloc _, hg.bl.alloc hg.bl.size _, hg4, hgl⟩
      clear hg hG hl hgl hg4
      generalize ((LP / 64 : Nat) : Int) = mm at *
      go_wp2_with (first | (refine wpList_alloc_ar rfl 24 rfl (Ar .u8 z32) 32 (unhide hz24) ?_; generalize wr.alloc (.cells (Ar .u8 z32) 24) = wa at *; generalize wr.heap.size = p6 at *))
      have HQ6 : Hid (w.heap.size < p6 ∧ p4 < p6) := by have := unhide HQ; rw [Hid]; omega
      go_loopg [7] 32 (fun k s wr => ∃ (j : Nat) (xs : List Int), Hid (j + k = 32) ∧ j ≤ 32 ∧ s = .int .i64 (j : Int) ∧ Hid (xs.length = 32 ∧ xs.take j = byF X j) ∧ Hid (Seg wr p6 0 .u8 xs ∧ Seg wr p4 0 .u32 X ∧ wr.there w.heap.size 0 32 ∧ Below w.heap.size w wr))
      case atStart => exact ⟨0, z32, by unfold Hid; omega, by omega, rfl, ⟨rfl, rfl⟩, unhide H6, (unhide HQ).2.1, (unhide HQ).1, (unhide HQ).2.2.1⟩
      case round =>
        obtain ⟨j, xs, hj, hj32, rfl, hxs, hG⟩ := hrel
        by_cases hlt : j < 32
        · have hc0 := (unhide hG).2.1.cell (j / 4) (by rw [hvl]; omega)
          have hd0 := (unhide hG).1.cell j (by rw [(unhide hxs).1]; omega)
          have hf0 := (unhide hG).1.frz j (by rw [(unhide hxs).1]; omega)
          rw [Nat.zero_add] at hc0 hd0 hf0
          have hby : Hid (byF X (j + 1) = byF X j ++ [(X.getD (j / 4) 0 / 2 ^ (24 - 8 * (j % 4))) % 256]) := rfl
          generalize X.getD (j / 4) 0 = x at *
          generalize xs.getD j 0 = o1 at *
          obtain ⟨q, hq⟩ : ∃ q, Hid (j / 4 = q) := ⟨_, rfl⟩
          obtain ⟨r, hr⟩ : ∃ r, Hid (j % 4 = r) := ⟨_, rfl⟩
          rw [unhide hq] at hc0
          rw [unhide hr] at hby
          have l1 : q < 8 := by have := unhide hq; omega
          have l2 : r < 4 := by have := unhide hr; omega
          have e1 : (j : Int).tdiv 4 = (q : Int) := by rw [Int.tdiv_eq_ediv_of_nonneg (by omega)]; have := unhide hq; omega
          have e1' : (j : Int) / 4 = (q : Int) := by have := unhide hq; omega
          have e2 : (j : Int).tmod 4 = (r : Int) := by rw [Int.tmod_eq_emod_of_nonneg (by omega)]; have := unhide hr; omega
          have e2' : (j : Int) % 4 = (r : Int) := by have := unhide hr; omega
          have i1 : (0 : Int) ≤ (j : Int) := by omega
          have i2 : (j : Int) < 32 := by omega
          have k1 : (q : Int) < 8 := by omega
          have e3 : 24 - 8 * (r : Int) = ((24 - 8 * r : Nat) : Int) := by omega
          obtain ⟨sh, hsh⟩ : ∃ sh, Hid (24 - 8 * r = sh) := ⟨_, rfl⟩
          rw [unhide hsh] at hby e3
          have l3 : sh < 32 := by have := unhide hsh; omega
          have e9 : IntKind.u64.wrap (sh : Int) = (sh : Int) := by simp [IntKind.wrap, IntKind.signed, IntKind.bits]; omega
          have hq6 := unhide HQ6
          go_wp2
          go_roundg (gk - 1)
          case measure => have := unhide hj; omega
          case rel =>
            have h1 := (unhide hG).1.set j (by rw [(unhide hxs).1]; omega) (x / 2 ^ sh % 256)
            rw [Nat.zero_add] at h1
            exact ⟨j + 1, xs.set j (x / 2 ^ sh % 256), by have := unhide hj; unfold Hid; omega, by omega, by go_num, ⟨by rw [List.length_set]; exact (unhide hxs).1, by rw [unhide hby]; exact take_set2 xs j (by rw [(unhide hxs).1]; omega) _ _ (unhide hxs).2⟩,
              h1, (unhide hG).2.1.other _ _ (.inl (by simp; omega)), World.there_setCells (unhide hG).2.2.1 p6 j [.int .u8 (x / 2 ^ sh % 256)], (unhide hG).2.2.2.setCell (p := ⟨p6, j, none⟩) (by simp; omega) _⟩
        · obtain rfl : j = 32 := by omega
          have e : xs = byF X 32 := by
            have := (unhide hxs).2
            rwa [List.take_of_length_le (by rw [(unhide hxs).1]; omega)] at this
          have HE := hide e
          have HL := hide (unhide hxs).1
          clear e hxs
          go_wp2_with (first | (refine wpList_load_ar rfl 24 _ rfl p6 0 rfl .u8 xs _ 32 (unhide hG).1 (unhide HL) Tryd.underlying24 rfl Tryd.info24 ?_) | (refine wpList_store_ar rfl 24 _ _ rfl w.heap.size 0 rfl .u8 xs 32 rfl (unhide HL) (unhide hG).2.2.1 Tryd.info24 ?_))
          have hs := Seg.stored (k := .u8) xs (by rw [unhide HL]; exact (unhide hG).2.2.1)
          refine bodyPost_ret (v := .agg (Ar .u8 xs)) ?_ rfl ⟨by rw [unhide hFin, unhide HE], ?_⟩
          · rw [results_cell_one rfl]
            have hld := run_loadVar_ar (P := Tryd.prog) _ w.heap.size 0 24 .u8 xs _ 32 hs (unhide HL) Tryd.underlying24 rfl Tryd.info24
            exact hld
          · have F := Fr.setCells (S := fun _ => False) (a := w) w.heap.size (.inl (Nat.le_refl _)) (xs.map (Value.int .u8)) 0 (Fr.of_below (unhide hG).2.2.2)
            exact F.below (Nat.le_refl _) (by simp)
end Go.Proofs.YtlkcjimkgebeiaaDoor
