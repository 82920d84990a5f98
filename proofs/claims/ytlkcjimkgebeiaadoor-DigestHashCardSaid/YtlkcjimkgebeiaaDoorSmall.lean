/-
  Start, held, bytes.
-/
import Derived.Test.YtlkcjimkgebeiaaDoorBehind
namespace Go.Proofs.YtlkcjimkgebeiaaDoor
open Go.RowKit

theorem Tryd.info24 : (Tryd.prog.info? 24).map (·.size) = some 32 := by kernel_rfl
def z32 : List Int := List.replicate 32 0
theorem z32_len : z32.length = 32 := rfl
theorem Tryd.zero24 : (Tryd.prog.info? 24).map (fun i => (i.zero, i.size)) = some (some (.agg (Ar .u8 z32)), 32) := by kernel_rfl
/-- The words at the beginning. -/
def iv : List Int := [1779033703, 3144134277, 1013904242, 2773480762, 1359893119, 2600822924, 528734635, 1541459225]
theorem iv_len : iv.length = 8 := rfl
/-- The bytes of words. -/
def byt (v : List Int) (i : Nat) : Int := (v.getD (i / 4) 0 / 2 ^ (24 - 8 * (i % 4))) % 256
def byF (v : List Int) : Nat → List Int
  | 0 => []
  | n + 1 => byF v n ++ [byt v n]
theorem byF_len (v : List Int) : ∀ n, (byF v n).length = n
  | 0 => rfl
  | n + 1 => by rw [byF, List.length_append, byF_len v n]; rfl
theorem byF_bok (v : List Int) : ∀ n, BOk (byF v n)
  | 0 => fun b hb => by simp [byF] at hb
  | n + 1 => fun b hb => by
    rw [byF, List.mem_append] at hb
    rcases hb with hb | hb
    · exact byF_bok v n b hb
    · simp at hb; subst hb; unfold byt; omega

set_option maxHeartbeats 1600000 in
set_option maxRecDepth 100000 in
theorem start_any (w : World) : Calls Tryd.prog 22 #[] w fun e w' => e = .returned (.agg (Ar .u32 iv)) ∧ Below w.heap.size w w' := by
  have hz := hide Tryd.zero46
  have H0 := hide (Seg.fresh w 46 .u32 z8)
  go_enter Tryd.func22, Tryd.ntmps22
  go_wp2_with (first | (refine wpList_alloc_ar rfl 46 rfl (Ar .u32 z8) 8 (unhide hz) ?_) | (refine wpList_store_ar rfl 46 _ _ rfl w.heap.size 0 rfl .u32 iv 8 rfl rfl (unhide H0).2 Tryd.info46 ?_))
  have hl := iv_len
  have ht : (w.alloc (.cells (Ar .u32 z8) 46)).there w.heap.size 0 8 := (unhide H0).2
  generalize iv = ys at *
  generalize hz8 : Ar .u32 z8 = zz at *
  have hs := Seg.stored (k := .u32) ys (by rw [hl]; exact ht)
  refine bodyPost_ret (v := .agg (Ar .u32 ys)) ?_ rfl ⟨rfl, ?_⟩
  · rw [results_cell_one rfl]
    have hld := run_loadVar_ar (P := Tryd.prog) _ w.heap.size 0 46 .u32 ys _ 8 hs hl Tryd.underlying46 rfl Tryd.info46
    exact hld
  · have F := Fr.setCells (S := fun _ => False) (a := w) w.heap.size (.inl (Nat.le_refl _)) (ys.map (Value.int .u32)) 0 ((Fr.refl _ w).alloc (.cells zz 46))
    exact F.below (Nat.le_refl _) (by simp)

set_option maxHeartbeats 1600000 in
set_option maxRecDepth 100000 in
theorem held_any (p n : Nat) (w : World) (hc : w.cell? ⟨p, 72, none⟩ = some (.int .u64 (n : Int))) : Calls Tryd.prog 24 #[.pointer (some ⟨p, 0, none⟩)] w fun e w' => e = .returned (.int .i64 ((n % 64 : Nat) : Int)) ∧ w' = w := by
  have h1 : (n : Int).tmod 64 = ((n % 64 : Nat) : Int) := by rw [Int.tmod_eq_emod_of_nonneg (by omega)]; omega
  obtain ⟨m, hm⟩ : ∃ m, Hid (n % 64 = m) := ⟨_, rfl⟩
  rw [unhide hm] at h1 ⊢
  have hl : m < 64 := by have := unhide hm; omega
  have hw : IntKind.i64.wrap (m : Int) = (m : Int) := by simp [IntKind.wrap, IntKind.signed, IntKind.bits]; omega
  go_enter Tryd.func24, Tryd.ntmps24
  go_wp2
  go_ret
  exact ⟨rfl, rfl⟩

set_option maxHeartbeats 1600000 in
set_option maxRecDepth 100000 in
theorem bytes_any (v : List Int) (hv : v.length = 8) (w : World) : Calls Tryd.prog 26 #[.agg (Ar .u32 v)] w fun e w' => e = .returned (.agg (Ar .u8 (byF v 32))) ∧ Below w.heap.size w w' := by
  have hz := hide Tryd.zero24
  have HV := hide hv
  have H0 : Hid (Seg (((w.alloc (.cells (Ar .u32 v) 46)).alloc (.cells (Ar .u8 z32) 24)).alloc (.cells (Ar .u8 z32) 24)) w.heap.size 0 .u32 v) := ((Seg.fresh w 46 .u32 v).alloc _).alloc _
  have H1 : Hid (Seg (((w.alloc (.cells (Ar .u32 v) 46)).alloc (.cells (Ar .u8 z32) 24)).alloc (.cells (Ar .u8 z32) 24)) (w.heap.size + 1) 0 .u8 z32) := by
    have := (Seg.fresh (w.alloc (.cells (Ar .u32 v) 46)) 24 .u8 z32).alloc (.cells (Ar .u8 z32) 24)
    simpa [Hid] using this
  have H2 : Hid (Seg (((w.alloc (.cells (Ar .u32 v) 46)).alloc (.cells (Ar .u8 z32) 24)).alloc (.cells (Ar .u8 z32) 24)) (w.heap.size + 1 + 1) 0 .u8 z32) := by
    have := Seg.fresh ((w.alloc (.cells (Ar .u32 v) 46)).alloc (.cells (Ar .u8 z32) 24)) 24 .u8 z32
    simpa [Hid] using this
  have HW : Hid (Below w.heap.size w (((w.alloc (.cells (Ar .u32 v) 46)).alloc (.cells (Ar .u8 z32) 24)).alloc (.cells (Ar .u8 z32) 24))) := (((Below.refl _ _).alloc (Nat.le_refl _) _).alloc (by simp) _).alloc (by simp; omega) _
  clear hv
  go_enter Tryd.func26, Tryd.ntmps26
  go_wp2_with (refine wpList_alloc_ar rfl 24 rfl (Ar .u8 z32) 32 (unhide hz) ?_)
  go_loopg [5] 32 (fun k s wr => ∃ (j : Nat) (xs : List Int), Hid (j + k = 32) ∧ j ≤ 32 ∧ s = .int .i64 (j : Int) ∧ Hid (xs.length = 32 ∧ xs.take j = byF v j) ∧ Hid (Seg wr w.heap.size 0 .u32 v ∧ Seg wr (w.heap.size + 1) 0 .u8 z32 ∧ Seg wr (w.heap.size + 1 + 1) 0 .u8 xs) ∧ Hid (Below w.heap.size w wr))
  case atStart => exact ⟨0, z32, by unfold Hid; omega, by omega, rfl, ⟨rfl, rfl⟩, ⟨unhide H0, unhide H1, unhide H2⟩, HW⟩
  case round =>
    obtain ⟨j, xs, hj, hj32, rfl, hxs, hG, hW⟩ := hrel
    by_cases hlt : j < 32
    · have hc0 := (unhide hG).1.cell (j / 4) (by rw [unhide HV]; omega)
      have hd0 := (unhide hG).2.2.cell j (by rw [(unhide hxs).1]; omega)
      have hf0 := (unhide hG).2.2.frz j (by rw [(unhide hxs).1]; omega)
      rw [Nat.zero_add] at hc0 hd0 hf0
      have hby : Hid (byF v (j + 1) = byF v j ++ [(v.getD (j / 4) 0 / 2 ^ (24 - 8 * (j % 4))) % 256]) := rfl
      generalize v.getD (j / 4) 0 = x at *
      generalize xs.getD j 0 = o1 at *
      obtain ⟨q, hq⟩ : ∃ q, Hid (j / 4 = q) := ⟨_, rfl⟩
      obtain ⟨r, hr⟩ : ∃ r, Hid (j % 4 = r) := ⟨_, rfl⟩
      rw [unhide hq] at hc0
      rw [unhide hr] at hby
      have l1 : q < 8 := by have := unhide hq; omega
      have l2 : r < 4 := by have := unhide hr; omega
      have e1 : (j : Int).tdiv 4 = (q : Int) := by rw [Int.tdiv_eq_ediv_of_nonneg (by omega)]; have := unhide hq; omega
      have e1' : (j : Int) / 4 = (q : Int) := by have := unhide hq; omega
      have e2 : (j : Int).tmod 4 = (r : Int) := by rw [Int.tmod_eq_emod_of_nonneg (by omega)]; have := unhide hr; omega
      have e2' : (j : Int) % 4 = (r : Int) := by have := unhide hr; omega
      have i1 : (0 : Int) ≤ (j : Int) := by omega
      have i2 : (j : Int) < 32 := by omega
      have k1 : (q : Int) < 8 := by omega
      have e3 : 24 - 8 * (r : Int) = ((24 - 8 * r : Nat) : Int) := by omega
      obtain ⟨sh, hsh⟩ : ∃ sh, Hid (24 - 8 * r = sh) := ⟨_, rfl⟩
      rw [unhide hsh] at hby e3
      have l3 : sh < 32 := by have := unhide hsh; omega
      go_wp2
      go_roundg (gk - 1)
      case measure => have := unhide hj; omega
      case rel =>
        have h1 := (unhide hG).2.2.set j (by rw [(unhide hxs).1]; omega) (x / 2 ^ sh % 256)
        rw [Nat.zero_add] at h1
        exact ⟨j + 1, xs.set j (x / 2 ^ sh % 256), by have := unhide hj; unfold Hid; omega, by omega, by go_num, ⟨by rw [List.length_set]; exact (unhide hxs).1, by rw [unhide hby]; exact take_set2 xs j (by rw [(unhide hxs).1]; omega) _ _ (unhide hxs).2⟩,
          ⟨((unhide hG).1.other _ _ (.inl (by simp; omega))), ((unhide hG).2.1.other _ _ (.inl (by simp))), h1⟩, ((unhide hW).setCell (p := ⟨w.heap.size + 1 + 1, j, none⟩) (by simp; omega) _)⟩
    · obtain rfl : j = 32 := by omega
      have e : xs = byF v 32 := by
        have := (unhide hxs).2
        rwa [List.take_of_length_le (by rw [(unhide hxs).1]; omega)] at this
      have HE := hide e
      have HL := hide (unhide hxs).1
      clear e hxs
      go_wp2_with (first | (refine wpList_load_ar rfl 24 _ rfl (w.heap.size + 1 + 1) 0 rfl .u8 xs _ 32 (unhide hG).2.2 (unhide HL) Tryd.underlying24 rfl Tryd.info24 ?_) | (refine wpList_store_ar rfl 24 _ _ rfl (w.heap.size + 1) 0 rfl .u8 xs 32 rfl (unhide HL) (by have := (unhide hG).2.1.2; rwa [z32_len] at this) Tryd.info24 ?_))
      have hs := Seg.stored (k := .u8) xs (by have := (unhide hG).2.1.2; rw [unhide HL]; rwa [z32_len] at this)
      refine bodyPost_ret (v := .agg (Ar .u8 xs)) ?_ rfl ⟨by rw [unhide HE], ?_⟩
      · rw [results_cell_one rfl]
        have hld := run_loadVar_ar (P := Tryd.prog) _ (w.heap.size + 1) 0 24 .u8 xs _ 32 hs (unhide HL) Tryd.underlying24 rfl Tryd.info24
        exact hld
      · have F := Fr.setCells (S := fun _ => False) (a := w) (w.heap.size + 1) (.inl (by omega)) (xs.map (Value.int .u8)) 0 (Fr.of_below (unhide hW))
        exact F.below (Nat.le_refl _) (by simp)
end Go.Proofs.YtlkcjimkgebeiaaDoor
