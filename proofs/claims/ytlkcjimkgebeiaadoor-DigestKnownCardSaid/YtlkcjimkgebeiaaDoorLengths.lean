/-
  Each number of bytes up to 200, and some that are longer.
-/
import Derived.Test.YtlkcjimkgebeiaaDoorBlocks
namespace Go.Proofs.YtlkcjimkgebeiaaDoor
open Go.RowKit

def lo : List Int := [4095, 4096, 4097, 8191, 8192, 8193, 65535, 65600]
/-- The row that grows, and the row of lengths at x. -/
structure LS (w : World) (x : Nat) (B : List Int) (v1 : Value) (wr : World) : Prop where
  gr : Grows w v1 B wr
  bk : BOk B
  ne : v1.ownBlock ≠ some x
  lt : x < wr.heap.size
  cell : ∀ i, i < 8 → wr.cell? ⟨x, i, none⟩ = some (.int .i64 (lo.getD i 0))

theorem lo_ok (i : Nat) (h : i < 8) : ∃ m : Nat, lo.getD i 0 = (m : Int) ∧ 4095 ≤ m ∧ m ≤ 65600 := by
  have : i = 0 ∨ i = 1 ∨ i = 2 ∨ i = 3 ∨ i = 4 ∨ i = 5 ∨ i = 6 ∨ i = 7 := by omega
  rcases this with h | h | h | h | h | h | h | h <;> subst h
  · exact ⟨4095, rfl, by omega, by omega⟩
  · exact ⟨4096, rfl, by omega, by omega⟩
  · exact ⟨4097, rfl, by omega, by omega⟩
  · exact ⟨8191, rfl, by omega, by omega⟩
  · exact ⟨8192, rfl, by omega, by omega⟩
  · exact ⟨8193, rfl, by omega, by omega⟩
  · exact ⟨65535, rfl, by omega, by omega⟩
  · exact ⟨65600, rfl, by omega, by omega⟩
theorem LS.start {w wr : World} {B : List Int} {v : Value} (h : Grows w v B wr) (hB : BOk B) (fr : Nat × Nat) : LS w wr.heap.size B v (wr.alloc (.cells #[.int .i64 4095, .int .i64 4096, .int .i64 4097, .int .i64 8191, .int .i64 8192, .int .i64 8193, .int .i64 65535, .int .i64 65600] 3 fr)) := by
  refine ⟨⟨h.1.alloc _, h.2.alloc h.2.size _⟩, hB, fun e => ?_, by simp, fun i hi => ?_⟩
  · have := (h.1.lt _ e).2
    omega
  · rw [cell_of_row _ _ i _ 3 fr (heap_alloc_last wr _)]
    have : i = 0 ∨ i = 1 ∨ i = 2 ∨ i = 3 ∨ i = 4 ∨ i = 5 ∨ i = 6 ∨ i = 7 := by omega
    rcases this with h | h | h | h | h | h | h | h <;> subst h <;> rfl
theorem LS.below {w wr w' : World} {x : Nat} {B : List Int} {v : Value} (h : LS w x B v wr) (f : Below wr.heap.size wr w') : LS w x B v w' :=
  ⟨⟨own_keepB h.gr.1 (fun g hg => f.block g (h.gr.1.lt g hg).2), h.gr.2.trans (f.mono h.gr.2.size)⟩, h.bk, h.ne, Nat.lt_of_lt_of_le h.lt f.size, fun i hi => (World.cell?_of_block (f.block x h.lt)).trans (h.cell i hi)⟩
theorem LS.step {w wr w2 : World} {x : Nat} {B : List Int} {v v' : Value} {o : Obj} {n : Nat} {xs : List Value} {z : Int} (h : LS w x B v wr) (hown : w2.ownsRow w.heap.size 5 1 v' n xs) (hn : n = B.length + 1) (hx : xs = B.map By ++ [.int .u8 z]) (hg : (wr.alloc o).grownBy w2 v.ownBlock)
    (hat : v'.ownBlock = v.ownBlock ∨ v'.ownBlock = some (wr.heap.size + 1)) (hz : 0 ≤ z ∧ z < 256) : LS w x (B ++ [z]) v' w2 := by
  have hlt := h.lt
  refine ⟨h.gr.step hown hn hx hg, fun b hb => ?_, fun e => ?_, ?_, fun i hi => ?_⟩
  · rcases List.mem_append.1 hb with hb | hb
    · exact h.bk b hb
    · rw [List.mem_singleton.1 hb]; exact hz
  · rcases hat with q | q
    · exact h.ne (q.symm.trans e)
    · rw [q] at e
      simp at e
      omega
  · have := hg.size
    simp at this
    omega
  · have h1 : (wr.alloc o).cell? ⟨x, i, none⟩ = some (.int .i64 (lo.getD i 0)) := (World.cell?_of_block (Below.heap_alloc _ _ _ h.lt)).trans (h.cell i hi)
    exact hg.cell h1 (fun e => h.ne e.symm)

theorem run_sl_h (g L cap : Nat) (h : 4000 ≤ cap) (w : World) : (Instr.sliceAt 22 (.slice (some ⟨g, 0, none⟩) L cap) none (some (.int .i64 4000)) none).run Tryd.prog w = .ok (.slice (some ⟨g, 0, none⟩) 4000 cap) w := by
  have hu : Tryd.prog.underlying 22 = some (.slice (Tryd.prog.elem 22)) := by rw [Tryd.elem22]; exact Tryd.underlying22
  have h1 := run_slice_h (P := Tryd.prog) w 22 (some ⟨g, 0, none⟩) L cap hu .i64 4000 (by omega) (by omega)
  rw [Tryd.elem22, Tryd.sizeOf5, Result.andThen_ok] at h1
  have h2 : (Instr.sliceAt 22 (.slice (some ⟨g, 0, none⟩) L cap) none (some (.int .i64 4000)) none).run Tryd.prog w = (Instr.slice 22 (.slice (some ⟨g, 0, none⟩) L cap) none (some (.int .i64 4000)) none).run Tryd.prog w := by
    simp [Instr.sliceAt]
  rw [h2, h1]
  unfold sliced
  by_cases hc : cap = 0
  · omega
  · rw [if_neg hc, Option.map_some, Nat.zero_mul, addr_add0]
    rfl
theorem run_sl_lh (g L cap : Nat) (h : 4095 ≤ cap) (w : World) : (Instr.sliceAt 22 (.slice (some ⟨g, 0, none⟩) L cap) (some (.int .i64 4000)) (some (.int .i64 4095)) none).run Tryd.prog w = .ok (.slice (some ⟨g, 4000, none⟩) 95 (cap - 4000)) w := by
  have hu : Tryd.prog.underlying 22 = some (.slice (Tryd.prog.elem 22)) := by rw [Tryd.elem22]; exact Tryd.underlying22
  have h1 := run_slice_lh (P := Tryd.prog) w 22 (some ⟨g, 0, none⟩) L cap hu .i64 .i64 4000 4095 (by omega) (by omega) (by omega)
  rw [Tryd.elem22, Tryd.sizeOf5, Result.andThen_ok] at h1
  have h2 : (Instr.sliceAt 22 (.slice (some ⟨g, 0, none⟩) L cap) (some (.int .i64 4000)) (some (.int .i64 4095)) none).run Tryd.prog w = (Instr.slice 22 (.slice (some ⟨g, 0, none⟩) L cap) (some (.int .i64 4000)) (some (.int .i64 4095)) none).run Tryd.prog w := by
    simp [Instr.sliceAt]
  rw [h2, h1]
  unfold sliced
  rw [show (4000 : Int).toNat = 4000 from rfl, show (4095 : Int).toNat = 4095 from rfl]
  rw [if_neg (by omega), Option.map_some, Nat.mul_one, addr_add0]
/-- The four pieces. -/
def four (g L cap : Nat) (B : List Int) : List Pc := [⟨.slice (some ⟨g, 0, none⟩) 4000 cap, B.take 4000⟩, ⟨.slice (some ⟨g, 4000, none⟩) 95 (cap - 4000), (B.drop 4000).take 95⟩, ⟨cutV g 0 L cap 4095, B.drop 4095⟩, ⟨.slice (some ⟨g, 0, none⟩) L cap, B⟩]
theorem four_rd {w wr : World} {x g L cap : Nat} {B : List Int} (h : LS w x B (.slice (some ⟨g, 0, none⟩) L cap) wr) (hL : B.length = L) (h1 : 4095 ≤ L) (h6 : L ≤ 65600) :
    RdV (wr.alloc (.cells #[.slice (some ⟨g, 0, none⟩) 4000 cap, .slice (some ⟨g, 4000, none⟩) 95 (cap - 4000), cutV g 0 L cap 4095, .slice (some ⟨g, 0, none⟩) L cap] 22)) (.slice (some ⟨wr.heap.size, 0, none⟩) 4 4) (four g L cap B) := by
  have hr := Rd.of_own h.gr.1
  obtain ⟨g2, cap2, hsh2, hg0, hg1, hcap, hcm, hseg⟩ := own_at h.gr.1 (by omega)
  rw [hL] at hsh2
  simp only [Value.slice.injEq, Option.some.injEq, Addr.mk.injEq] at hsh2
  obtain ⟨⟨rfl, _, _⟩, _, rfl⟩ := hsh2
  have hbt : ∀ n, BOk (B.take n) := fun n b hb => h.bk b (List.mem_of_mem_take hb)
  have hbd : ∀ n, BOk (B.drop n) := fun n b hb => h.bk b (List.mem_of_mem_drop hb)
  have hbl : Below wr.heap.size wr (wr.alloc (.cells #[.slice (some ⟨g, 0, none⟩) 4000 cap, .slice (some ⟨g, 4000, none⟩) 95 (cap - 4000), cutV g 0 L cap 4095, .slice (some ⟨g, 0, none⟩) L cap] 22)) := (Below.refl _ _).alloc (Nat.le_refl _) _
  refine ⟨_, 4, rfl, fun i hi => ⟨?_, wr.heap.size, 0, rfl, by simp, ?_⟩⟩
  · have hi4 : i < 4 := hi
    have : i = 0 ∨ i = 1 ∨ i = 2 ∨ i = 3 := by omega
    rcases this with rfl | rfl | rfl | rfl
    · refine ⟨.inl ((hseg.rd 4000 cap (by omega) (by omega) hcm hg1).below hbl), hbt 4000, ?_⟩
      show (B.take 4000).length ≤ _
      rw [List.length_take]; omega
    · have hs := hseg.sub 4000 95 (by omega)
      have hs2 := hs.rd 95 (cap - 4000) (by rw [List.length_take, List.length_drop]; omega) (by omega) (by omega) hg1
      rw [List.take_take, Nat.min_self, Nat.zero_add] at hs2
      refine ⟨.inl (hs2.below hbl), fun b hb => hbd 4000 b (List.mem_of_mem_take hb), ?_⟩
      show ((B.drop 4000).take 95).length ≤ _
      rw [List.length_take]; omega
    · refine ⟨.inl ((cut_rd hr 4095 (by omega)).below hbl), hbd 4095, ?_⟩
      show (B.drop 4095).length ≤ _
      rw [List.length_drop]; omega
    · refine ⟨.inl (hr.below hbl), h.bk, ?_⟩
      show B.length ≤ _
      omega
  · have hi4 : i < 4 := hi
    rw [cell_of_row _ _ (0 + i) _ 22 (0, 0) (heap_alloc_last wr _)]
    have : i = 0 ∨ i = 1 ∨ i = 2 ∨ i = 3 := by omega
    rcases this with rfl | rfl | rfl | rfl <;> rfl

set_option maxHeartbeats 3200000 in
set_option maxRecDepth 100000 in
theorem lengths_any (w : World) (hK : KT w) : Calls Tryd.prog 17 #[] w fun e w' => e = .returned (.bool true) ∧ Below w.heap.size w w' := by
  obtain ⟨i0, hi0, hz0, hz1, hz2⟩ := info_parts Tryd.info5
  have HK := hide hK
  clear hK
  go_enter Tryd.func17, Tryd.ntmps17
  go_wp2
  go_loopg [1, 2] 200 (fun k s1 s2 wr => ∃ (n : Nat) (B : List Int), Hid (n + k = 200) ∧ n ≤ 200 ∧ s2 = .int .i64 (n : Int) ∧ Hid (B.length = n ∧ BOk B) ∧ Hid (Grows w s1 B wr))
  case atStart => exact ⟨0, [], by unfold Hid; omega, by omega, rfl, ⟨rfl, fun b hb => by simp at hb⟩, ⟨World.ownsRow_nil _ _ _ _, Below.refl _ _⟩⟩
  case round =>
    obtain ⟨n, B, hn, hn2, rfl, hB, hG⟩ := hrel
    by_cases hlt : n < 200
    · have i1 : (n : Int) < 200 := by omega
      have hC := hide (sumLaw u1 B wr (Rd.of_own (unhide hG).1) (unhide hB).2 (by have := (unhide hB).1; omega) ((unhide HK).below (unhide HK).2 (unhide hG).2))
      go_wp2_with fail
      refine (unhide hC).mono ?_
      rintro e w1 ⟨rfl, hb1⟩
      have hG1 : Hid (Grows w u1 B w1) := ⟨own_keepB (unhide hG).1 (fun g hg => hb1.block g ((unhide hG).1.lt g hg).2), (unhide hG).2.trans (hb1.mono (unhide hG).2.size)⟩
      have hown := (unhide hG1).1
      rw [(unhide hB).1] at hown
      have HO := hide hown
      obtain ⟨z, hz⟩ : ∃ z, IntKind.u8.wrap (7 * (n : Int)) = z := ⟨_, rfl⟩
      have hzb : Hid (0 ≤ z ∧ z < 256) := by rw [Hid, ← hz, IntKind.wrap_u8]; omega
      clear hC hb1 hG hown
      go_wp2_with (first | (at_builtin; refine wpList_append_own_at _ rfl _ _ 22 rfl w.heap.size 5 i0 (.int .u8 0) 1 1 Tryd.underlying22 hi0 hz0 hz1 hz2 rfl (by decide) _ _ _ rfl ((unhide HO).alloc _) ⟨w1.heap.size, 0, none⟩ 1 1 [.int .u8 z] rfl rfl (cell_one_new _ _ _) (by simp [Value.oneCell']) (by unfold maxLen; omega) (by omega) (by have := (unhide hG1).2.size; simp; omega) ?_))
      intro v' w2 hown' hgrow hnil hat
      have HN : Hid (Grows w v' (B ++ [z]) w2) := (unhide hG1).step hown' (by rw [(unhide hB).1]) rfl hgrow
      clear hown' hgrow hnil hat
      go_wp2
      go_roundg (gk - 1)
      case measure => have := unhide hn; omega
      case rel => exact ⟨n + 1, B ++ [z], by have := unhide hn; unfold Hid; omega, by omega, by go_num, ⟨by rw [List.length_append, (unhide hB).1]; rfl, fun b hb => by
        rcases List.mem_append.1 hb with hb | hb
        · exact (unhide hB).2 b hb
        · rw [List.mem_singleton.1 hb]; exact unhide hzb⟩, HN⟩
    · obtain rfl : n = 200 := by omega
      have i1 : ¬ ((200 : Nat) : Int) < 200 := by omega
      have hL0 : Hid (∀ fr, LS w wr.heap.size B u1 (wr.alloc (.cells #[.int .i64 4095, .int .i64 4096, .int .i64 4097, .int .i64 8191, .int .i64 8192, .int .i64 8193, .int .i64 65535, .int .i64 65600] 3 fr))) := fun fr => LS.start (unhide hG) (unhide hB).2 fr
      have hB0 : Hid (B.length = 200) := (unhide hB).1
      obtain ⟨x, hx⟩ : ∃ x, Hid (wr.heap.size = x) := ⟨_, rfl⟩
      rw [unhide hx] at hL0
      clear hG hB
      go_wp2
      try rw [unhide hx]
      go_loopg [1, 4] 8 (fun k s1 s4 wr => ∃ (i : Nat) (B : List Int) (L : Nat), Hid (i + k = 8) ∧ i ≤ 8 ∧ s4 = .int .i64 (i : Int) ∧ Hid (B.length = L) ∧ L ≤ 65600 ∧ Hid (LS w x B s1 wr))
      case atStart => exact ⟨0, B, 200, by unfold Hid; omega, by omega, rfl, hB0, by omega, unhide hL0 _⟩
      case round =>
        obtain ⟨i, B, L, hi, hi8, rfl, hL, hL6, hS⟩ := hrel
        by_cases hlt8 : i < 8
        · have i1 : (i : Int) < 8 := by omega
          have i2 : (0 : Int) ≤ (i : Int) := by omega
          obtain ⟨G, hG⟩ : ∃ G, G = gk := ⟨_, rfl⟩
          obtain ⟨m, hm, hm1, hm2⟩ := lo_ok i hlt8
          go_wp2
          go_loopg [1] (m - L) (fun k s1 wr => ∃ (B : List Int) (L : Nat), Hid (m - L ≤ k) ∧ Hid (B.length = L) ∧ L ≤ 65600 ∧ Hid (LS w x B s1 wr))
          case atStart => exact ⟨B, L, Nat.le_refl _, hL, hL6, hS⟩
          case round =>
            obtain ⟨B, L, hk, hL, hL6, hS⟩ := hrel
            obtain ⟨a1, cap1, hsh⟩ := (Rd.of_own (unhide hS).gr.1).shapeR
            rw [unhide hL] at hsh
            subst hsh
            have hcell := (unhide hS).cell i hlt8
            rw [hm] at hcell
            by_cases hlm : L < m
            · have i3 : (L : Int) < (m : Int) := by omega
              have hown := (unhide hS).gr.1
              rw [unhide hL] at hown
              have HO := hide hown
              obtain ⟨z, hz⟩ : ∃ z, IntKind.u8.wrap (L : Int) = z := ⟨_, rfl⟩
              have hzb : Hid (0 ≤ z ∧ z < 256) := by rw [Hid, ← hz, IntKind.wrap_u8]; omega
              clear hown
              go_wp2_with (first | (at_builtin; refine wpList_append_own_at _ rfl _ _ 22 rfl w.heap.size 5 i0 (.int .u8 0) 1 1 Tryd.underlying22 hi0 hz0 hz1 hz2 rfl (by decide) _ _ _ rfl ((unhide HO).alloc _) ⟨wr.heap.size, 0, none⟩ 1 1 [.int .u8 z] rfl rfl (cell_one_new _ _ _) (by simp [Value.oneCell']) (by unfold maxLen; omega) (by omega) (by have := (unhide hS).gr.2.size; simp; omega) ?_))
              intro v' w2 hown' hgrow hnil hat
              have HN : Hid (LS w x (B ++ [z]) v' w2) := (unhide hS).step hown' (by rw [unhide hL]) rfl hgrow hat (unhide hzb)
              clear hown' hgrow hnil hat
              go_wp2
              go_roundg (gk - 1)
              case measure => have := unhide hk; omega
              case rel => exact ⟨B ++ [z], L + 1, by have := unhide hk; unfold Hid; omega, by rw [Hid, List.length_append, unhide hL]; rfl, by omega, HN⟩
            · have i3 : ¬ (L : Int) < (m : Int) := by omega
              obtain ⟨g, cap2, hsh2, hg0, hg1, hcap, hcm, hseg⟩ := own_at (unhide hS).gr.1 (by rw [unhide hL]; omega)
              rw [unhide hL] at hsh2 hcap
              simp only [Value.slice.injEq] at hsh2
              obtain ⟨rfl, _, rfl⟩ := hsh2
              have hC3 := hide (fun (w9 : World) (h9 : LS w x B (.slice (some ⟨g, 0, none⟩) L cap1) w9) => sumLaw (.slice (some ⟨g, 0, none⟩) L cap1) B w9 (Rd.of_own h9.gr.1) h9.bk (by rw [unhide hL]; omega) ((unhide HK).below (unhide HK).2 h9.gr.2))
              have c1 : (4000 : Int) ≤ (cap1 : Int) := by omega
              have c2 : (4095 : Int) ≤ (cap1 : Int) := by omega
              have c3 : (4095 : Int) ≤ (L : Int) := by omega
              have c4 : (L : Int) ≤ (cap1 : Int) := by omega
              have hC6 := hide (fun (w9 : World) (h9 : LS w x B (.slice (some ⟨g, 0, none⟩) L cap1) w9) => piecesLaw _ _ _ (four_rd h9 (unhide hL) (by omega) hL6) (by show 4 ≤ _; omega) ((unhide HK).below (unhide HK).2 (h9.gr.2.alloc h9.gr.2.size _)))
              have hc4000 : 4000 ≤ cap1 := by omega
              have hc4095 : 4095 ≤ cap1 := by omega
              have hL4095 : 4095 ≤ L := by omega
              go_wp2_with fail
              have hSd : LS w x B (.slice (some ⟨g, 0, none⟩) L cap1) wr.drew := (unhide hS).below ((Below.refl _ _).drew)
              refine wp_region_held_drew (S := LS w x B (.slice (some ⟨g, 0, none⟩) L cap1)) (by kernel_rfl) hSd (fun hHeld => ?_)
              clear hSd
              generalize wr.drew = wd at *
              refine wpAnyH_take (i := 0) (oi := _) (v := .slice (some ⟨g, 0, none⟩) L cap1) rfl (by kernel_rfl) (by kernel_rfl) (by kernel_rfl) (fun _ _ _ h => h) (Or.inl ⟨by rfl, (by intro w hSw; go_simp)⟩) (by assumption) ?_
              simp only [Act.put, List.setIfInBounds_toArray]
              refine wpAnyH_ready (rs := [1]) (by kernel_rfl) (by simp) ?_
              refine AllReadyH.cons (o := _) rfl (fun K hK => ?_) AllReadyH.nil
              go_simp
              refine (unhide hC3 _ hHeld).mono ?_
              rintro e w1 ⟨rfl, hb1⟩
              have hS1 := hHeld.below hb1
              go_simp
              refine hK.out _ _ hS1 (fun hHeldx => ?_)
              clear hK K hHeld hb1
              refine wpAnyH_take (i := 2) (oi := _) (v := .bool false) rfl (by kernel_rfl) (by kernel_rfl) (by kernel_rfl) (fun _ _ _ h => h) (Or.inl ⟨by rfl, (by intro w hSw; go_simp)⟩) (by assumption) ?_
              refine wpAnyH_take (i := 3) (oi := _) (v := .bool false) rfl (by kernel_rfl) (by kernel_rfl) (by kernel_rfl) (fun _ _ _ h => h) (Or.inl ⟨by rfl, (by intro w hSw; go_simp)⟩) (by assumption) ?_
              go_simp
              refine wpAnyH_take (i := 4) (oi := _) (v := .slice (some ⟨g, 0, none⟩) L cap1) rfl (by kernel_rfl) (by kernel_rfl) (by kernel_rfl) (fun _ _ _ h => h) (Or.inl ⟨by rfl, (by intro w hSw; go_simp)⟩) (by assumption) ?_
              refine wpAnyH_take (i := 5) (oi := _) (v := .slice (some ⟨g, 0, none⟩) 4000 cap1) rfl (by kernel_rfl) (by kernel_rfl) (by kernel_rfl) (fun _ _ _ h => h) (Or.inl ⟨by rfl, (by intro w hSw; have hq := run_sl_h g L cap1 hc4000 w; unfold execOp; go_simp)⟩) (by assumption) ?_
              refine wpAnyH_take (i := 6) (oi := _) (v := .slice (some ⟨g, 0, none⟩) L cap1) rfl (by kernel_rfl) (by kernel_rfl) (by kernel_rfl) (fun _ _ _ h => h) (Or.inl ⟨by rfl, (by intro w hSw; go_simp)⟩) (by assumption) ?_
              go_simp
              refine wpAnyH_take (i := 7) (oi := _) (v := .slice (some ⟨g, 4000, none⟩) 95 (cap1 - 4000)) rfl (by kernel_rfl) (by kernel_rfl) (by kernel_rfl) (fun _ _ _ h => h) (Or.inl ⟨by rfl, (by intro w hSw; have hq := run_sl_lh g L cap1 hc4095 w; unfold execOp; go_simp)⟩) (by assumption) ?_
              refine wpAnyH_take (i := 8) (oi := _) (v := .slice (some ⟨g, 0, none⟩) L cap1) rfl (by kernel_rfl) (by kernel_rfl) (by kernel_rfl) (fun _ _ _ h => h) (Or.inl ⟨by rfl, (by intro w hSw; go_simp)⟩) (by assumption) ?_
              refine wpAnyH_take (i := 9) (oi := _) (v := cutV g 0 L cap1 4095) rfl (by kernel_rfl) (by kernel_rfl) (by kernel_rfl) (fun _ _ _ h => h) (Or.inl ⟨by rfl, (by intro w hSw; have hq : (Instr.sliceAt 22 (.slice (some ⟨g, 0, none⟩) L cap1) (some (.int .i64 4095)) none none).run Tryd.prog w = .ok (cutV g 0 L cap1 4095) w := run_cut g 0 L cap1 4095 hL4095 w; unfold execOp; go_simp)⟩) (by assumption) ?_
              go_simp
              refine wpAnyH_take (i := 10) (oi := _) (v := .slice (some ⟨g, 0, none⟩) L cap1) rfl (by kernel_rfl) (by kernel_rfl) (by kernel_rfl) (fun _ _ _ h => h) (Or.inl ⟨by rfl, (by intro w hSw; go_simp)⟩) (by assumption) ?_
              obtain ⟨A3, hT3⟩ : ∃ A3, Hid (cutV g 0 L cap1 4095 = .slice A3 (L - 4095) (cap1 - 4095)) := ⟨_, rfl⟩
              rw [unhide hT3] at hC6 ⊢
              refine wpAnyH_ready (rs := [11]) (by kernel_rfl) (by simp) ?_
              refine AllReadyH.cons (o := _) rfl (fun K hK => ?_) AllReadyH.nil
              go_simp
              have hS2 : LS w x B (.slice (some ⟨g, 0, none⟩) L cap1) (w1.alloc (.cells #[.slice (some ⟨g, 0, none⟩) 4000 cap1, .slice (some ⟨g, 4000, none⟩) 95 (cap1 - 4000), .slice A3 (L - 4095) (cap1 - 4095), .slice (some ⟨g, 0, none⟩) L cap1] 22)) := hS1.below ((Below.refl _ _).alloc (Nat.le_refl _) _)
              refine hK.out _ _ hS2 (fun hHeldy => ?_)
              clear hK K
              refine wpAnyH_ready (rs := [12]) (by kernel_rfl) (by simp) ?_
              refine AllReadyH.cons (o := _) rfl (fun K hK => ?_) AllReadyH.nil
              go_simp
              refine (unhide hC6 _ hS1).mono ?_
              rintro e w3 ⟨rfl, hb3⟩
              have hS3 := hS2.below hb3
              go_simp
              refine hK.out _ _ hS3 (fun hHeldz => ?_)
              clear hK K hb3 hS2
              refine wpAnyH_take (i := 13) (oi := _) (v := .bool false) rfl (by kernel_rfl) (by kernel_rfl) (by kernel_rfl) (fun _ _ _ h => h) (Or.inl ⟨by rfl, (by intro w hSw; go_simp)⟩) (by assumption) ?_
              refine wpAnyH_take (i := 14) (oi := _) (v := .bool false) rfl (by kernel_rfl) (by kernel_rfl) (by kernel_rfl) (fun _ _ _ h => h) (Or.inl ⟨by rfl, (by intro w hSw; go_simp)⟩) (by assumption) ?_
              refine wpAnyH_done (by kernel_rfl) ?_ _
              have HS3 := hide hS3
              clear hS3 hS1 hHeldx hHeldy hHeldz hC3 hC6 hcell hseg
              go_simp
              go_wp2
              go_roundg (G - 1)
              case measure => have := unhide hi; omega
              case rel => exact ⟨i + 1, B, L, by have := unhide hi; unfold Hid; omega, by omega, by go_num, hL, hL6, HS3⟩
        · have i1 : ¬ (i : Int) < 8 := by omega
          go_wp2
          go_ret
          exact ⟨rfl, (unhide hS).gr.2⟩
end Go.Proofs.YtlkcjimkgebeiaaDoor
