/-
  What a spot tells; the bit of a kind; a note.
-/
import Derived.Test.YtjjfpokmpcpicaaBk3
import Derived.Test.YtjjfpokmpcpicaaBkB
import Derived.Laws.ResultCell
namespace Go.Proofs.Ytjjfpokmpcpicaa
open Go.RowKit
set_option linter.unusedVariables false
set_option linter.unusedSimpArgs false
def enI (p : Int × Int) : List Value := [.int .i64 p.1, .int .i64 p.2]
theorem zI : ∀ p, (enI p).length = 2 := fun _ => rfl
set_option maxRecDepth 100000 in
set_option maxHeartbeats 3200000 in
theorem tell_any {w : World} {b : Nat} {s : Sp} (hb : w.heap[b]? = some (.cells (spC s) 74)) (hs : okS s) :
    Calls Try.prog 30 #[.pointer (some ⟨b, 0, none⟩)] w fun e w' => e = .returned (spV s) ∧ Below w.heap.size w w' := by
  obtain ⟨s0, s1, s2, s3⟩ := s
  obtain ⟨⟨p1, p2⟩, p3, p4, p5, p6⟩ := hs
  simp only at p1 p2 p3 p4 p5 p6
  unfold spC at hb
  unfold spV
  simp only at hb ⊢
  have e1 : IntKind.u16.wrap s1 = s1 := by go_arith
  have e2 : IntKind.u16.wrap s2 = s2 := by go_arith
  obtain ⟨q, hq⟩ : ∃ q, Hid (w.heap.size = q) := ⟨_, hide rfl⟩
  have hbq : b < w.heap.size := (Array.getElem?_eq_some_iff.1 hb).1
  have hne : ¬ b = q := by have := unhide hq; omega
  obtain ⟨W0, hW0⟩ : ∃ W0, Hid (w.alloc (.cells #[.int .i64 0, .int .u16 0, .int .u16 0, .int .i64 0] 56) = W0) := ⟨_, hide rfl⟩
  have HSV0 : Hid ((fun V => V.heap[b]? = some (.cells #[.int .i64 s0, .int .i64 s3, .int .u32 s1, .int .u32 s2] 74)) W0) := by
    show W0.heap[b]? = _
    rw [← unhide hW0, Below.heap_alloc _ _ _ hbq]; exact hb
  have HQ0 : Hid (W0.heap[q]? = some (.cells #[.int .i64 0, .int .u16 0, .int .u16 0, .int .i64 0] 56)) := by
    unfold Hid
    rw [← unhide hW0, ← unhide hq]; exact heap_alloc_new w _
  have HB0 : Hid (Below w.heap.size w W0) := by unfold Hid; rw [← unhide hW0]; exact (Below.refl _ w).alloc (Nat.le_refl _) _
  clear hb p1 p2 p3 p4 p5 p6
  go_enter Try.func30, Try.ntmps30
  go_wp2_with fail
  rw [unhide hq, unhide hW0]
  clear hW0 hbq
  refine wp_region_held_drew (S := (fun V => V.heap[b]? = some (.cells #[.int .i64 s0, .int .i64 s3, .int .u32 s1, .int .u32 s2] 74))) (by kernel_rfl) (unhide HSV0) (fun hHeld => ?_)
  clear hHeld
  have HSV : Hid ((fun V => V.heap[b]? = some (.cells #[.int .i64 s0, .int .i64 s3, .int .u32 s1, .int .u32 s2] 74)) W0.drew) := unhide HSV0
  refine wpAnyH_take (i := 0) (oi := _) (v := .pointer (some ⟨b, 0, none⟩)) rfl (by kernel_rfl) (by kernel_rfl) (by kernel_rfl) (fun _ _ _ h => h) (Or.inl ⟨by rfl, (by intro w' hSw; go_simp)⟩) (unhide HSV) ?_
  go_simp
  refine wpAnyH_take (i := 1) (oi := _) (v := .pointer (some ⟨b, 0, none⟩)) rfl (by kernel_rfl) (by kernel_rfl) (by kernel_rfl) (fun _ _ _ h => h) (Or.inl ⟨by rfl, (by intro w' hSw; go_simp)⟩) (unhide HSV) ?_
  go_simp
  refine wpAnyH_take (i := 2) (oi := _) (v := .pointer (some ⟨b, 0, none⟩)) rfl (by kernel_rfl) (by kernel_rfl) (by kernel_rfl) (fun _ _ _ h => h) (Or.inl ⟨by rfl, (by intro w' hSw; go_simp)⟩) (unhide HSV) ?_
  go_simp
  refine wpAnyH_take (i := 4) (oi := _) (v := .pointer (some ⟨b, 0, none⟩)) rfl (by kernel_rfl) (by kernel_rfl) (by kernel_rfl) (fun _ _ _ h => h) (Or.inl ⟨by rfl, (by intro w' hSw; go_simp)⟩) (unhide HSV) ?_
  go_simp
  refine wpAnyH_take (i := 5) (oi := _) (v := .pointer (some ⟨b, 0, none⟩)) rfl (by kernel_rfl) (by kernel_rfl) (by kernel_rfl) (fun _ _ _ h => h) (Or.inl ⟨by rfl, (by intro w' hSw; go_simp)⟩) (unhide HSV) ?_
  go_simp
  refine wpAnyH_take (i := 6) (oi := _) (v := .pointer (some ⟨b, 2, none⟩)) rfl (by kernel_rfl) (by kernel_rfl) (by kernel_rfl) (fun _ _ _ h => h) (Or.inl ⟨by rfl, (by intro w' hSw; go_simp)⟩) (unhide HSV) ?_
  go_simp
  refine wpAnyH_take (i := 9) (oi := _) (v := .pointer (some ⟨b, 0, none⟩)) rfl (by kernel_rfl) (by kernel_rfl) (by kernel_rfl) (fun _ _ _ h => h) (Or.inl ⟨by rfl, (by intro w' hSw; go_simp)⟩) (unhide HSV) ?_
  go_simp
  refine wpAnyH_take (i := 10) (oi := _) (v := .pointer (some ⟨b, 0, none⟩)) rfl (by kernel_rfl) (by kernel_rfl) (by kernel_rfl) (fun _ _ _ h => h) (Or.inl ⟨by rfl, (by intro w' hSw; go_simp)⟩) (unhide HSV) ?_
  go_simp
  refine wpAnyH_take (i := 11) (oi := _) (v := .pointer (some ⟨b, 3, none⟩)) rfl (by kernel_rfl) (by kernel_rfl) (by kernel_rfl) (fun _ _ _ h => h) (Or.inl ⟨by rfl, (by intro w' hSw; go_simp)⟩) (unhide HSV) ?_
  go_simp
  refine wpAnyH_take (i := 14) (oi := _) (v := .pointer (some ⟨b, 0, none⟩)) rfl (by kernel_rfl) (by kernel_rfl) (by kernel_rfl) (fun _ _ _ h => h) (Or.inl ⟨by rfl, (by intro w' hSw; go_simp)⟩) (unhide HSV) ?_
  go_simp
  refine wpAnyH_take (i := 15) (oi := _) (v := .pointer (some ⟨b, 0, none⟩)) rfl (by kernel_rfl) (by kernel_rfl) (by kernel_rfl) (fun _ _ _ h => h) (Or.inl ⟨by rfl, (by intro w' hSw; go_simp)⟩) (unhide HSV) ?_
  go_simp
  refine wpAnyH_take (i := 16) (oi := _) (v := .pointer (some ⟨b, 1, none⟩)) rfl (by kernel_rfl) (by kernel_rfl) (by kernel_rfl) (fun _ _ _ h => h) (Or.inl ⟨by rfl, (by intro w' hSw; go_simp)⟩) (unhide HSV) ?_
  go_simp
  refine wpAnyH_ready (rs := [3]) (by kernel_rfl) (by simp) ?_
  refine AllReadyH.cons (o := _) rfl (fun K hK => ?_) AllReadyH.nil
  go_simp
  refine (ld64_any (w := W0.drew) ((blk_cells (unhide HSV)).1 0)).mono ?_
  rintro e V ⟨rfl, eV⟩
  have eV2 := eV.symm
  subst eV2
  clear eV
  go_simp
  refine hK.out _ _ (unhide HSV) (fun _ => ?_)
  clear hK K
  go_simp
  refine wpAnyH_ready (rs := [7]) (by kernel_rfl) (by simp) ?_
  refine AllReadyH.cons (o := _) rfl (fun K hK => ?_) AllReadyH.nil
  go_simp
  refine (ld32_any (w := W0.drew) ((blk_cells (unhide HSV)).1 2)).mono ?_
  rintro e V ⟨rfl, eV⟩
  have eV2 := eV.symm
  subst eV2
  clear eV
  go_simp
  refine hK.out _ _ (unhide HSV) (fun _ => ?_)
  clear hK K
  go_simp
  refine wpAnyH_take (i := 8) (oi := _) (v := .int .u16 s1) rfl (by kernel_rfl) (by kernel_rfl) (by kernel_rfl) (fun _ _ _ h => h) (Or.inl ⟨by rfl, (by intro w' hSw; go_simp)⟩) (unhide HSV) ?_
  go_simp
  refine wpAnyH_ready (rs := [12]) (by kernel_rfl) (by simp) ?_
  refine AllReadyH.cons (o := _) rfl (fun K hK => ?_) AllReadyH.nil
  go_simp
  refine (ld32_any (w := W0.drew) ((blk_cells (unhide HSV)).1 3)).mono ?_
  rintro e V ⟨rfl, eV⟩
  have eV2 := eV.symm
  subst eV2
  clear eV
  go_simp
  refine hK.out _ _ (unhide HSV) (fun _ => ?_)
  clear hK K
  go_simp
  refine wpAnyH_take (i := 13) (oi := _) (v := .int .u16 s2) rfl (by kernel_rfl) (by kernel_rfl) (by kernel_rfl) (fun _ _ _ h => h) (Or.inl ⟨by rfl, (by intro w' hSw; go_simp)⟩) (unhide HSV) ?_
  go_simp
  refine wpAnyH_ready (rs := [17]) (by kernel_rfl) (by simp) ?_
  refine AllReadyH.cons (o := _) rfl (fun K hK => ?_) AllReadyH.nil
  go_simp
  refine (ld64_any (w := W0.drew) ((blk_cells (unhide HSV)).1 1)).mono ?_
  rintro e V ⟨rfl, eV⟩
  have eV2 := eV.symm
  subst eV2
  clear eV
  go_simp
  refine hK.out _ _ (unhide HSV) (fun _ => ?_)
  clear hK K
  go_simp
  refine wpAnyH_take (i := 18) (oi := _) (v := .agg #[.int .i64 s0, .int .u16 s1, .int .u16 s2, .int .i64 s3]) rfl (by kernel_rfl) (by kernel_rfl) (by kernel_rfl) (fun _ _ _ h => h) (Or.inl ⟨by rfl, (by intro w' hSw; go_simp)⟩) (unhide HSV) ?_
  go_simp
  refine wpAnyH_ready (rs := [19]) (by kernel_rfl) (by simp) ?_
  refine AllReadyH.cons (o := _) rfl (fun K hK => ?_) AllReadyH.nil
  obtain ⟨cq, fq, lq⟩ := blk_cells (unhide HQ0)
  have d0 := cq 0
  have d1 := cq 1
  have d2 := cq 2
  have d3 := cq 3
  clear cq
  go_simp
  have d4 := fq 0
  have d5 := fq 1
  have d6 := fq 2
  have d7 := fq 3
  clear fq
  go_simp
  refine hK.out _ _ (by
    show (World.setCell _ _ _).heap[b]? = _
    rw [Below.heap_setCell _ _ _ _ hne, Below.heap_setCell _ _ _ _ hne, Below.heap_setCell _ _ _ _ hne, Below.heap_setCell _ _ _ _ hne]
    exact unhide HSV0) (fun _ => ?_)
  clear hK K
  go_simp
  refine wpAnyH_done (by kernel_rfl) ?_ _
  go_wp2_with fail
  refine bodyPost_ret (v := .agg #[.int .i64 s0, .int .u16 s1, .int .u16 s2, .int .i64 s3]) ?_ rfl ?_
  · rw [results_cell_one rfl]
    go_simp
  · refine ⟨rfl, ?_⟩
    have f : Fr (fun z => z = q) W0 ((((W0.setCell ⟨q, 0, none⟩ (.int .i64 s0)).setCell ⟨q, 1, none⟩ (.int .u16 s1)).setCell ⟨q, 2, none⟩ (.int .u16 s2)).setCell ⟨q, 3, none⟩ (.int .i64 s3)).drew := (((((Fr.refl (fun z => z = q) W0).setCell ⟨q, 0, none⟩ (.inr rfl) _).setCell ⟨q, 1, none⟩ (.inr rfl) _).setCell ⟨q, 2, none⟩ (.inr rfl) _).setCell ⟨q, 3, none⟩ (.inr rfl) _).drew
    exact (unhide HB0).trans (f.below (unhide HB0).size (fun z hz e => by have := unhide hq; omega))

/-- The bit of the kind of the value that lies so deep. -/
def kbt (l : List (Int × Int)) (d : Nat) : Int := if l.length ≤ d then 0 else if 0 ≤ (l.getD (l.length - 1 - d) (0, 0)).1 ∧ (l.getD (l.length - 1 - d) (0, 0)).1 ≤ 9 then 2 ^ (l.getD (l.length - 1 - d) (0, 0)).1.toNat else 0
theorem kbt_ok (l : List (Int × Int)) (d : Nat) : 0 ≤ kbt l d ∧ kbt l d < 65536 := by
  unfold kbt
  split
  · omega
  · split
    · rename_i q
      obtain ⟨k, hk⟩ : ∃ k : Nat, (l.getD (l.length - 1 - d) (0, 0)).1.toNat = k := ⟨_, rfl⟩
      rw [hk]
      have h9 : k ≤ 9 := by omega
      have : (k = 0 ∨ k = 1 ∨ k = 2 ∨ k = 3 ∨ k = 4 ∨ k = 5 ∨ k = 6 ∨ k = 7 ∨ k = 8 ∨ k = 9) := by omega
      rcases this with rfl | rfl | rfl | rfl | rfl | rfl | rfl | rfl | rfl | rfl <;> decide
    · omega
set_option maxRecDepth 100000 in
set_option maxHeartbeats 3200000 in
theorem kindBit_any {w : World} {v : Value} {l : List (Int × Int)} (h : Rx w 2 v l.length (flt enI l)) (hl : l.length ≤ 5864062014634) (d : Nat) (hd : d ≤ 1) :
    Calls Try.prog 44 #[v, .int .i64 (d : Int)] w fun e w' => e = .returned (.int .u16 (kbt l d)) ∧ w' = w := by
  have HEL := hide (fun i z (hz : l[i]? = some z) => h.elem zI hz)
  obtain ⟨a, c, rfl, h1, h2⟩ := h.shape
  clear h
  unfold kbt
  obtain ⟨L, hL⟩ : ∃ L, Hid (l.length = L) := ⟨_, hide rfl⟩
  simp only [unhide hL] at h1 HEL hl ⊢
  by_cases m1 : L ≤ d
  · rw [if_pos m1]
    have n1 : decide ((L : Int) ≤ (d : Int)) = true := decide_eq_true (by omega)
    clear HEL
    go_enter Try.func44, Try.ntmps44
    go_wp2_with fail
    go_ret
    exact ⟨rfl, rfl⟩
  rw [if_neg m1]
  have hi : L - 1 - d < L := by omega
  obtain ⟨i, hii⟩ : ∃ i, Hid (L - 1 - d = i) := ⟨_, hide rfl⟩
  rw [unhide hii] at hi ⊢
  obtain ⟨z, hz⟩ : ∃ z, l[i]? = some z := ⟨_, List.getElem?_eq_getElem (by rw [unhide hL]; exact hi)⟩
  have ez : l.getD i (0, 0) = z := by rw [List.getD_eq_getElem?_getD, hz]; rfl
  rw [ez]
  obtain ⟨b, o, cap, e, _, _, hbl, hc⟩ := unhide HEL i z hz
  cases e
  have c0 : w.cell? ⟨b, o + i * 2, none⟩ = some (.int .i64 z.1) := hc 0 _ rfl
  clear HEL hc ez hz
  obtain ⟨k, zz⟩ := z
  simp only at c0 ⊢
  have w1 : IntKind.i64.wrap ((L : Int) - 1) = (L : Int) - 1 := by go_arith
  have w2 : IntKind.i64.wrap ((L : Int) - 1 - (d : Int)) = (i : Int) := by
    have : (L : Int) - 1 - (d : Int) = (i : Int) := by have := unhide hii; omega
    rw [this]; go_arith
  have i0 : (0 : Int) ≤ (i : Int) := by omega
  have i1 : (i : Int) < (L : Int) := by omega
  have n1 : decide ((L : Int) ≤ (d : Int)) = false := decide_eq_false (by omega)
  have n1' : decide (L ≤ d) = false := decide_eq_false m1
  by_cases m2 : k < 0
  · rw [if_neg (by omega)]
    have n2 : decide (k < 0) = true := decide_eq_true m2
    go_enter Try.func44, Try.ntmps44
    go_wp2_with fail
    go_ret
    exact ⟨rfl, rfl⟩
  by_cases m3 : 9 < k
  · rw [if_neg (by omega)]
    have n2 : decide (k < 0) = false := decide_eq_false m2
    have n3 : decide (9 < k) = true := decide_eq_true m3
    go_enter Try.func44, Try.ntmps44
    go_wp2_with fail
    go_ret
    exact ⟨rfl, rfl⟩
  rw [if_pos (by omega)]
  have hk : k = 0 ∨ k = 1 ∨ k = 2 ∨ k = 3 ∨ k = 4 ∨ k = 5 ∨ k = 6 ∨ k = 7 ∨ k = 8 ∨ k = 9 := by omega
  clear m2 m3
  rcases hk with rfl | rfl | rfl | rfl | rfl | rfl | rfl | rfl | rfl | rfl
  all_goals
    go_enter Try.func44, Try.ntmps44
    go_wp2_with fail
    go_ret
    exact ⟨rfl, rfl⟩
/-- What a note makes of the spots. -/
def noteP (f : List (List Sp)) (s : Int × Int) (l : List (Int × Int)) (k : Int) : List (List Sp) := match spAt f s with | none => f | some x => setAt f s (tog x ⟨1, kbt l 0, kbt l 1, k⟩)
theorem OkF.at {f : List (List Sp)} (h : OkF f) {s : Int × Int} {x : Sp} (hx : spAt f s = some x) : okS x := by
  obtain ⟨i, j, l, _, h1, h2⟩ := spAt_some hx
  exact h l (List.mem_of_getElem? h1) x (List.mem_of_getElem? h2)
set_option maxRecDepth 100000 in
set_option maxHeartbeats 3200000 in
theorem note_any {Z : Nat → Prop} {w : World} {p : Nat} {f : List (List Sp)} (h : BkM Z w p f) (hO : OkF f) (s : Int × Int) (hs : OkV s) {v : Value} {l : List (Int × Int)} (hl : Rx w 2 v l.length (flt enI l)) (hll : l.length ≤ 5864062014634) (k : Int) (hk : I64 k) :
    Calls Try.prog 27 #[.pointer (some ⟨p, 0, none⟩), .int .i64 s.1, .int .i64 s.2, v, .int .i64 k] w fun e w' => e = .returned (.tuple #[]) ∧ BkM Z w' p (noteP f s l k) ∧ Fr Z w w' := by
  obtain ⟨mb, n, g, hg, hn, hc, hz⟩ := h
  have hlk := hg.map.look s hs
  obtain ⟨bc, -, bl⟩ := blk_cells hg.book
  have b1 := bc 1
  clear bc
  obtain ⟨va, vc, ev, hv1, hv2⟩ := hl.shape
  have HL := hide hl
  clear hl
  subst ev
  obtain ⟨L, hLL⟩ : ∃ L, Hid (l.length = L) := ⟨_, hide rfl⟩
  have HK0 := hide (fun W (hW : Below w.heap.size w W) => kindBit_any ((unhide HL).below hW (Nat.le_refl _)) hll 0 (by omega))
  have HK1 := hide (fun W (hW : Below w.heap.size w W) => kindBit_any ((unhide HL).below hW (Nat.le_refl _)) hll 1 (by omega))
  rw [unhide hLL] at HK0 HK1 hv1 ⊢
  unfold plV at hlk
  obtain ⟨s1, s2⟩ := s
  simp only at hlk ⊢
  have hcs := hc (s1, s2)
  unfold noteP
  cases hgs : g (s1, s2) with
  | none =>
    rw [hgs] at hcs hlk
    rw [← hcs]
    simp only [Option.map_none, Option.isSome_none, ptV] at hlk ⊢
    have HG := hide hg
    have HZ := hide hz
    have HC := hide hc
    clear hg hz hc hcs hgs HK0 HK1 HL
    go_enter Try.func27, Try.ntmps27
    go_wp2_with fail
    go_end0
    exact ⟨rfl, ⟨mb, n, g, unhide HG, hn, unhide HC, unhide HZ⟩, Fr.refl _ _⟩
  | some bx =>
    obtain ⟨b, x⟩ := bx
    rw [hgs] at hcs hlk
    simp only [Option.map_some, Option.isSome_some, ptV] at hlk hcs
    rw [← hcs]
    simp only
    have hox := hO.at hcs.symm
    obtain ⟨y, hy⟩ : ∃ y : Sp, Hid (y = ⟨1, kbt l 0, kbt l 1, k⟩) := ⟨_, hide rfl⟩
    have hoy : okS y := by
      rw [unhide hy]
      exact ⟨⟨by simp, by simp⟩, kbt_ok l 0, kbt_ok l 1, hk.1, hk.2⟩
    have HADD := hide (add_any (hg.spot _ _ _ hgs) hox hoy)
    rw [← unhide hy]
    have HADD' : Hid (Calls Try.prog 21 #[.pointer (some ⟨b, 0, none⟩), .agg #[.int .i64 1, .int .u16 (kbt l 0), .int .u16 (kbt l 1), .int .i64 k]] w fun e w' => e = .returned (.tuple #[]) ∧ w'.heap[b]? = some (.cells (spC (tog x y)) 74) ∧ Fr (fun k => k = b) w w') := by
      have := unhide HADD
      unfold spV at this
      rw [unhide hy] at this ⊢
      exact this
    obtain ⟨k0, hk0⟩ : ∃ z, Hid (kbt l 0 = z) := ⟨_, hide rfl⟩
    obtain ⟨k1, hk1⟩ : ∃ z, Hid (kbt l 1 = z) := ⟨_, hide rfl⟩
    rw [unhide hk0] at HADD' HK0
    rw [unhide hk1] at HADD' HK1
    have HG := hide hg
    have HZ := hide hz
    have HC := hide hc
    have HGS := hide hgs
    have HCS := hide hcs
    clear hg hz hc hcs hgs HADD hox hoy HL
    go_enter Try.func27, Try.ntmps27
    go_wp2_with fail
    refine (unhide HK0 _ (Below.refl _ _)).mono ?_
    rintro e w1 ⟨rfl, e1⟩
    have e1' := e1.symm
    subst e1'
    clear e1
    go_wp2_with fail
    refine (unhide HK1 _ (Below.refl _ _)).mono ?_
    rintro e w1 ⟨rfl, e1⟩
    have e1' := e1.symm
    subst e1'
    clear e1
    go_wp2_with fail
    refine (unhide HADD').mono ?_
    rintro e w1 ⟨rfl, hb1, hf1⟩
    have HB1 := hide hb1
    have HF1 := hide hf1
    clear hb1 hf1
    go_wp2_with fail
    go_end0
    refine ⟨rfl, ⟨mb, n, putG g (s1, s2) b (tog x y), ?_, ?_, fun t => ?_, fun z hz => ?_⟩, (unhide HF1).mono (fun z _ e => ?_)⟩
    · have := (unhide HG).turn (unhide HGS) (unhide HF1) (unhide HB1)
      have hll : (setAt f (s1, s2) (tog x y)).length = f.length := by simp [setAt]
      rw [hll]
      exact this
    · rw [setAt_lens (unhide HCS).symm]; exact hn
    · rw [spAt_set (unhide HCS).symm]
      by_cases e : t = (s1, s2)
      · subst e; rw [putG_same, if_pos rfl]; rfl
      · rw [putG_other _ _ e, if_neg e]; exact unhide HC t
    · rcases bkS_put hz with q | q
      · exact unhide HZ z q
      · rw [q]; exact unhide HZ b (.inr (.inr ⟨_, _, unhide HGS⟩))
    · subst e; exact unhide HZ z (.inr (.inr ⟨_, _, unhide HGS⟩))
end Go.Proofs.Ytjjfpokmpcpicaa
