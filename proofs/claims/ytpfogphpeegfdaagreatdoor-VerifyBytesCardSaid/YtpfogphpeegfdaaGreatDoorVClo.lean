/-
  slices.Clone of handlers.
-/
import Derived.Test.YtpfogphpeegfdaaGreatDoorVRep
namespace Go.Proofs.YtpfogphpeegfdaaGreatDoor
open Go.RowKit
set_option linter.unusedVariables false
set_option linter.unusedSimpArgs false

theorem flt_map (xs : List Int) : flt enN xs = xs.map (Value.int .i64) := by
  induction xs with
  | nil => rfl
  | cons x r ih => simp only [flt, List.flatMap_cons] at ih ⊢; rw [ih]; rfl
theorem Ro.putN {w : World} {n : Nat} {xs : List Int} {g off cap : Nat} (h : Ro w 1 (.slice (some ⟨g, off, none⟩) n cap) n (flt enN xs)) {i : Nat} (hi : i < n) (x : Int) :
    Ro (w.setCell ⟨g, off + i, none⟩ (.int .i64 x)) 1 (.slice (some ⟨g, off, none⟩) n cap) n (flt enN (xs.set i x)) := by
  have hl := h.1
  obtain ⟨_, _, e, hc, _⟩ := h.shape
  cases e
  rw [flt_map] at hl
  refine (h.sets (v := .slice (some ⟨g, off, none⟩) n cap) rfl (o := off + i) (m := n) (vs := [.int .i64 x]) (ys := flt enN (xs.set i x)) (by omega) (by simp; omega) hc (by rw [flt_map] ; simpa using hl) (fun j hj => ?_) (fun j hj q => by omega)).1
  rw [flt_map, flt_map, List.map_set]
  by_cases q : j = i
  · subst q
    rw [if_pos (by simp), List.getElem?_set_self (by omega)]
    simp
  · rw [if_neg (by simp; omega), List.getElem?_set_ne (by omega)]
/-- What the handlers that hold a place keep. -/
def flo (hs : List Hd) (p : Int) : Int := hs.foldl (fun a h => if h.frm ≤ p ∧ p < h.to then max a h.height else a) 0
def fls (n : Nat) (hs : List Hd) : List Int := (List.range n).map (fun (p : Nat) => flo hs (p : Int))
/-- The same, up to p with one handler more. -/
def mix (n : Nat) (hs : List Hd) (i : Nat) (p : Int) : List Int := (List.range n).map (fun (q : Nat) => if (q : Int) < p then flo (hs.take (i + 1)) (q : Int) else flo (hs.take i) (q : Int))
theorem flo_push {hs : List Hd} {i : Nat} {h : Hd} (hh : hs[i]? = some h) (p : Int) : flo (hs.take (i + 1)) p = if h.frm ≤ p ∧ p < h.to then max (flo (hs.take i) p) h.height else flo (hs.take i) p := by
  rw [take_push hh]; simp [flo, List.foldl_append]
theorem mix_start {hs : List Hd} {i : Nat} {h : Hd} (n : Nat) (hh : hs[i]? = some h) : mix n hs i h.frm = fls n (hs.take i) := by
  unfold mix fls
  refine List.map_congr_left fun q hq => ?_
  split
  · rw [flo_push hh, if_neg (by omega)]
  · rfl
theorem mix_end {hs : List Hd} {i : Nat} {h : Hd} (n : Nat) (hh : hs[i]? = some h) {p : Int} (hp : h.to ≤ p) : mix n hs i p = fls n (hs.take (i + 1)) := by
  unfold mix fls
  refine List.map_congr_left fun q hq => ?_
  split
  · rfl
  · rw [flo_push hh, if_neg (by omega)]
theorem mix_at {hs : List Hd} {i n p : Nat} (hp : p < n) : (mix n hs i (p : Int))[p]? = some (flo (hs.take i) (p : Int)) := by
  unfold mix; simp [hp]
theorem mix_step {hs : List Hd} {i n p : Nat} {h : Hd} (hh : hs[i]? = some h) (h1 : h.frm ≤ (p : Int)) (h2 : (p : Int) < h.to) : mix n hs i ((p : Int) + 1) = (mix n hs i (p : Int)).set p (max (flo (hs.take i) (p : Int)) h.height) := by
  apply List.ext_getElem?
  intro j
  rw [List.getElem?_set]
  unfold mix
  by_cases hj : j < n
  · by_cases q : p = j
    · subst q
      rw [if_pos rfl]
      simp only [List.length_map, List.length_range, hj, if_true]
      simp only [List.getElem?_map, List.getElem?_range hj, Option.map_some]
      rw [if_pos (by omega), flo_push hh, if_pos ⟨h1, h2⟩]
    · rw [if_neg q]
      simp only [List.getElem?_map, List.getElem?_range hj, Option.map_some]
      congr 1
      by_cases q2 : (j : Int) < (p : Int)
      · rw [if_pos q2, if_pos (by omega)]
      · rw [if_neg q2, if_neg (by omega)]
  · rw [List.getElem?_eq_none (by simp; omega)]
    split
    · simp; omega
    · rw [List.getElem?_eq_none (by simp; omega)]
theorem fls_nil (n : Nat) : fls n [] = List.replicate n 0 := by
  unfold fls flo
  simp only [List.foldl_nil]
  rw [List.map_const', List.length_range]
theorem flt_zeros (n : Nat) : flt enN (List.replicate n (0 : Int)) = List.replicate n (Value.int .i64 0) := by rw [flt_map, List.map_replicate]
/-- The list of floors as it grows. -/
def FlR (w0 : World) (g go N : Nat) (xs : List Int) (wr : World) : Prop := Ro wr 1 (.slice (some ⟨g, go, none⟩) N N) N (flt enN xs) ∧ Below w0.heap.size w0 wr ∧ w0.heap.size ≤ g
theorem flo_made {w w2 : World} {N : Nat} {u0 u1 u2 u3 u4 : Value} (how : w2.ownsRow (w.heap.size + 1) 3 1 (.slice (some ⟨w.heap.size + 1, 0, none⟩) N N) N (madeCells (Value.int .i64 0).cells (N * 1)).toList) (hgr : (w.alloc (.cells #[u0, u1, u2, u3, u4] 54)).grownBy w2 none) :
    Hid (FlR (w.alloc (.cells #[u0, u1, u2, u3, u4] 54)) (w.heap.size + 1) 0 N (fls N []) w2) ∧ w2.cell? ⟨w.heap.size, 4, none⟩ = some u4 ∧ w.heap.size < w2.heap.size := by
  have hB2 : Below (w.alloc (.cells #[u0, u1, u2, u3, u4] 54)).heap.size (w.alloc (.cells #[u0, u1, u2, u3, u4] 54)) w2 := ⟨hgr.os, hgr.tape, hgr.output, hgr.size, fun k hk => hgr.block k hk (by simp)⟩
  have n4 := new_cells w #[u0, u1, u2, u3, u4] 54 4 u4 rfl
  rw [Go.WideShapes.add_plain] at n4
  have e : (madeCells (Value.int .i64 0).cells (N * 1)).toList = flt enN (fls N []) := by
    rw [fls_nil, flt_zeros]
    apply List.ext_getElem?
    intro j
    by_cases hj : j < N
    · simp [madeCells, Value.cells, List.getElem?_replicate, hj, Nat.mod_one]
    · simp [madeCells, Value.cells, List.getElem?_replicate, hj]
  rw [e] at how
  exact ⟨⟨Ro.of_own how, hB2, by simp⟩, (hB2.cell (p := ⟨w.heap.size, 4, none⟩) (by simp)).trans n4, by have := hB2.size; simp at this; omega⟩
set_option maxRecDepth 100000 in
set_option maxHeartbeats 3200000 in
theorem floors_any {w : World} {nm : ByteArray} {pr lc : Int} {ca : Option Addr} {N cc : Nat} {hv : Value} {hs : List Hd} (hN1 : 1 ≤ N) (hN : N ≤ 1048576) (hh : Rx w 4 hv hs.length (flt enH hs)) (hok : ∀ h ∈ hs, 0 ≤ h.frm ∧ h.frm ≤ h.to ∧ h.to ≤ (N : Int)) :
    Calls Tryz.prog 47 #[.agg #[.string nm, .int .i64 pr, .int .i64 lc, .slice ca N cc, hv]] w fun e w' => ∃ g, e = .returned (.slice (some ⟨g, 0, none⟩) N N) ∧ Ro w' 1 (.slice (some ⟨g, 0, none⟩) N N) N (flt enN (fls N hs)) ∧ Below w.heap.size w w' ∧ w.heap.size ≤ g := by
  obtain ⟨i0, hi0, hz0, hz1, hz2⟩ := info_parts Tryz.info3
  have HH := hide (fun i h (hx : hs[i]? = some h) => Rx.elem zH hh hx)
  have HOK := hide hok
  obtain ⟨_, ha, hc, rfl, hlc, hcm, _⟩ := hh
  obtain ⟨HL, hHL⟩ : ∃ L, Hid (hs.length = L) := ⟨_, rfl⟩
  have hHm : HL ≤ maxLen := by rw [← unhide hHL]; omega
  unfold maxLen at hHm
  rw [unhide hHL] at HH ⊢
  clear hok hlc hcm
  go_enter Tryz.func47, Tryz.ntmps47
  go_wp2_with (first | (at_make; refine wpList_make_full _ rfl _ _ 35 rfl (w.heap.size + 1) 3 i0 (.int .i64 0) 1 Tryz.underlying35 hi0 hz0 hz1 _ _ _ _ N rfl rfl rfl rfl (by rw [hz2]; omega) (by unfold maxLen; omega) (by simp) ?_; intro w2 how hgr; obtain ⟨HF2, k4, kl⟩ := flo_made (by simpa using how) hgr; clear how hgr))
  clear k4 kl
  obtain ⟨w0, ew0⟩ : ∃ w0, w0 = w.alloc (.cells #[.string nm, .int .i64 pr, .int .i64 lc, .slice ca N cc, .slice ha HL hc] 54) := ⟨_, rfl⟩
  rw [← ew0] at HF2
  have HW0 : Hid (Below w.heap.size w w0) := by rw [ew0]; exact (Below.refl _ _).alloc (Nat.le_refl _) _
  have hs0 : Hid (w0.heap.size = w.heap.size + 1) := by unfold Hid; rw [ew0]; simp
  clear ew0
  obtain ⟨g, hg⟩ : ∃ g, g = w.heap.size + 1 := ⟨_, rfl⟩
  rw [← hg] at HF2 ⊢
  have hgw : Hid (w.heap.size < g) := by unfold Hid; omega
  clear hg
  go_loopg [14] HL (fun gg t14 wr => ∃ (i : Nat), Hid (i + gg = HL) ∧ t14 = .int .i64 (i : Int) ∧ Hid (FlR w0 g 0 N (fls N (hs.take i)) wr))
  case atStart => exact ⟨0, by unfold Hid; omega, rfl, HF2⟩
  case round =>
    obtain ⟨i, hi, rfl, hF⟩ := hrel
    clear HF2
    have i0' : (0 : Int) ≤ (i : Int) := by omega
    by_cases hlt : i < HL
    · have i1 : (i : Int) < (HL : Int) := by omega
      obtain ⟨h, hh⟩ : ∃ h, hs[i]? = some h := ⟨_, List.getElem?_eq_getElem (by rw [unhide hHL]; exact hlt)⟩
      obtain ⟨ok1, ok2, ok3⟩ := unhide HOK h (List.mem_of_getElem? hh)
      obtain ⟨b, off, c', e, _, _, hb, hc0⟩ := unhide HH i h hh
      cases e
      have hbel : Below w.heap.size w wr := (unhide HW0).trans ((unhide hF).2.1.mono (by have := unhide hs0; omega))
      have k0 := (hbel.cell (p := ⟨b, off + i * 4 + 0, none⟩) hb).trans (hc0 0 _ rfl)
      have k1 := (hbel.cell (p := ⟨b, off + i * 4 + 1, none⟩) hb).trans (hc0 1 _ rfl)
      have k2 := (hbel.cell (p := ⟨b, off + i * 4 + 2, none⟩) hb).trans (hc0 2 _ rfl)
      have k3 := (hbel.cell (p := ⟨b, off + i * 4 + 3, none⟩) hb).trans (hc0 3 _ rfl)
      rw [Nat.add_zero] at k0
      have hbr := Nat.lt_of_lt_of_le hb hbel.size
      have HHI := hide hh
      obtain ⟨f1, t1, g1, h4⟩ := h
      simp only at k0 k1 k2 k3 ok1 ok2 ok3
      have hgl : g < wr.heap.size := (unhide hF).1.lt g rfl
      have hms : Hid (mix N hs i f1 = fls N (hs.take i)) := mix_start N (unhide HHI)
      clear hc0 hh hbel
      go_wp2_with fail
      obtain ⟨bx, hbx⟩ : ∃ bx, bx = wr.heap.size := ⟨_, rfl⟩
      obtain ⟨W1, eW1⟩ : ∃ W1, W1 = wr.alloc (.cells #[.int .i64 f1, .int .i64 t1, .int .i64 g1, .int .i64 h4] 98) := ⟨_, rfl⟩
      have hb1 : Below wr.heap.size wr W1 := by rw [eW1]; exact (Below.refl _ _).alloc (Nat.le_refl _) _
      have nb := fun j z (hz : #[Value.int .i64 f1, .int .i64 t1, .int .i64 g1, .int .i64 h4].toList[j]? = some z) => new_cells wr #[.int .i64 f1, .int .i64 t1, .int .i64 g1, .int .i64 h4] 98 j z hz
      have x1 : W1.cell? ⟨bx, 1, none⟩ = some (.int .i64 t1) := by have := nb 1 _ rfl; rw [Go.WideShapes.add_plain] at this; rw [eW1, hbx]; exact this
      have x3 : W1.cell? ⟨bx, 3, none⟩ = some (.int .i64 h4) := by have := nb 3 _ rfl; rw [Go.WideShapes.add_plain] at this; rw [eW1, hbx]; exact this
      have HX1 := hide x1
      have HX3 := hide x3
      have HFs : Hid (FlR w0 g 0 N (mix N hs i f1) W1) := by
        unfold Hid
        rw [unhide hms]
        exact ⟨(unhide hF).1.keep (fun q hq => hb1.block q ((unhide hF).1.lt q hq)), (unhide hF).2.1.trans (hb1.mono (unhide hF).2.1.size), (unhide hF).2.2⟩
      have hbg : Hid (g < bx) := by unfold Hid; rw [hbx]; exact hgl
      rw [← eW1, ← hbx]
      clear eW1 hbx nb x1 x3 hb1 k0 k1 k2 k3 hgl hF hms
      obtain ⟨G, hG⟩ : ∃ G, Hid (gk = G) := ⟨_, rfl⟩
      rw [unhide hG] at hi
      go_loopg [6] (t1 - f1).toNat (fun gg t6 wi => ∃ (p : Int), Hid (f1 ≤ p ∧ p ≤ t1 ∧ (t1 - p).toNat ≤ gg) ∧ t6 = .int .i64 p ∧ Hid (FlR w0 g 0 N (mix N hs i p) wi) ∧ Hid (wi.cell? ⟨bx, 1, none⟩ = some (.int .i64 t1)) ∧ Hid (wi.cell? ⟨bx, 3, none⟩ = some (.int .i64 h4)))
      case atStart => exact ⟨f1, by unfold Hid; omega, rfl, HFs, HX1, HX3⟩
      case round =>
        obtain ⟨p0, hp, rfl, hF, hX1, hX3⟩ := hrel
        have x1 := unhide hX1
        have kh3 := unhide hX3
        have lx : bx < wr.heap.size := World.block_lt_of_cell? _ _ x1
        by_cases hlt2 : p0 < t1
        · obtain ⟨p, rfl⟩ : ∃ p : Nat, p0 = (p : Int) := ⟨p0.toNat, by have := unhide hp; omega⟩
          have hpN : p < N := by omega
          have j0 : (0 : Int) ≤ (p : Int) := by omega
          have j1 : (p : Int) < (N : Int) := by omega
          obtain ⟨y, hy⟩ : ∃ y, Hid (flo (hs.take i) (p : Int) = y) := ⟨_, rfl⟩
          have hst := mix_step (n := N) (unhide HHI) (p := p) (by have := (unhide hp).1; exact this) hlt2
          have hat : (mix N hs i (p : Int))[p]? = some y := by rw [← unhide hy]; exact mix_at hpN
          rw [unhide hy] at hst
          have HST := hide hst
          have hr1 : Rn wr (.slice (some ⟨g, 0, none⟩) N N) (mix N hs i (p : Int)) := by
            have hml : (mix N hs i (p : Int)).length = N := by simp [mix]
            have h1 := (unhide hF).1
            refine Rx.of_ro ?_
            rw [hml]; exact h1
          have hml : (mix N hs i (p : Int)).length = N := by simp [mix]
          obtain ⟨_, _, _, e, _, ky⟩ := hr1.at hat
          rw [hml] at e
          cases e
          clear hml
          rw [Nat.zero_add] at ky
          have kfz : wr.frozen? ⟨g, p, none⟩ = false := (unhide hF).1.free rfl _
          have lg : g < wr.heap.size := World.block_lt_of_cell? _ _ ky
          have HP := fun v => (unhide hF).1.putN hpN v
          have HPUT := hide HP
          have hFr : ∀ v, Fr (fun x => x = g) wr (wr.setCell ⟨g, p, none⟩ v).drew := fun v => ((Fr.refl (fun x => x = g) wr).setCell ⟨g, p, none⟩ (.inr rfl) v).drew
          have HFR := hide hFr
          clear hst hat hr1 HP hFr
          go_wp2_with fail
          by_cases hmx : y < h4
          · have emx : Hid (max y h4 = h4) := by unfold Hid; omega
            refine wp_region_held_drew (S := (fun _ => True)) (by kernel_rfl) (trivial) (fun hHeld => ?_)
            refine wpAnyH_take (i := 0) (oi := _) (v := .slice (some ⟨g, 0, none⟩) N N) rfl (by kernel_rfl) (by kernel_rfl) (by kernel_rfl) (fun _ _ _ h => h) (Or.inl ⟨by rfl, (by intro w hSw; go_simp)⟩) (by assumption) ?_
            go_simp
            refine wpAnyH_take (i := 1) (oi := _) (v := .int .i64 (p : Int)) rfl (by kernel_rfl) (by kernel_rfl) (by kernel_rfl) (fun _ _ _ h => h) (Or.inl ⟨by rfl, (by intro w hSw; go_simp)⟩) (by assumption) ?_
            go_simp
            refine wpAnyH_take (i := 2) (oi := _) (v := .slice (some ⟨g, 0, none⟩) N N) rfl (by kernel_rfl) (by kernel_rfl) (by kernel_rfl) (fun _ _ _ h => h) (Or.inl ⟨by rfl, (by intro w hSw; go_simp)⟩) (by assumption) ?_
            go_simp
            refine wpAnyH_take (i := 3) (oi := _) (v := .int .i64 (p : Int)) rfl (by kernel_rfl) (by kernel_rfl) (by kernel_rfl) (fun _ _ _ h => h) (Or.inl ⟨by rfl, (by intro w hSw; go_simp)⟩) (by assumption) ?_
            go_simp
            refine wpAnyH_take (i := 4) (oi := _) (v := .pointer (some ⟨g, p, none⟩)) rfl (by kernel_rfl) (by kernel_rfl) (by kernel_rfl) (fun _ _ _ h => h) (Or.inl ⟨by rfl, (by intro w hSw; go_simp)⟩) (by assumption) ?_
            go_simp
            refine wpAnyH_take (i := 6) (oi := _) (v := .pointer (some ⟨bx, 3, none⟩)) rfl (by kernel_rfl) (by kernel_rfl) (by kernel_rfl) (fun _ _ _ h => h) (Or.inl ⟨by rfl, (by intro w hSw; go_simp)⟩) (by assumption) ?_
            go_simp
            refine wpAnyH_ready (rs := [5, 7]) (by kernel_rfl) (by simp) ?_
            refine AllReadyH.cons (o := _) rfl (fun K hK => ?_) (AllReadyH.cons (o := _) rfl (fun K hK => ?_) AllReadyH.nil)
            · go_simp
              refine hK.out _ _ (trivial) (fun hHeld5x => ?_)
              clear hK K
              go_simp
              refine wpAnyH_ready (rs := [7]) (by kernel_rfl) (by simp) ?_
              refine AllReadyH.cons (o := _) rfl (fun K hK => ?_) AllReadyH.nil
              go_simp
              refine hK.out _ _ (trivial) (fun hHeld7x => ?_)
              clear hK K
              go_simp
              refine wpAnyH_take (i := 8) (oi := _) (v := .int .i64 h4) rfl (by kernel_rfl) (by kernel_rfl) (by kernel_rfl) (fun _ _ _ h => h) (Or.inl ⟨by rfl, (by intro w hSw; go_simp)⟩) (by assumption) ?_
              go_simp
              refine wpAnyH_take (i := 9) (oi := _) (v := .pointer (some ⟨g, p, none⟩)) rfl (by kernel_rfl) (by kernel_rfl) (by kernel_rfl) (fun _ _ _ h => h) (Or.inl ⟨by rfl, (by intro w hSw; go_simp)⟩) (by assumption) ?_
              go_simp
              refine wpAnyH_ready (rs := [10]) (by kernel_rfl) (by simp) ?_
              refine AllReadyH.cons (o := _) rfl (fun K hK => ?_) AllReadyH.nil
              go_simp
              refine hK.out _ _ (trivial) (fun hHeld10x => ?_)
              clear hK K
              go_simp
              refine wpAnyH_done (by kernel_rfl) ?_ _
              have HF3 : Hid (FlR w0 g 0 N (mix N hs i ((p : Int) + 1)) ((wr.setCell ⟨g, p, none⟩ (.int .i64 h4)).drew)) := by
                refine ⟨?_, (unhide hF).2.1.trans ((((unhide HFR) (.int .i64 h4)).mono (fun _ _ e => e)).below (unhide hF).2.1.size (fun q hq e => by have := (unhide hF).2.2; omega)), (unhide hF).2.2⟩
                rw [unhide HST, unhide emx]
                have := unhide HPUT h4
                rw [Nat.zero_add] at this
                exact this
              have HX1' : Hid (((wr.setCell ⟨g, p, none⟩ (.int .i64 h4)).drew).cell? ⟨bx, 1, none⟩ = some (.int .i64 t1)) := ((unhide HFR (.int .i64 h4)).cell (a := ⟨bx, 1, none⟩) lx (by show ¬ bx = g; have := unhide hbg; omega)).trans x1
              have HX3' : Hid (((wr.setCell ⟨g, p, none⟩ (.int .i64 h4)).drew).cell? ⟨bx, 3, none⟩ = some (.int .i64 h4)) := ((unhide HFR (.int .i64 h4)).cell (a := ⟨bx, 3, none⟩) lx (by show ¬ bx = g; have := unhide hbg; omega)).trans kh3
              obtain ⟨Wz, eWz⟩ : ∃ Wz, Wz = (wr.setCell ⟨g, p, none⟩ (.int .i64 h4)).drew := ⟨_, rfl⟩
              rw [← eWz] at HF3 HX1' HX3' ⊢
              clear eWz
              go_wp2_with fail
              go_roundg (gk - 1)
              case measure => have := unhide hp; omega
              case rel => exact ⟨(p : Int) + 1, by have := unhide hp; unfold Hid; omega, by go_num, HF3, HX1', HX3'⟩
            · go_simp
              refine hK.out _ _ (trivial) (fun hHeld7x => ?_)
              clear hK K
              go_simp
              refine wpAnyH_ready (rs := [5]) (by kernel_rfl) (by simp) ?_
              refine AllReadyH.cons (o := _) rfl (fun K hK => ?_) AllReadyH.nil
              go_simp
              refine hK.out _ _ (trivial) (fun hHeld5x => ?_)
              clear hK K
              go_simp
              refine wpAnyH_take (i := 8) (oi := _) (v := .int .i64 h4) rfl (by kernel_rfl) (by kernel_rfl) (by kernel_rfl) (fun _ _ _ h => h) (Or.inl ⟨by rfl, (by intro w hSw; go_simp)⟩) (by assumption) ?_
              go_simp
              refine wpAnyH_take (i := 9) (oi := _) (v := .pointer (some ⟨g, p, none⟩)) rfl (by kernel_rfl) (by kernel_rfl) (by kernel_rfl) (fun _ _ _ h => h) (Or.inl ⟨by rfl, (by intro w hSw; go_simp)⟩) (by assumption) ?_
              go_simp
              refine wpAnyH_ready (rs := [10]) (by kernel_rfl) (by simp) ?_
              refine AllReadyH.cons (o := _) rfl (fun K hK => ?_) AllReadyH.nil
              go_simp
              refine hK.out _ _ (trivial) (fun hHeld10x => ?_)
              clear hK K
              go_simp
              refine wpAnyH_done (by kernel_rfl) ?_ _
              have HF3 : Hid (FlR w0 g 0 N (mix N hs i ((p : Int) + 1)) ((wr.setCell ⟨g, p, none⟩ (.int .i64 h4)).drew)) := by
                refine ⟨?_, (unhide hF).2.1.trans ((((unhide HFR) (.int .i64 h4)).mono (fun _ _ e => e)).below (unhide hF).2.1.size (fun q hq e => by have := (unhide hF).2.2; omega)), (unhide hF).2.2⟩
                rw [unhide HST, unhide emx]
                have := unhide HPUT h4
                rw [Nat.zero_add] at this
                exact this
              have HX1' : Hid (((wr.setCell ⟨g, p, none⟩ (.int .i64 h4)).drew).cell? ⟨bx, 1, none⟩ = some (.int .i64 t1)) := ((unhide HFR (.int .i64 h4)).cell (a := ⟨bx, 1, none⟩) lx (by show ¬ bx = g; have := unhide hbg; omega)).trans x1
              have HX3' : Hid (((wr.setCell ⟨g, p, none⟩ (.int .i64 h4)).drew).cell? ⟨bx, 3, none⟩ = some (.int .i64 h4)) := ((unhide HFR (.int .i64 h4)).cell (a := ⟨bx, 3, none⟩) lx (by show ¬ bx = g; have := unhide hbg; omega)).trans kh3
              obtain ⟨Wz, eWz⟩ : ∃ Wz, Wz = (wr.setCell ⟨g, p, none⟩ (.int .i64 h4)).drew := ⟨_, rfl⟩
              rw [← eWz] at HF3 HX1' HX3' ⊢
              clear eWz
              go_wp2_with fail
              go_roundg (gk - 1)
              case measure => have := unhide hp; omega
              case rel => exact ⟨(p : Int) + 1, by have := unhide hp; unfold Hid; omega, by go_num, HF3, HX1', HX3'⟩
          · have emx : Hid (max y h4 = y) := by unfold Hid; omega
            refine wp_region_held_drew (S := (fun _ => True)) (by kernel_rfl) (trivial) (fun hHeld => ?_)
            refine wpAnyH_take (i := 0) (oi := _) (v := .slice (some ⟨g, 0, none⟩) N N) rfl (by kernel_rfl) (by kernel_rfl) (by kernel_rfl) (fun _ _ _ h => h) (Or.inl ⟨by rfl, (by intro w hSw; go_simp)⟩) (by assumption) ?_
            go_simp
            refine wpAnyH_take (i := 1) (oi := _) (v := .int .i64 (p : Int)) rfl (by kernel_rfl) (by kernel_rfl) (by kernel_rfl) (fun _ _ _ h => h) (Or.inl ⟨by rfl, (by intro w hSw; go_simp)⟩) (by assumption) ?_
            go_simp
            refine wpAnyH_take (i := 2) (oi := _) (v := .slice (some ⟨g, 0, none⟩) N N) rfl (by kernel_rfl) (by kernel_rfl) (by kernel_rfl) (fun _ _ _ h => h) (Or.inl ⟨by rfl, (by intro w hSw; go_simp)⟩) (by assumption) ?_
            go_simp
            refine wpAnyH_take (i := 3) (oi := _) (v := .int .i64 (p : Int)) rfl (by kernel_rfl) (by kernel_rfl) (by kernel_rfl) (fun _ _ _ h => h) (Or.inl ⟨by rfl, (by intro w hSw; go_simp)⟩) (by assumption) ?_
            go_simp
            refine wpAnyH_take (i := 4) (oi := _) (v := .pointer (some ⟨g, p, none⟩)) rfl (by kernel_rfl) (by kernel_rfl) (by kernel_rfl) (fun _ _ _ h => h) (Or.inl ⟨by rfl, (by intro w hSw; go_simp)⟩) (by assumption) ?_
            go_simp
            refine wpAnyH_take (i := 6) (oi := _) (v := .pointer (some ⟨bx, 3, none⟩)) rfl (by kernel_rfl) (by kernel_rfl) (by kernel_rfl) (fun _ _ _ h => h) (Or.inl ⟨by rfl, (by intro w hSw; go_simp)⟩) (by assumption) ?_
            go_simp
            refine wpAnyH_ready (rs := [5, 7]) (by kernel_rfl) (by simp) ?_
            refine AllReadyH.cons (o := _) rfl (fun K hK => ?_) (AllReadyH.cons (o := _) rfl (fun K hK => ?_) AllReadyH.nil)
            · go_simp
              refine hK.out _ _ (trivial) (fun hHeld5x => ?_)
              clear hK K
              go_simp
              refine wpAnyH_ready (rs := [7]) (by kernel_rfl) (by simp) ?_
              refine AllReadyH.cons (o := _) rfl (fun K hK => ?_) AllReadyH.nil
              go_simp
              refine hK.out _ _ (trivial) (fun hHeld7x => ?_)
              clear hK K
              go_simp
              refine wpAnyH_take (i := 8) (oi := _) (v := .int .i64 y) rfl (by kernel_rfl) (by kernel_rfl) (by kernel_rfl) (fun _ _ _ h => h) (Or.inl ⟨by rfl, (by intro w hSw; go_simp)⟩) (by assumption) ?_
              go_simp
              refine wpAnyH_take (i := 9) (oi := _) (v := .pointer (some ⟨g, p, none⟩)) rfl (by kernel_rfl) (by kernel_rfl) (by kernel_rfl) (fun _ _ _ h => h) (Or.inl ⟨by rfl, (by intro w hSw; go_simp)⟩) (by assumption) ?_
              go_simp
              refine wpAnyH_ready (rs := [10]) (by kernel_rfl) (by simp) ?_
              refine AllReadyH.cons (o := _) rfl (fun K hK => ?_) AllReadyH.nil
              go_simp
              refine hK.out _ _ (trivial) (fun hHeld10x => ?_)
              clear hK K
              go_simp
              refine wpAnyH_done (by kernel_rfl) ?_ _
              have HF3 : Hid (FlR w0 g 0 N (mix N hs i ((p : Int) + 1)) ((wr.setCell ⟨g, p, none⟩ (.int .i64 y)).drew)) := by
                refine ⟨?_, (unhide hF).2.1.trans ((((unhide HFR) (.int .i64 y)).mono (fun _ _ e => e)).below (unhide hF).2.1.size (fun q hq e => by have := (unhide hF).2.2; omega)), (unhide hF).2.2⟩
                rw [unhide HST, unhide emx]
                have := unhide HPUT y
                rw [Nat.zero_add] at this
                exact this
              have HX1' : Hid (((wr.setCell ⟨g, p, none⟩ (.int .i64 y)).drew).cell? ⟨bx, 1, none⟩ = some (.int .i64 t1)) := ((unhide HFR (.int .i64 y)).cell (a := ⟨bx, 1, none⟩) lx (by show ¬ bx = g; have := unhide hbg; omega)).trans x1
              have HX3' : Hid (((wr.setCell ⟨g, p, none⟩ (.int .i64 y)).drew).cell? ⟨bx, 3, none⟩ = some (.int .i64 h4)) := ((unhide HFR (.int .i64 y)).cell (a := ⟨bx, 3, none⟩) lx (by show ¬ bx = g; have := unhide hbg; omega)).trans kh3
              obtain ⟨Wz, eWz⟩ : ∃ Wz, Wz = (wr.setCell ⟨g, p, none⟩ (.int .i64 y)).drew := ⟨_, rfl⟩
              rw [← eWz] at HF3 HX1' HX3' ⊢
              clear eWz
              go_wp2_with fail
              go_roundg (gk - 1)
              case measure => have := unhide hp; omega
              case rel => exact ⟨(p : Int) + 1, by have := unhide hp; unfold Hid; omega, by go_num, HF3, HX1', HX3'⟩
            · go_simp
              refine hK.out _ _ (trivial) (fun hHeld7x => ?_)
              clear hK K
              go_simp
              refine wpAnyH_ready (rs := [5]) (by kernel_rfl) (by simp) ?_
              refine AllReadyH.cons (o := _) rfl (fun K hK => ?_) AllReadyH.nil
              go_simp
              refine hK.out _ _ (trivial) (fun hHeld5x => ?_)
              clear hK K
              go_simp
              refine wpAnyH_take (i := 8) (oi := _) (v := .int .i64 y) rfl (by kernel_rfl) (by kernel_rfl) (by kernel_rfl) (fun _ _ _ h => h) (Or.inl ⟨by rfl, (by intro w hSw; go_simp)⟩) (by assumption) ?_
              go_simp
              refine wpAnyH_take (i := 9) (oi := _) (v := .pointer (some ⟨g, p, none⟩)) rfl (by kernel_rfl) (by kernel_rfl) (by kernel_rfl) (fun _ _ _ h => h) (Or.inl ⟨by rfl, (by intro w hSw; go_simp)⟩) (by assumption) ?_
              go_simp
              refine wpAnyH_ready (rs := [10]) (by kernel_rfl) (by simp) ?_
              refine AllReadyH.cons (o := _) rfl (fun K hK => ?_) AllReadyH.nil
              go_simp
              refine hK.out _ _ (trivial) (fun hHeld10x => ?_)
              clear hK K
              go_simp
              refine wpAnyH_done (by kernel_rfl) ?_ _
              have HF3 : Hid (FlR w0 g 0 N (mix N hs i ((p : Int) + 1)) ((wr.setCell ⟨g, p, none⟩ (.int .i64 y)).drew)) := by
                refine ⟨?_, (unhide hF).2.1.trans ((((unhide HFR) (.int .i64 y)).mono (fun _ _ e => e)).below (unhide hF).2.1.size (fun q hq e => by have := (unhide hF).2.2; omega)), (unhide hF).2.2⟩
                rw [unhide HST, unhide emx]
                have := unhide HPUT y
                rw [Nat.zero_add] at this
                exact this
              have HX1' : Hid (((wr.setCell ⟨g, p, none⟩ (.int .i64 y)).drew).cell? ⟨bx, 1, none⟩ = some (.int .i64 t1)) := ((unhide HFR (.int .i64 y)).cell (a := ⟨bx, 1, none⟩) lx (by show ¬ bx = g; have := unhide hbg; omega)).trans x1
              have HX3' : Hid (((wr.setCell ⟨g, p, none⟩ (.int .i64 y)).drew).cell? ⟨bx, 3, none⟩ = some (.int .i64 h4)) := ((unhide HFR (.int .i64 y)).cell (a := ⟨bx, 3, none⟩) lx (by show ¬ bx = g; have := unhide hbg; omega)).trans kh3
              obtain ⟨Wz, eWz⟩ : ∃ Wz, Wz = (wr.setCell ⟨g, p, none⟩ (.int .i64 y)).drew := ⟨_, rfl⟩
              rw [← eWz] at HF3 HX1' HX3' ⊢
              clear eWz
              go_wp2_with fail
              go_roundg (gk - 1)
              case measure => have := unhide hp; omega
              case rel => exact ⟨(p : Int) + 1, by have := unhide hp; unfold Hid; omega, by go_num, HF3, HX1', HX3'⟩
        · have hmE : Hid (mix N hs i p0 = fls N (hs.take (i + 1))) := mix_end N (unhide HHI) (by show t1 ≤ p0; omega)
          have hF2 : Hid (FlR w0 g 0 N (fls N (hs.take (i + 1))) wr) := by rw [← unhide hmE]; exact hF
          clear hF
          go_wp2_with fail
          go_roundg (G - 1)
          case measure => have := unhide hG; have := unhide hi; omega
          case rel => exact ⟨i + 1, by have := unhide hi; unfold Hid; omega, by go_num, hF2⟩
    · have hiL : i = HL := by have := unhide hi; omega
      have hE := unhide hF
      rw [List.take_of_length_le (by rw [unhide hHL]; omega)] at hE
      have HE := hide hE
      clear hF hE
      go_wp2_with fail
      go_ret
      exact ⟨g, rfl, (unhide HE).1, (unhide HW0).trans ((unhide HE).2.1.mono (by have := unhide hs0; omega)), by have := unhide hgw; omega⟩

set_option linter.unusedVariables false
set_option linter.unusedSimpArgs false
theorem Tryz.info98v : (Tryz.prog.info? 98).map (fun i => (i.zero, i.size, i.bytes)) = some (some (.agg #[.int .i64 0, .int .i64 0, .int .i64 0, .int .i64 0]), 4, 32) := by kernel_rfl
theorem nil_eq38 (c : Nat) (W : World) : (binOp .eql 52 (.slice none 0 c) (.slice none 0 0)).run Tryz.prog W = .ok (.bool true) W := by kernel_rfl
theorem nil_ne38 (a : Addr) (n c : Nat) (W : World) : (binOp .eql 52 (.slice (some a) n c) (.slice none 0 0)).run Tryz.prog W = .ok (.bool false) W := by kernel_rfl
theorem clone_app {w : World} {b off hc : Nat} {hs : List Hd} (hN : hs.length ≤ 1048576) (h0 : 0 < hs.length) (hb : b < w.heap.size) (hcell : ∀ j, j < hs.length * 4 → w.cell? ⟨b, off + j, none⟩ = (flt enH hs)[j]?) :
    ∃ v' w', (Builtin.append_ #[52, 52] 52 #[.slice (some ⟨w.heap.size, 0, none⟩) 0 0, .slice (some ⟨b, off, none⟩) hs.length hc]).run Tryz.prog (w.alloc (.cells #[] 98)) = .ok v' w' ∧ Hid (Ro w' 4 v' hs.length (flt enH hs) ∧ Below w.heap.size w w' ∧ ∀ k, v'.ownBlock = some k → w.heap.size ≤ k) := by
  obtain ⟨i0, hi0, hz0, hz1, hz2⟩ := info_parts Tryz.info98v
  have hr : Ro (w.alloc (.cells #[] 98)) 4 (.slice (some ⟨w.heap.size, 0, none⟩) 0 0) 0 [] := ⟨by simp, .inr ⟨w.heap.size, 0, 0, #[], 98, rfl, heap_alloc_new w _, Nat.le_refl _, Nat.zero_le _, by simp, fun j hj => by omega⟩⟩
  have hB : Below w.heap.size w (w.alloc (.cells #[] 98)) := (Below.refl _ _).alloc (Nat.le_refl _) _
  have hl := flt_length zH hs
  obtain ⟨v', w', hrun, k1, k2, k3⟩ := Ro.app (P := Tryz.prog) 52 52 98 i0 _ 4 32 Tryz.underlying52 hi0 hz0 hz1 hz2 rfl (by decide) hr ⟨b, off, none⟩ hs.length hc (flt enH hs) hl (fun j u hu => by
    have hj : j < hs.length * 4 := by have := (List.getElem?_eq_some_iff.1 hu).1; omega
    rw [Go.WideShapes.add_plain]
    exact (hB.cell (p := ⟨b, off + j, none⟩) hb).trans ((hcell j hj).trans hu)) (fun u hu => by
    obtain ⟨h, hh, hu2⟩ := List.mem_flatMap.1 hu
    simp only [enH, List.mem_cons, List.not_mem_nil, or_false] at hu2
    rcases hu2 with rfl | rfl | rfl | rfl <;> rfl) h0 (by unfold maxLen; omega) (by omega)
  rw [Nat.zero_add, List.nil_append] at k1
  refine ⟨v', w', hrun, k1, hB.trans ⟨k2.os, k2.tape, k2.output, k2.size, fun k hk => k2.block k (by simp; omega) (by simp [Value.ownBlock]; omega)⟩, fun k hk => ?_⟩
  rcases k3 with q | q
  · rw [q] at hk; simp [Value.ownBlock] at hk; omega
  · rw [q] at hk; simp at hk; omega
theorem clone_app0 (w : World) (a : Addr) (c : Nat) : (Builtin.append_ #[52, 52] 52 #[.slice (some ⟨w.heap.size, 0, none⟩) 0 0, .slice (some a) 0 c]).run Tryz.prog (w.alloc (.cells #[] 98)) = .ok (.slice (some ⟨w.heap.size, 0, none⟩) 0 0) (w.alloc (.cells #[] 98)) := by
  kernel_rfl
theorem wpList_appRun {w w' : World} {ops : Array Oper} {rest : List Oper} {o : Oper} {a : Act} {Q : Exit → Act → World → Prop} {v u v' : Value} {t : TypeId}
    (hg : o.guard = none) (s x : Operand) (hop : o.op = Op.call { callee := Callee.builtin Builtin.append, args := #[s, x], argTypes := #[t, t] }) (hs : a.eval s = v) (hx : a.eval x = u)
    (hrun : (Builtin.append_ #[t, t] o.type #[v, u]).run Tryz.prog w = .ok v' w') (hK : wpList Tryz.prog ops Q rest (a.put o.dst v') w') : wpList Tryz.prog ops Q (o :: rest) a w := by
  refine wpList_plain hg fun K hK' => ?_
  unfold Oper.wp
  simp [execOp, hop, resolve, invoke, builtin, hs, hx, hrun, Result.andThen]
  exact hK' _ _ hK
set_option maxRecDepth 100000 in
set_option maxHeartbeats 1600000 in
theorem cloneH_any {w : World} {hv : Value} {hs : List Hd} (hN : hs.length ≤ 1048576) (hh : Rx w 4 hv hs.length (flt enH hs)) :
    Calls Tryz.prog 48 #[hv] w fun e w' => ∃ v', e = .returned v' ∧ Ro w' 4 v' hs.length (flt enH hs) ∧ Below w.heap.size w w' ∧ ∀ k, v'.ownBlock = some k → w.heap.size ≤ k := by
  obtain ⟨_, ha, hc, rfl, hlc, hcm, hcell⟩ := hh
  cases ha with
  | none =>
    have h0 : hs.length = 0 := by
      by_cases q : 0 < hs.length
      · obtain ⟨_, _, e, _⟩ := hcell q; cases e
      · omega
    have hnil : hs = [] := List.eq_nil_of_length_eq_zero h0
    subst hnil
    have hq := nil_eq38 hc w
    simp only [List.length_nil] at hq ⊢
    clear hlc hcm hcell h0
    go_enter Tryz.func48, Tryz.ntmps48
    go_wp2_with fail
    go_ret
    exact ⟨_, rfl, by simpa [flt] using Ro.nil w 4, Below.refl _ _, by simp [Value.ownBlock]⟩
  | some a =>
    have hq := nil_ne38 a hs.length hc w
    by_cases h0 : 0 < hs.length
    · obtain ⟨b, off, e, hb, hc2⟩ := hcell h0
      cases e
      obtain ⟨v', w', hrun, HV⟩ := clone_app (hc := hc) hN h0 hb hc2
      have HRUN := hide hrun
      clear hcell hc2 h0 hrun
      go_enter Tryz.func48, Tryz.ntmps48
      go_wp2_with (first | (at_builtin; refine wpList_appRun rfl _ _ rfl rfl rfl (unhide HRUN) ?_))
      go_ret
      exact ⟨v', rfl, unhide HV⟩
    · have hnil : hs = [] := List.eq_nil_of_length_eq_zero (by omega)
      subst hnil
      have HRUN := hide (clone_app0 w a hc)
      simp only [List.length_nil] at hq ⊢
      clear hlc hcm hcell h0
      go_enter Tryz.func48, Tryz.ntmps48
      go_wp2_with (first | (at_builtin; refine wpList_appRun rfl _ _ rfl rfl rfl (unhide HRUN) ?_))
      go_ret
      exact ⟨_, rfl, ⟨by simp [flt], .inr ⟨w.heap.size, 0, 0, #[], 98, rfl, heap_alloc_new w _, Nat.le_refl _, Nat.zero_le _, by simp, fun j hj => by simp at hj⟩⟩, (Below.refl _ _).alloc (Nat.le_refl _) _, by simp [Value.ownBlock]⟩
end Go.Proofs.YtpfogphpeegfdaaGreatDoor
