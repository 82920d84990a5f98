/-
  ProfileHot's law.
-/
import Derived.Test.YtaldacjeeccbhaaH5
import Derived.Test.YtaldacjeeccbhaaRSm
import Derived.Test.YtaldacjeeccbhaaPLn
import Derived.Test.YtaldacjeeccbhaaPKp
namespace Go.Proofs.Ytaldacjeeccbhaa
open Go.RowKit
set_option linter.unusedVariables false
set_option linter.unusedSimpArgs false
def len2 (a b : Nat) (k : Nat) : Nat := match k with
  | 0 => a
  | _ => b
theorem mk2 {w : World} {a b : Value} {la lb : List Int} (ha : Ro w 1 a la.length (flt enN la)) (hb : Ro w 1 b lb.length (flt enN lb)) : MK w [a, b] (len2 la.length lb.length) 0 0 w := by
  refine ⟨fun j hj => ?_, Fr.refl _ _⟩
  match j, hj with
  | 0, _ => exact ⟨la, rfl, ha, fun h => absurd h (by omega), fun _ t ht => absurd ht (by omega)⟩
  | 1, _ => exact ⟨lb, rfl, hb, fun h => absurd h (by omega), fun _ t ht => absurd ht (by omega)⟩
theorem gc2 {w : World} {a b : Value} (ha : ∀ k, a.ownBlock = some k → k < w.heap.size) (hb : ∀ k, b.ownBlock = some k → k < w.heap.size)
    (hab : ∀ k, a.ownBlock = some k → b.ownBlock ≠ some k) : GC w [a, b] := by
  refine ⟨fun k ⟨j, hj, h⟩ => ?_, fun j j' k hj hj' hn h h' => ?_⟩
  · match j, hj with
    | 0, _ => exact ha k h
    | 1, _ => exact hb k h
  · match j, hj, j', hj' with
    | 0, _, 0, _ => exact hn rfl
    | 0, _, 1, _ => exact hab k h h'
    | 1, _, 0, _ => exact hab k h' h
    | 1, _, 1, _ => exact hn rfl
theorem bk2 {a b : Value} {k : Nat} (h : bk [a, b] k) : a.ownBlock = some k ∨ b.ownBlock = some k := by
  obtain ⟨j, hj, h⟩ := h
  match j, hj with
  | 0, _ => exact .inl h
  | 1, _ => exact .inr h
theorem hotS_len (f : List (List Sp)) (least : Int) : (hotS f least).length ≤ f.length := by
  unfold hotS
  rw [List.length_mergeSort]
  exact hotP_len f least f.length
theorem box4h (w : World) (cs : Array Value) (t1 : TypeId) : Below w.heap.size w (w.alloc (.cells cs t1)) := (Below.refl _ w).alloc (Nat.le_refl _) _
/-- Two rows of one's own lie apart. -/
theorem apart2 {w : World} {B C : Nat} {a b : Value} {l m : List Int} (ha : Ro w 1 a l.length (flt enN l)) (hb : Ro w 1 b m.length (flt enN m)) (ga : ∀ k, a.ownBlock = some k → B ≤ k ∧ k < C) (gb : ∀ k, b.ownBlock = some k → C ≤ k) (hC : B ≤ C) (hl : l.length ≤ 5864062014634) (hm : m.length ≤ 5864062014634) (hB : B ≤ w.heap.size) :
    Calls Try.prog 12 #[.slice (some ⟨w.heap.size, 0, none⟩) 2 2] (w.alloc (.cells #[a, b] 25)) fun e w' => e = .returned (.bool true) ∧ Fr (fun k => B ≤ k) w w' := by
  have la : ∀ k, a.ownBlock = some k → k < w.heap.size := fun k h => ha.lt k h
  have lb : ∀ k, b.ownBlock = some k → k < w.heap.size := fun k h => hb.lt k h
  have hbx := box4h w #[a, b] 25
  have ha' := ha.fr (Fr.of_below (S := fun _ => False) hbx) (fun _ _ e => e)
  have hb' := hb.fr (Fr.of_below (S := fun _ => False) hbx) (fun _ _ e => e)
  have hk := mk2 ha' hb'
  have hc := gc2 ha'.lt hb'.lt (fun k h1 h2 => by have := (ga k h1).2; have := gb k h2; omega)
  have hV : Rx (w.alloc (.cells #[a, b] 25)) 1 (.slice (some ⟨w.heap.size, 0, none⟩) 2 2) [a, b].length [a, b] := by
    refine ⟨rfl, some ⟨w.heap.size, 0, none⟩, 2, rfl, Nat.le_refl _, by unfold maxLen; decide, fun _ => ⟨w.heap.size, 0, rfl, by simp, fun j hj => ?_⟩⟩
    match j, hj with
    | 0, _ => simp
    | 1, _ => simp
  refine (apartInts_any hV (fun k hb hk => ?_) hk hc (by simp) (fun k => ?_)).mono ?_
  · have e2 : w.heap.size = k := Option.some.inj hb
    rcases bk2 hk with q | q
    · have := la k q; omega
    · have := lb k q; omega
  · unfold len2
    split <;> omega
  · rintro e w' ⟨rfl, f⟩
    refine ⟨rfl, (Fr.of_below (S := fun k => B ≤ k) hbx).trans (f.mono (fun k _ q => ?_))⟩
    rcases bk2 q with q | q
    · exact (ga k q).1
    · have := gb k q; omega
set_option maxRecDepth 100000 in
set_option maxHeartbeats 6400000 in
theorem hotLaw {w : World} {av : Value} {f : List (List Sp)} (ha : PfV w av f) (hN : f.length ≤ 5864062014634) (hM : ∀ l ∈ f, l.length ≤ 5864062014634) (least : Int) :
    Calls Try.prog 3 #[.agg #[av], .int .i64 least] w fun e w' => e = .returned (.bool true) ∧ Below w.heap.size w w' := by
  obtain ⟨a, acap, rfl, ha1, ha2⟩ := ha.shape
  have HA := hide ha
  obtain ⟨L, hL⟩ : ∃ L, Hid (f.length = L) := ⟨_, hide rfl⟩
  obtain ⟨H, hH⟩ : ∃ H, Hid (hotS f least = H) := ⟨_, hide rfl⟩
  obtain ⟨K, hK⟩ : ∃ K, Hid (H.length = K) := ⟨_, hide rfl⟩
  have hKN : K ≤ 5864062014634 := by have := hotS_len f least; rw [← unhide hK, ← unhide hH]; omega
  have HB0 := hide (box1 w (.slice a f.length acap) 24)
  have HK0 := hide (heap_alloc_new w (.cells #[.slice a f.length acap] 24))
  have HR := hide (refHot_any (ha.below (box1 w (.slice a f.length acap) 24) (Nat.le_refl _)) hN least)
  have HNM : Hid (f.length ≤ 5864062014634 ∧ ∀ l ∈ f, l.length ≤ 5864062014634) := ⟨by omega, fun l hl => by have := hM l hl; omega⟩
  have HN0 := hide hN
  rw [unhide hH] at HR
  rw [unhide hL] at HA HB0 HK0 HR ⊢
  clear ha ha1 ha2 hN hM
  go_enter Try.func3, Try.ntmps3
  go_wp2_with fail
  refine (unhide HR).mono ?_
  rintro e w1 ⟨wv, rfl, O1⟩
  obtain ⟨wa, wc, ew, -, -⟩ := O1.1.shape
  rw [unhide hK] at ew
  subst ew
  have HO1 := hide O1.1
  have HB1 := hide (bl_past (unhide HB0) O1.2.1)
  have hk1 := (O1.2.1.block _ (Array.getElem?_eq_some_iff.1 (unhide HK0)).1).trans (unhide HK0)
  have HK1 := hide hk1
  obtain ⟨c1, -, z1⟩ := blk_cells hk1
  have q1 := c1 0
  simp at q1
  have HL := hide (lentP_any ((unhide HA).below (unhide HB1) (Nat.le_refl _)) (unhide HNM).1 (unhide HNM).2)
  clear O1 HR HB0 HK0 c1 hk1
  go_wp2_with fail
  refine (unhide HL).mono ?_
  rintro e w2 ⟨xv, xs, rfl, O2, b2⟩
  obtain ⟨xa, xc, ex, hx1, hx2⟩ := O2.row.shape
  rw [unhide hL] at ex hx1
  subst ex
  have HO2 := hide O2
  have HB2 := hide b2
  clear HL O2 b2 q1 z1
  have HENV : Hid (∀ W, Below (w2.alloc (.cells #[.slice xa L xc] 24)).heap.size (w2.alloc (.cells #[.slice xa L xc] 24)) W → W.cell? ⟨w.heap.size, 0, none⟩ = some (.slice a L acap) ∧ W.cell? ⟨w2.heap.size, 0, none⟩ = some (.slice xa L xc) ∧ w.heap.size < W.heap.size ∧ w2.heap.size < W.heap.size ∧ PfV W (.slice a L acap) f ∧ LO (fun k => w1.heap.size + 3 ≤ k) W (.slice xa L xc) f xs ∧ Ro W 1 (.slice wa K wc) K (flt enN H) ∧ Below w.heap.size w W) := fun W hW => by
    have h2 := box1 w2 (.slice xa L xc) 24
    have h3 := bl_past h2 hW
    have h4 := bl_past (unhide HB2) h3
    have hbx := heap_alloc_new w2 (.cells #[.slice xa L xc] 24)
    obtain ⟨c, -, z⟩ := blk_cells ((hW.block _ (Array.getElem?_eq_some_iff.1 hbx).1).trans hbx)
    obtain ⟨c', -, z'⟩ := blk_cells ((h4.block _ (Array.getElem?_eq_some_iff.1 (unhide HK1)).1).trans (unhide HK1))
    have hw := bl_past (unhide HB1) h4
    have ho := (unhide HO1).fr (Fr.of_below (S := fun _ => False) h4) (fun _ _ e => e)
    rw [unhide hK] at ho
    exact ⟨c' 0, c 0, z', z, (unhide HA).below hw (Nat.le_refl _), (unhide HO2).below staysL h3, ho, hw⟩
  have HEX : Hid (∀ W, Below (w2.alloc (.cells #[.slice xa L xc] 24)).heap.size (w2.alloc (.cells #[.slice xa L xc] 24)) W → Calls Try.prog 9 #[.agg #[.slice xa L xc], .int .i64 least] W fun e w' => ∃ va vc, e = .returned (.slice va K vc) ∧ Ro w' 1 (.slice va K vc) K (flt enN H) ∧ Below W.heap.size W w' ∧ ∀ k, (Value.slice va K vc).ownBlock = some k → W.heap.size ≤ k) := fun W hW => by
    refine (hot_any (unhide HENV W hW).2.2.2.2.2.1.lpf (unhide HN0) least).mono fun e w' hq => ?_
    obtain ⟨v, he, h1, h2, h3⟩ := hq
    rw [unhide hH] at h1
    rw [unhide hK] at h1
    obtain ⟨va, vc, ev, -, -⟩ := h1.shape
    subst ev
    exact ⟨va, vc, he, h1, h2, h3⟩
  have HSM : Hid (∀ (W : World) (v : Value), Below (w2.alloc (.cells #[.slice xa L xc] 24)).heap.size (w2.alloc (.cells #[.slice xa L xc] 24)) W → Ro W 1 v K (flt enN H) → Calls Try.prog 10 #[v, .slice wa K wc] W fun e w' => e = .returned (.bool true) ∧ Below W.heap.size W w') := fun W v hW hv => by
    have hx := (unhide HENV W hW).2.2.2.2.2.2.1
    rw [← unhide hK] at hv hx
    have := smN_any (Rx.of_ro hv) (Rx.of_ro hx) (by rw [unhide hK]; omega)
    rw [Dc_true rfl] at this
    rw [← unhide hK]
    exact this
  have HKP : Hid (∀ W, Below (w2.alloc (.cells #[.slice xa L xc] 24)).heap.size (w2.alloc (.cells #[.slice xa L xc] 24)) W → Calls Try.prog 11 #[.agg #[.slice xa L xc], .agg #[.slice a L acap]] W fun e w' => e = .returned (.bool true) ∧ Below W.heap.size W w') := fun W hW => keptP_any (unhide HENV W hW).2.2.2.2.2.1 (unhide HENV W hW).2.2.2.2.1
  obtain ⟨Wx, hWx⟩ : ∃ W, Hid (w2.alloc (.cells #[.slice xa L xc] 24) = W) := ⟨_, hide rfl⟩
  have hW2 : w2.heap.size < Wx.heap.size := by rw [← unhide hWx]; simp
  rw [unhide hWx] at HENV HEX HSM HKP
  have HE0' : Hid (Calls Try.prog 9 #[.agg #[.slice xa L xc], .int .i64 least] (w2.alloc (.cells #[.slice xa L xc] 24)) fun e w' => ∃ va vc, e = .returned (.slice va K vc) ∧ Ro w' 1 (.slice va K vc) K (flt enN H) ∧ Below Wx.heap.size Wx w' ∧ ∀ k, (Value.slice va K vc).ownBlock = some k → Wx.heap.size ≤ k) := by
    have := unhide HEX Wx (Below.refl _ _)
    rw [unhide hWx]
    exact this
  clear HO1 HO2 HB1 HB2 HK1 HA
  go_wp2_with fail
  refine (unhide HE0').mono ?_
  rintro e w3 ⟨aa, ac, rfl, O3, b3, g3⟩
  have HO3 := hide (And.intro O3 g3)
  have HB3 := hide b3
  obtain ⟨q0, q1, z0, z1, -⟩ := unhide HENV w3 b3
  clear HE0' O3 b3 g3
  go_wp2_with fail
  refine (unhide HEX w3 (unhide HB3)).mono ?_
  rintro e w4 ⟨ba, bc, rfl, O4, b4, g4⟩
  have HO4 := hide (And.intro O4 g4)
  have HB34 := hide b4
  have HB4 := hide (bl_past (unhide HB3) b4)
  have HRA4 := hide ((unhide HO3).1.fr (Fr.of_below (S := fun _ => False) b4) (fun _ _ e => e))
  clear O4 b4 q0 q1 z0 z1 g4
  go_wp2_with fail
  refine (unhide HSM _ _ (unhide HB4) (unhide HRA4)).mono ?_
  rintro e w5 ⟨rfl, b5⟩
  have HB45 := hide b5
  have HB5 := hide (bl_past (unhide HB4) b5)
  have HRB5 := hide ((unhide HO4).1.fr (Fr.of_below (S := fun _ => False) b5) (fun _ _ e => e))
  clear b5
  go_wp2_with fail
  refine (unhide HSM _ _ (unhide HB5) (unhide HRB5)).mono ?_
  rintro e w6 ⟨rfl, b6⟩
  have HB46 := hide (bl_past (unhide HB45) b6)
  have HB6 := hide (bl_past (unhide HB5) b6)
  clear b6
  obtain ⟨q0, q1, z0, z1, -⟩ := unhide HENV w6 (unhide HB6)
  go_wp2_with fail
  refine (unhide HKP w6 (unhide HB6)).mono ?_
  rintro e w7 ⟨rfl, b7⟩
  have HB47 := hide (bl_past (unhide HB46) b7)
  have HB7 := hide (bl_past (unhide HB6) b7)
  clear b7 q0 q1 z0 z1
  obtain ⟨q0, q1, z0, z1, -⟩ := unhide HENV w7 (unhide HB7)
  have HAP : Hid (Calls Try.prog 12 #[.slice (some ⟨w7.heap.size, 0, none⟩) 2 2] (w7.alloc (.cells #[.slice aa K ac, .slice ba K bc] 25)) fun e w' => e = .returned (.bool true) ∧ Below Wx.heap.size Wx w') := by
    have b37 := bl_past (unhide HB34) (unhide HB47)
    have m3 := (unhide HO3).1.fr (Fr.of_below (S := fun _ => False) b37) (fun _ _ e => e)
    have m4 := (unhide HO4).1.fr (Fr.of_below (S := fun _ => False) (unhide HB47)) (fun _ _ e => e)
    have l3 := (unhide HO3).1.lt
    have hs3 := (unhide HB3).size
    have hs7 := (unhide HB7).size
    rw [← unhide hK] at m3 m4
    have := apart2 (B := Wx.heap.size) (C := w3.heap.size) m3 m4 (fun k h => ⟨(unhide HO3).2 k (by rw [← unhide hK]; exact h), l3 k (by rw [← unhide hK]; exact h)⟩) (fun k h => (unhide HO4).2 k (by rw [← unhide hK]; exact h)) hs3 (by rw [unhide hK]; exact hKN) (by rw [unhide hK]; exact hKN) hs7
    rw [unhide hK] at this
    exact this.mono fun e w' ⟨h1, h2⟩ => ⟨h1, (unhide HB7).trans (h2.below hs7 (fun k hk e => by omega))⟩
  go_wp2_with fail
  refine (unhide HAP).mono ?_
  rintro e w9 ⟨rfl, b9⟩
  have HB9 := hide b9
  clear q0 q1 z0 z1
  obtain ⟨q0, q1, z0, z1, -⟩ := unhide HENV w9 b9
  clear b9 HAP
  go_wp2_with fail
  refine (unhide HEX w9 (unhide HB9)).mono ?_
  rintro e w10 ⟨da, dc, rfl, O10, b10, -⟩
  have HB10 := hide (bl_past (unhide HB9) b10)
  have HR10 := hide O10
  clear O10 b10 q0 q1 z0 z1
  go_wp2_with fail
  refine (unhide HSM w10 _ (unhide HB10) (unhide HR10)).mono ?_
  rintro e w11 ⟨rfl, b11⟩
  have HF := hide (unhide HENV w11 (bl_past (unhide HB10) b11)).2.2.2.2.2.2.2
  clear b11
  go_wp2_with fail
  go_ret
  exact ⟨rfl, unhide HF⟩
end Go.Proofs.Ytaldacjeeccbhaa
