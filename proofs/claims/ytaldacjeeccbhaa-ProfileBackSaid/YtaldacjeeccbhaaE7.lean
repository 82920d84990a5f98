/-
  ProfileEncode's law.
-/
import Derived.Test.YtaldacjeeccbhaaE6
namespace Go.Proofs.Ytaldacjeeccbhaa
open Go.RowKit
set_option linter.unusedVariables false
set_option linter.unusedSimpArgs false
theorem apart3 (w : World) (base : Nat) (v0 v1 v2 : Value) (x0 x1 x2 : List Int) (h0 : w.ownsRow base 5 1 v0 x0.length (x0.map By)) (h1 : w.ownsRow base 5 1 v1 x1.length (x1.map By)) (h2 : w.ownsRow base 5 1 v2 x2.length (x2.map By))
    (a01 : ∀ b, v0.ownBlock = some b → v1.ownBlock ≠ some b) (a02 : ∀ b, v0.ownBlock = some b → v2.ownBlock ≠ some b) (a12 : ∀ b, v1.ownBlock = some b → v2.ownBlock ≠ some b) (hb : base ≤ w.heap.size) (l0 : x0.length ≤ 11000000) (l1 : x1.length ≤ 11000000) (l2 : x2.length ≤ 11000000) :
    Calls Try.prog 17 #[.slice (some ⟨w.heap.size, 0, none⟩) 3 3] (w.alloc (.cells #[v0, v1, v2] 33)) fun e w' => e = .returned (.bool true) ∧ Fr (fun b => base ≤ b) (w.alloc (.cells #[v0, v1, v2] 33)) w' := by
  have hlt : ∀ j b, j < [v0, v1, v2].length → ([v0, v1, v2].getD j (.slice none 0 0)).ownBlock = some b → base ≤ b ∧ b < w.heap.size := by
    intro j b hj e
    have : j = 0 ∨ j = 1 ∨ j = 2 := by simp at hj; omega
    rcases this with rfl | rfl | rfl
    · exact h0.lt b e
    · exact h1.lt b e
    · exact h2.lt b e
  refine (apart_walk (.slice (some ⟨w.heap.size, 0, none⟩) 3 3) [v0, v1, v2] (fun j => if j = 0 then x0.length else if j = 1 then x1.length else x2.length) base (w.alloc (.cells #[v0, v1, v2] 33)) ⟨some ⟨w.heap.size, 0, none⟩, 3, rfl, fun i hi => ?_⟩ ⟨fun j => if j = 0 then x0 else if j = 1 then x1 else x2, ⟨fun k hk => ?_, fun k k' b hk hk' hne e => ?_, Fr.refl _ _⟩, fun k => ?_, fun k hk => by omega, fun j hj => by omega⟩ (by simp) (fun k => ?_) (by simp; omega) (fun j b hj e => ?_)).mono ?_
  · refine ⟨w.heap.size, 0, rfl, by simp, ?_, fun k hk e => ?_⟩
    · have : i = 0 ∨ i = 1 ∨ i = 2 := by simp at hi; omega
      rcases this with rfl | rfl | rfl <;> simp
    · have := (hlt k _ hk e).2
      omega
  · have : k = 0 ∨ k = 1 ∨ k = 2 := by simp at hk; omega
    rcases this with rfl | rfl | rfl
    · exact h0.alloc _
    · exact h1.alloc _
    · exact h2.alloc _
  · have c1 : k = 0 ∨ k = 1 ∨ k = 2 := by simp at hk; omega
    have c2 : k' = 0 ∨ k' = 1 ∨ k' = 2 := by simp at hk'; omega
    rcases c1 with rfl | rfl | rfl <;> rcases c2 with rfl | rfl | rfl
    · exact absurd rfl hne
    · exact a01 b e
    · exact a02 b e
    · exact fun q => a01 b q e
    · exact absurd rfl hne
    · exact a12 b e
    · exact fun q => a02 b q e
    · exact fun q => a12 b q e
    · exact absurd rfl hne
  · show (if k = 0 then x0 else if k = 1 then x1 else x2).length = if k = 0 then x0.length else if k = 1 then x1.length else x2.length
    split
    · rfl
    · split <;> rfl
  · show (if k = 0 then x0.length else if k = 1 then x1.length else x2.length) ≤ _
    split
    · omega
    · split <;> omega
  · have := (hlt j b hj e).2
    simp; omega
  · rintro e w' ⟨he, hf⟩
    exact ⟨he, hf.mono (fun b _ ⟨j, hj, q⟩ => (hlt j b hj q).1)⟩

theorem box4' (w : World) (cs : Array Value) (t1 : TypeId) : Below w.heap.size w (w.alloc (.cells cs t1)) := (Below.refl _ w).alloc (Nat.le_refl _) _
noncomputable def bysP (f : List (List Sp)) : List Int := if Dc (ckE f = 0) then encP f else []
theorem bysP_len (f : List (List Sp)) : (bysP f).length ≤ 11000000 := by
  unfold bysP
  by_cases h : ckE f = 0
  · rw [Dc_true h]
    obtain ⟨l1, l2, l3⟩ := ck0 h
    have h1 := encL_all f l2
    have h2 := uform_le f.length
    simp only [↓reduceIte, encP, List.length_append, sgn4, List.length_cons, List.length_nil]
    omega
  · rw [Dc_false h]; simp
/-- What Encode answers, in one word. -/
def EnU (w : World) (f : List (List Sp)) (e : Ending) (w' : World) : Prop :=
  ∃ v, e = .returned (.tuple #[v, .int .i64 (ckE f)]) ∧ w'.ownsRow w.heap.size 5 1 v (bysP f).length ((bysP f).map By) ∧ Below w.heap.size w w'
theorem EnQ.u {w : World} {f : List (List Sp)} {e : Ending} {w' : World} (h : EnQ w f e w') : EnU w f e w' := by
  rcases h with ⟨h1, h2, h3⟩ | ⟨h1, v, h2, h3, h4⟩
  · refine ⟨_, h2, ?_, h3⟩
    unfold bysP
    rw [Dc_false h1]
    simpa using World.ownsRow_nil w' w.heap.size 5 1
  · refine ⟨v, by rw [h1]; exact h2, ?_, h4⟩
    unfold bysP
    rw [Dc_true h1]
    exact h3
set_option maxRecDepth 100000 in
set_option maxHeartbeats 400000 in
theorem num_any (w : World) (x : Int) : Calls Try.prog 15 #[.int .i64 x] w fun e w' => e = .returned (.int .i64 x) ∧ w' = w := by
  go_enter Try.func15, Try.ntmps15
  go_wp2_with fail
  go_ret
  exact ⟨rfl, rfl⟩
set_option maxRecDepth 100000 in
set_option maxHeartbeats 6400000 in
theorem encodeLaw {w : World} {av : Value} {f : List (List Sp)} (ha : PfV w av f) (hN : f.length ≤ 5864062014634) (hM : ∀ l ∈ f, l.length ≤ 5864062014634) (hK : OkF f) :
    Calls Try.prog 4 #[.agg #[av]] w fun e w' => e = .returned (.bool true) ∧ Below w.heap.size w w' := by
  obtain ⟨a, acap, rfl, ha1, ha2⟩ := ha.shape
  have HA := hide ha
  obtain ⟨L, hL⟩ : ∃ L, Hid (f.length = L) := ⟨_, hide rfl⟩
  have HB0 := hide (box1 w (.slice a f.length acap) 24)
  have HK0 := hide (heap_alloc_new w (.cells #[.slice a f.length acap] 24))
  have HR := hide (refEncode_any (ha.below (box1 w (.slice a f.length acap) 24) (Nat.le_refl _)) hK)
  have HNM := hide (And.intro hN hM)
  have HOK := hide hK
  rw [unhide hL] at HA HB0 HK0 HR ⊢
  obtain ⟨E, hE⟩ : ∃ E, Hid (ckE f = E) := ⟨_, hide rfl⟩
  obtain ⟨B, hB⟩ : ∃ B, Hid (bysP f = B) := ⟨_, hide rfl⟩
  have hBl : B.length ≤ 11000000 := by rw [← unhide hB]; exact bysP_len f
  have dE : (E != E) = false := by simp
  clear ha ha1 ha2 hN hM hK
  go_enter Try.func4, Try.ntmps4
  go_wp2_with fail
  refine (unhide HR).mono ?_
  intro e w1 hq
  obtain ⟨wv, he, O1, b1⟩ := hq.u
  rw [unhide hE] at he
  subst he
  rw [unhide hB] at O1
  obtain ⟨wa, wc, ew⟩ := row_shape O1
  subst ew
  have HO1 := hide O1
  have HB1 := hide (bl_past (unhide HB0) b1)
  have hk1 := (b1.block _ (Array.getElem?_eq_some_iff.1 (unhide HK0)).1).trans (unhide HK0)
  have HK1 := hide hk1
  obtain ⟨c1, -, z1⟩ := blk_cells hk1
  have q1 := c1 0
  simp at q1
  have HL := hide (lentP_any ((unhide HA).below (unhide HB1) (Nat.le_refl _)) (unhide HNM).1 (unhide HNM).2)
  clear hq O1 b1 HR HB0 HK0 c1 hk1
  go_wp2_with fail
  refine (unhide HL).mono ?_
  rintro e w2 ⟨xv, xs, rfl, O2, b2⟩
  obtain ⟨xa, xc, ex, hx1, hx2⟩ := O2.row.shape
  rw [unhide hL] at ex hx1
  subst ex
  have HO2 := hide O2
  have HB2 := hide b2
  clear HL O2 b2 q1 z1
  -- behind x's box
  have HENV : Hid (∀ W, Below (w2.alloc (.cells #[.slice xa L xc] 24)).heap.size (w2.alloc (.cells #[.slice xa L xc] 24)) W → W.cell? ⟨w.heap.size, 0, none⟩ = some (.slice a L acap) ∧ W.cell? ⟨w2.heap.size, 0, none⟩ = some (.slice xa L xc) ∧ w.heap.size < W.heap.size ∧ w2.heap.size < W.heap.size ∧ PfV W (.slice a L acap) f ∧ LO (fun k => w1.heap.size + 3 ≤ k) W (.slice xa L xc) f xs ∧ Rd W (.slice wa B.length wc) B ∧ Below w.heap.size w W) := fun W hW => by
    have h2 := box1 w2 (.slice xa L xc) 24
    have h3 := bl_past h2 hW
    have h4 := bl_past (unhide HB2) h3
    have hbx := heap_alloc_new w2 (.cells #[.slice xa L xc] 24)
    obtain ⟨c, -, z⟩ := blk_cells ((hW.block _ (Array.getElem?_eq_some_iff.1 hbx).1).trans hbx)
    obtain ⟨c', -, z'⟩ := blk_cells ((h4.block _ (Array.getElem?_eq_some_iff.1 (unhide HK1)).1).trans (unhide HK1))
    have hw := bl_past (unhide HB1) h4
    exact ⟨c' 0, c 0, z', z, (unhide HA).below hw (Nat.le_refl _), (unhide HO2).below staysL h3, Rd.of_own (own_on (unhide HO1) h4), hw⟩
  have HEX : Hid (∀ W, Below (w2.alloc (.cells #[.slice xa L xc] 24)).heap.size (w2.alloc (.cells #[.slice xa L xc] 24)) W → Calls Try.prog 14 #[.agg #[.slice xa L xc]] W fun e w' => ∃ va vc, e = .returned (.tuple #[.slice va B.length vc, .int .i64 E]) ∧ w'.ownsRow W.heap.size 5 1 (.slice va B.length vc) B.length (B.map By) ∧ Below W.heap.size W w') := fun W hW => by
    refine (encode_any (unhide HENV W hW).2.2.2.2.2.1.lpf (unhide HOK)).mono fun e w' hq => ?_
    obtain ⟨v, he, hO, hb⟩ := hq.u
    rw [unhide hB] at hO
    rw [unhide hE] at he
    obtain ⟨va, vc, ev⟩ := row_shape hO
    subst ev
    exact ⟨va, vc, he, hO, hb⟩
  have HSM : Hid (∀ (W : World) (v : Value), Below (w2.alloc (.cells #[.slice xa L xc] 24)).heap.size (w2.alloc (.cells #[.slice xa L xc] 24)) W → Rd W v B → Calls Try.prog 16 #[v, .slice wa B.length wc] W fun e w' => e = .returned (.bool true) ∧ Below W.heap.size W w') := fun W v hW hv => (same_any v _ B W hv (unhide HENV W hW).2.2.2.2.2.2.1).mono fun e w' ⟨h1, k, h2⟩ => ⟨h1, by rw [h2]; exact bl_drewN W k⟩
  have HKP : Hid (∀ W, Below (w2.alloc (.cells #[.slice xa L xc] 24)).heap.size (w2.alloc (.cells #[.slice xa L xc] 24)) W → Calls Try.prog 11 #[.agg #[.slice xa L xc], .agg #[.slice a L acap]] W fun e w' => e = .returned (.bool true) ∧ Below W.heap.size W w') := fun W hW => keptP_any (unhide HENV W hW).2.2.2.2.2.1 (unhide HENV W hW).2.2.2.2.1
  have HNU := hide num_any
  obtain ⟨Wx, hWx⟩ : ∃ W, Hid (w2.alloc (.cells #[.slice xa L xc] 24) = W) := ⟨_, hide rfl⟩
  have HE0 := hide (unhide HEX _ (Below.refl _ _))
  have hW2 : w2.heap.size < Wx.heap.size := by rw [← unhide hWx]; simp
  rw [unhide hWx] at HENV HEX HSM HKP
  have HE0' : Hid (Calls Try.prog 14 #[.agg #[.slice xa L xc]] (w2.alloc (.cells #[.slice xa L xc] 24)) fun e w' => ∃ va vc, e = .returned (.tuple #[.slice va B.length vc, .int .i64 E]) ∧ w'.ownsRow Wx.heap.size 5 1 (.slice va B.length vc) B.length (B.map By) ∧ Below Wx.heap.size Wx w') := by
    have := unhide HEX Wx (Below.refl _ _)
    rw [unhide hWx]
    exact this
  clear HE0 HO1 HO2 HB1 HB2 HK1 HA
  go_wp2_with fail
  refine (unhide HE0').mono ?_
  rintro e w3 ⟨aa, ac, rfl, O3, b3⟩
  have HO3 := hide O3
  have HB3 := hide b3
  obtain ⟨q0, q1, z0, z1, -⟩ := unhide HENV w3 b3
  clear HE0' O3 b3
  go_wp2_with fail
  refine (unhide HEX w3 (unhide HB3)).mono ?_
  rintro e w4 ⟨ba, bc, rfl, O4, b4⟩
  have HO4 := hide O4
  have HB34 := hide b4
  have HB4 := hide (bl_past (unhide HB3) b4)
  have HRA4 := hide (Rd.of_own (own_on (unhide HO3) b4))
  have HRB4 := hide (Rd.of_own O4)
  clear O4 b4 q0 q1 z0 z1
  go_wp2_with fail
  refine (unhide HNU w4 E).mono ?_
  rintro e w' ⟨rfl, e4⟩
  have e5 := e4.symm
  subst e5
  go_wp2_with fail
  refine (unhide HNU w4 E).mono ?_
  rintro e w' ⟨rfl, e4⟩
  have e5 := e4.symm
  subst e5
  go_wp2_with fail
  refine (unhide HSM _ _ (unhide HB4) (unhide HRA4)).mono ?_
  rintro e w5 ⟨rfl, b5⟩
  have HB45 := hide b5
  have HB5 := hide (bl_past (unhide HB4) b5)
  clear b5
  go_wp2_with fail
  refine (unhide HSM _ _ (unhide HB5) ((unhide HRB4).below (unhide HB45))).mono ?_
  rintro e w6 ⟨rfl, b6⟩
  have HB46 := hide (bl_past (unhide HB45) b6)
  have HB6 := hide (bl_past (unhide HB5) b6)
  clear b6
  obtain ⟨q0, q1, z0, z1, -⟩ := unhide HENV w6 (unhide HB6)
  go_wp2_with fail
  refine (unhide HKP w6 (unhide HB6)).mono ?_
  rintro e w7 ⟨rfl, b7⟩
  have HB47 := hide (bl_past (unhide HB46) b7)
  have HB7 := hide (bl_past (unhide HB6) b7)
  clear b7 q0 q1 z0 z1
  obtain ⟨q0, q1, z0, z1, -⟩ := unhide HENV w7 (unhide HB7)
  go_wp2_with fail
  refine (unhide HEX w7 (unhide HB7)).mono ?_
  rintro e w8 ⟨ca, cc, rfl, O8, b8⟩
  have HB8 := hide (bl_past (unhide HB7) b8)
  have HAP : Hid (Calls Try.prog 17 #[.slice (some ⟨w8.heap.size, 0, none⟩) 3 3] (w8.alloc (.cells #[.slice aa B.length ac, .slice ba B.length bc, .slice ca B.length cc] 33)) fun e w' => e = .returned (.bool true) ∧ Below Wx.heap.size Wx w') := by
    have b48 := bl_past (unhide HB47) b8
    have b38 := bl_past (unhide HB34) b48
    have m3 := own_on (unhide HO3) b38
    have m4 := own_on (unhide HO4) b48
    have s3 := (unhide HB3).size
    have s34 := (unhide HB34).size
    have s47 := (unhide HB47).size
    have up : ∀ {base : Nat} {v : Value} {n : Nat} {xs : List Value}, Wx.heap.size ≤ base → w8.ownsRow base 5 1 v n xs → w8.ownsRow Wx.heap.size 5 1 v n xs := fun {base v n xs} hb h => by
      obtain ⟨h1, h2⟩ := h
      refine ⟨h1, ?_⟩
      rcases h2 with h2 | ⟨g, cap, cur, q1, q2, q3⟩
      · exact .inl h2
      · exact .inr ⟨g, cap, cur, q1, Nat.le_trans hb q2, q3⟩
    have l3 : ∀ b, (Value.slice aa B.length ac).ownBlock = some b → b < w3.heap.size := fun b hb => ((unhide HO3).lt b hb).2
    have l4 : ∀ b, (Value.slice ba B.length bc).ownBlock = some b → w3.heap.size ≤ b ∧ b < w4.heap.size := fun b hb => (unhide HO4).lt b hb
    have l8 : ∀ b, (Value.slice ca B.length cc).ownBlock = some b → w7.heap.size ≤ b := fun b hb => (O8.lt b hb).1
    have := apart3 w8 Wx.heap.size _ _ _ B B B (up (Nat.le_refl _) m3) (up s3 m4) (up (by omega) O8) (fun b h1 h2 => by have := l3 b h1; have := (l4 b h2).1; omega) (fun b h1 h2 => by have := l3 b h1; have := l8 b h2; omega) (fun b h1 h2 => by have := (l4 b h1).2; have := l8 b h2; omega) (unhide HB8).size hBl hBl hBl
    refine this.mono fun e w' ⟨h1, h2⟩ => ⟨h1, ?_⟩
    have h5 := box4' w8 #[.slice aa B.length ac, .slice ba B.length bc, .slice ca B.length cc] 33
    have h6 := bl_past (unhide HB8) h5
    exact h6.trans (h2.below h6.size (fun k hk e => by omega))
  clear O8 b8 q0 q1 z0 z1
  go_wp2_with fail
  refine (unhide HAP).mono ?_
  rintro e w9 ⟨rfl, b9⟩
  have HB9 := hide b9
  obtain ⟨q0, q1, z0, z1, -⟩ := unhide HENV w9 b9
  clear b9 HAP
  go_wp2_with fail
  refine (unhide HEX w9 (unhide HB9)).mono ?_
  rintro e w10 ⟨da, dc, rfl, O10, b10⟩
  have HB10 := hide (bl_past (unhide HB9) b10)
  have HR10 := hide (Rd.of_own O10)
  clear O10 b10 q0 q1 z0 z1
  go_wp2_with fail
  refine (unhide HSM w10 _ (unhide HB10) (unhide HR10)).mono ?_
  rintro e w11 ⟨rfl, b11⟩
  have HF := hide (unhide HENV w11 (bl_past (unhide HB10) b11)).2.2.2.2.2.2.2
  clear b11
  go_wp2_with fail
  go_ret
  exact ⟨rfl, unhide HF⟩
end Go.Proofs.Ytaldacjeeccbhaa
