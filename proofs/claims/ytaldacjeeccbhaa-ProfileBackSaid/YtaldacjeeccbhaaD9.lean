/-
  ProfileBack's law.
-/
import Derived.Test.YtaldacjeeccbhaaD8
namespace Go.Proofs.Ytaldacjeeccbhaa
open Go.RowKit
set_option linter.unusedVariables false
set_option linter.unusedSimpArgs false
theorem bok_app {a b : List Int} (h : BOk a) (k : BOk b) : BOk (a ++ b) := fun x hx => by
  rcases List.mem_append.1 hx with hx | hx
  · exact h x hx
  · exact k x hx
theorem bok_num (x : Nat) (h : x < 2 ^ 64) : BOk (Wm.uform 9 x) := uform_bok 9 x (by omega)
theorem bok_fd {x : Int} {sg : Bool} (h0 : -9223372036854775808 ≤ x) (h1 : x ≤ 9223372036854775807) : BOk (fdE x sg) := by
  unfold fdE
  split
  · intro y hy; simp at hy
  · split
    · have := foldI_bd x h0 h1
      exact bok_num _ (by omega)
    · exact bok_num _ (by omega)
theorem bok_spot {s : Sp} (hok : okS s) : BOk (encS s) := by
  obtain ⟨c, a, b, k⟩ := s
  unfold okS at hok
  dsimp only at hok
  have hf := (fl_bits c a b k).2
  show BOk ([flP c a b k 4] ++ fdE c false ++ fdE a false ++ fdE b false ++ fdE k true)
  refine bok_app (bok_app (bok_app (bok_app ?_ (bok_fd (by omega) (by omega))) (bok_fd (by omega) (by omega))) (bok_fd (by omega) (by omega))) (bok_fd (by omega) (by omega))
  intro x hx
  rw [List.mem_singleton] at hx
  subst hx
  omega
theorem bok_flat {T : Type} {g : T → List Int} : ∀ {l : List T}, (∀ x ∈ l, BOk (g x)) → BOk (l.flatMap g)
  | [], _ => by intro x hx; simp at hx
  | y :: r, h => by
    rw [List.flatMap_cons]
    exact bok_app (h y (by simp)) (bok_flat (fun x hx => h x (by simp [hx])))
theorem bok_enc {f : List (List Sp)} (hK : OkF f) (hc : ckE f = 0) : BOk (encP f) := by
  obtain ⟨h1, h2, h3⟩ := ck0 hc
  unfold encP
  refine bok_app (bok_app (by intro x hx; simp [sgn4] at hx; omega) (bok_num _ (by omega))) (bok_flat (fun l hl => ?_))
  have := h2 l hl
  exact bok_app (bok_num _ (by omega)) (bok_flat (fun s hs => bok_spot (hK l hl s hs)))
theorem encP_len {f : List (List Sp)} (h : ckE f = 0) : (encP f).length ≤ 11000000 := by
  obtain ⟨l1, l2, l3⟩ := ck0 h
  have h1 := encL_all f l2
  have h2 := uform_le f.length
  simp only [encP, List.length_append, sgn4, List.length_cons, List.length_nil]
  omega
theorem Rd.of_ro {w : World} {v : Value} {bs : List Int} (h : Ro w 1 v bs.length (bs.map By)) : Go.Proofs.Ytaldacjeeccbhaa.Rd w v bs := by
  by_cases h0 : bs.length = 0
  · rcases h.2 with ⟨e, _⟩ | ⟨g, off, cap, cur, t, e, hh, h1, h2, h3, h4⟩
    · exact .inl ⟨e, List.eq_nil_of_length_eq_zero h0⟩
    · exact .inr ⟨g, off, cap, e, h1, h2, (Array.getElem?_eq_some_iff.1 hh).1, fun i hi => by omega⟩
  · obtain ⟨g, off, cap, e, h1, h2, h3, h4⟩ := h.full (by omega)
    refine .inr ⟨g, off, cap, e, h1, h2, h3, fun i hi => ?_⟩
    rw [h4 i (by omega)]
    simp [By, hi, List.getD]
theorem Ro.trim {w : World} {sz : Nat} {g off n cap : Nat} {xs : List Value} (h : Ro w sz (.slice (some ⟨g, off, none⟩) n cap) n xs) : Ro w sz (.slice (some ⟨g, off, none⟩) n n) n xs := by
  obtain ⟨h1, h2⟩ := h
  refine ⟨h1, ?_⟩
  rcases h2 with ⟨e, _⟩ | ⟨g', off', cap', cur, t, e, hh, h3, h4, h5, h6⟩
  · cases e
  · cases e
    exact .inr ⟨g, off, n, cur, t, rfl, hh, Nat.le_refl _, by omega, Nat.le_trans (Nat.add_le_add_left (Nat.mul_le_mul_right _ h3) _) h5, h6⟩
theorem infB : (Try.prog.info? 5).map (fun i => (i.zero, i.size, i.bytes)) = some (some (.int .u8 0), 1, 1) := by kernel_rfl
set_option maxRecDepth 100000 in
set_option maxHeartbeats 6400000 in
theorem backLaw {w : World} {av : Value} {f : List (List Sp)} (ha : PfV w av f) (hK : OkF f) (cut : Int) :
    Calls Try.prog 6 #[.agg #[av], .int .i64 cut] w fun e w' => e = .returned (.bool true) ∧ Below w.heap.size w w' := by
  obtain ⟨a, acap, rfl, ha1, ha2⟩ := ha.shape
  have hb0 := bl_one w (.cells #[.slice a f.length acap] 24)
  have hbx := heap_alloc_new w (.cells #[.slice a f.length acap] 24)
  obtain ⟨w0, hw0⟩ : ∃ w0, Hid (w.alloc (.cells #[.slice a f.length acap] 24) = w0) := ⟨_, hide rfl⟩
  rw [unhide hw0] at hb0 hbx
  have HPF : Hid (∀ W, Below w0.heap.size w0 W → PfV W (.slice a f.length acap) f ∧ W.cell? ⟨w.heap.size, 0, none⟩ = some (.slice a f.length acap) ∧ w.heap.size < W.heap.size ∧ Below w.heap.size w W) := fun W hW => by
    obtain ⟨c1, c2, c3⟩ := blk_cells ((hW.block w.heap.size (blk_cells hbx).2.2).trans hbx)
    exact ⟨ha.below (bl_past hb0 hW) (Nat.le_refl _), c1 0, c3, bl_past hb0 hW⟩
  have HEN := hide (encode_any (unhide HPF w0 (Below.refl _ _)).1 hK)
  have hw0' := unhide hw0
  obtain ⟨_, y0, yl, _⟩ := unhide HPF w0 (Below.refl _ _)
  have HK := hide hK
  clear ha hK hb0 hbx ha1 ha2
  obtain ⟨L, hL⟩ : ∃ L, Hid (f.length = L) := ⟨_, hide rfl⟩
  rw [unhide hL] at HPF HEN hw0' y0 hw0 ⊢
  go_enter Try.func6, Try.ntmps6
  go_wp2_with fail
  refine (unhide HEN).mono ?_
  rintro e w1 hE
  clear HEN hw0' y0 yl hw0
  rcases hE with ⟨hc, rfl, b1⟩ | ⟨hc, v1, rfl, ho1, b1⟩
  · have HFT := hide (fitsLaw_any (unhide HPF w1 b1).1)
    obtain ⟨_, y0, yl, _⟩ := unhide HPF w1 b1
    have hnf : ¬ fitP f := fun h => hc (fitP_ck.1 h)
    rw [Dc_false hnf] at HFT
    have HB1 := hide b1
    obtain ⟨cE, hcE⟩ : ∃ cE, Hid (ckE f = cE) := ⟨_, hide rfl⟩
    have hc2 := ckE_ne hc
    rw [unhide hcE] at hc2 ⊢
    clear b1 hc
    go_wp2_with fail
    refine (unhide HFT).mono ?_
    rintro e w2 ⟨rfl, b2⟩
    have HB2 := hide (unhide HPF w2 (bl_past (unhide HB1) b2)).2.2.2
    clear HFT b2
    rcases hc2 with rfl | rfl
    · go_wp2_with fail
      go_ret
      exact ⟨rfl, unhide HB2⟩
    · go_wp2_with fail
      go_ret
      exact ⟨rfl, unhide HB2⟩
  · have HFT := hide (fitsLaw_any (unhide HPF w1 b1).1)
    obtain ⟨_, y0, yl, _⟩ := unhide HPF w1 b1
    rw [Dc_true (fitP_ck.2 hc)] at HFT
    obtain ⟨k1, k2, k3⟩ := back (unhide HK) hc
    have HBO := hide (bok_enc (unhide HK) hc)
    have hbl := encP_len hc
    have hbl' : (encP f).length ≤ 11000000 := hbl
    have h4 : 4 ≤ (encP f).length := by simp [encP, sgn4]
    obtain ⟨F, hF⟩ : ∃ F, Hid (encP f = F) := ⟨_, hide rfl⟩
    rw [unhide hF] at k1 k2 k3 HBO hbl' h4 ho1
    have HK1 := hide k1
    have HK2 := hide k2
    have HK3 := hide k3
    have HB1 := hide b1
    have HRO : Hid (∀ W, Below w1.heap.size w1 W → Ro W 1 v1 F.length (F.map By)) := fun W hW => (Ro.of_own ho1).fr (Fr.of_below (S := fun _ => False) hW) (fun _ _ e => e)
    obtain ⟨gb, go, gc, ev, hg1, hg2, hg3, _⟩ := (unhide HRO w1 (Below.refl _ _)).full (by omega)
    subst ev
    have hgb0 := (ho1.lt gb rfl).1
    have hw0s := (unhide HPF w0 (Below.refl _ _)).2.2.1
    unfold maxLen at hg2
    obtain ⟨N, hN⟩ : ∃ N, Hid (F.length = N) := ⟨_, hide rfl⟩
    rw [unhide hN] at hg1 h4 hbl' HRO HK2 ⊢
    clear hc k1 k2 k3 ho1 b1 hbl HK
    go_wp2_with fail
    refine (unhide HFT).mono ?_
    rintro e w2 ⟨rfl, b2⟩
    have HB2 := hide b2
    have HD1 := hide (decode_any (w := w2) (v := .slice (some ⟨gb, go, none⟩) N gc) (bs := F) (Rd.of_ro (by rw [unhide hN]; exact unhide HRO w2 b2)) (unhide HBO) (by rw [unhide hN]; omega))
    rw [unhide HK1] at HD1
    clear HFT b2 y0 yl
    go_wp2_with fail
    refine (unhide HD1).mono ?_
    rintro e w3 ⟨b3, v3, vs3, rfl, hpo⟩
    obtain ⟨pa, pc, ep, _, _⟩ := hpo.row.shape
    subst ep
    have hb4 := bl_one w3 (.cells #[.slice pa f.length pc] 24)
    have hbx4 := heap_alloc_new w3 (.cells #[.slice pa f.length pc] 24)
    have HB13 := hide (bl_past (unhide HB2) b3)
    obtain ⟨w4, hw4⟩ : ∃ w4, Hid (w3.alloc (.cells #[.slice pa f.length pc] 24) = w4) := ⟨_, hide rfl⟩
    rw [unhide hw4] at hb4 hbx4
    have HB14 := hide (bl_past (unhide HB13) hb4)
    have HSM := hide (sameP_any (unhide HPF w4 (bl_past (unhide HB1) (unhide HB14))).1 (hpo.ppf.below hb4 (Nat.le_refl _)))
    rw [Dc_true rfl] at HSM
    obtain ⟨_, y0, yl, _⟩ := unhide HPF w4 (bl_past (unhide HB1) (unhide HB14))
    obtain ⟨x1, x2, x3⟩ := blk_cells hbx4
    have x0 := x1 0
    simp at x0
    have hw4' := unhide hw4
    rw [unhide hL] at HSM x0 hw4' hw4 ⊢
    clear HD1 b3 hpo hb4 hbx4 x1 x2
    go_wp2_with fail
    refine (unhide HSM).mono ?_
    rintro e w5 ⟨rfl, b5⟩
    have HB15 := hide (bl_past (unhide HB14) b5)
    have hN1 : (1 : Int) ≤ (N : Int) := by omega
    have HPI := hide (pick_any w5 cut (N : Int) hN1 (by omega))
    obtain ⟨p0, p1⟩ := pck_bd cut hN1
    obtain ⟨m, hm⟩ : ∃ m : Nat, Hid (pck cut (N : Int) = (m : Int)) := ⟨(pck cut (N : Int)).toNat, by unfold Hid; omega⟩
    rw [unhide hm] at HPI p0 p1
    have hmN : m < N := by omega
    clear HSM b5 y0 yl x0 x3 hw4' hw4
    go_wp2_with fail
    refine (unhide HPI).mono ?_
    rintro e w6 ⟨rfl, e6⟩
    subst e6
    have HRt : Hid (Go.Proofs.Ytaldacjeeccbhaa.Rd w6 (.slice (some ⟨gb, go, none⟩) m gc) (F.take m)) := by
      have q := (unhide HRO w6 (unhide HB15)).upto rfl (k := m) (by omega)
      rw [Nat.mul_one, ← List.map_take] at q
      have hl : (F.take m).length = m := by rw [List.length_take, unhide hN]; omega
      have := Rd.of_ro (bs := F.take m) (v := .slice (some ⟨gb, go, none⟩) m gc) (by rw [hl]; exact q)
      exact this
    have HD2 := hide (decode_any (unhide HRt) (fun x hx => unhide HBO x (List.mem_of_mem_take hx)) (by rw [List.length_take, unhide hN]; omega))
    rw [unhide HK2 m hmN] at HD2
    have m0 : (0 : Int) ≤ (m : Int) := by omega
    have m1 : (m : Int) ≤ (gc : Int) := by omega
    clear HPI HRt
    go_wp2_with fail
    refine (unhide HD2).mono ?_
    rintro e w7 ⟨b7, _, rfl⟩
    have HB17 := hide (bl_past (unhide HB15) (bl_past b7 (bl_one w7 (.cells #[.slice none 0 0] 24))))
    have HROW := hide (unhide HRO _ (unhide HB17)).trim
    obtain ⟨i0, hi0, hz0, hz1, hz2⟩ := info_parts infB
    have n0 : (0 : Int) ≤ (N : Int) := by omega
    have n1 : (N : Int) ≤ (gc : Int) := by omega
    clear HD2 b7
    go_wp2_with (first | (at_builtin; refine wpList_app rfl _ _ 33 rfl 5 i0 _ 1 1 Try.underlying33 hi0 hz0 hz1 hz2 rfl (by decide) _ N (F.map By) rfl ((unhide HROW).keep (fun g hg => Below.heap_alloc _ _ _ ((unhide HROW).lt g hg))) ⟨w7.heap.size + 1, 0, none⟩ 1 1 [.int .u8 0] rfl rfl (by simpa using new_cells (w7.alloc (.cells #[.slice none 0 0] 24)) #[.int .u8 0] 5) (by simp [Value.oneCell']) (by omega) (by unfold maxLen; omega) (by omega) ?_))
    intro v8 w8 hr hg hat
    have hb8 : Below w.heap.size w w8 := by
      have q := (unhide HPF _ (bl_past (unhide HB1) (unhide HB17))).2.2.2
      have fg : Fr (fun k => k = gb) (w7.alloc (.cells #[.slice none 0 0] 24)) w8 := ((Fr.refl _ _).alloc _).grown hg (fun k e => .inr (by cases e; rfl))
      exact q.trans (fg.below q.size (fun k hk e => by have e' : k = gb := e; omega))
    have HB8 := hide hb8
    have hro : Ro w8 1 v8 (F ++ [0]).length ((F ++ [0]).map By) := by
      rw [List.length_append, unhide hN, List.map_append]
      exact hr
    obtain ⟨va, vc, ev, _, _⟩ := hr.shape
    subst ev
    have HD3 := hide (decode_any (Rd.of_ro hro) (bok_app (unhide HBO) (by intro x hx; rw [List.mem_singleton] at hx; subst hx; omega)) (by rw [List.length_append, unhide hN]; simp; omega))
    rw [unhide HK3] at HD3
    clear hr hg hat hro hb8
    go_wp2_with fail
    refine (unhide HD3).mono ?_
    rintro e w9 ⟨b9, _, rfl⟩
    have HB9 := hide (bl_past (unhide HB8) (bl_past b9 (bl_one w9 (.cells #[.slice none 0 0] 24))))
    clear HD3 b9
    go_wp2_with fail
    go_ret
    exact ⟨rfl, unhide HB9⟩
end Go.Proofs.Ytaldacjeeccbhaa
