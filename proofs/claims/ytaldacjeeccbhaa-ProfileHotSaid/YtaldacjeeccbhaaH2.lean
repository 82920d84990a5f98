/-
  Hot's comparison.
-/
import Derived.Test.YtaldacjeeccbhaaH1
import Derived.Test.YtaldacjeeccbhaaSoF
namespace Go.Proofs.Ytaldacjeeccbhaa
open Go.RowKit
set_option linter.unusedVariables false
set_option linter.unusedSimpArgs false
theorem arr_split {α : Type} (a b : Array α) (h : a.size ≤ b.size) (hk : ∀ k, k < a.size → b[k]? = a[k]?) : b = a ++ b.extract a.size b.size := by
  refine Array.ext_getElem? (fun i => ?_)
  rw [Array.getElem?_append]
  by_cases q : i < a.size
  · rw [if_pos q]; exact hk i q
  · rw [if_neg q, Array.getElem?_extract, Nat.min_self]
    by_cases r : i < b.size
    · rw [if_pos (by omega), show a.size + (i - a.size) = i by omega]
    · rw [if_neg (by omega), Array.getElem?_eq_none (by omega)]
theorem grow_of {W w' : World} (h : Below W.heap.size W w') (hd : W.drawn ≤ w'.drawn) : ∃ q os', w' = Go.Sort.grow (W.drewN q) os' := by
  have hh := arr_split W.heap w'.heap h.size h.block
  refine ⟨w'.drawn - W.drawn, w'.heap.extract W.heap.size w'.heap.size, ?_⟩
  have h1 := h.os
  have h2 := h.tape
  have h3 := h.output
  have h4 : w'.drawn = W.drawn + (w'.drawn - W.drawn) := by omega
  unfold Go.Sort.grow World.drewN
  obtain ⟨heap', tape', drawn', os', out'⟩ := w'
  simp only at hh h1 h2 h3 h4 ⊢
  rw [← hh, ← h4, h1, h2, h3]
def cn0 (f : List (List Sp)) (n : Int) : Int := (atP f n 0).c
/-- What Hot compares two functions by. -/
def cfH (f : List (List Sp)) (x y : Int) : Int := orI (cpI (cn0 f y) (cn0 f x)) (cpI x y)
theorem fld0 (a b c d : Value) (W : World) : (Instr.field 55 (.agg #[a, b, c, d]) 0).run Try.prog W = .ok a W := by kernel_rfl
set_option maxRecDepth 100000 in
set_option maxHeartbeats 3200000 in
theorem hotC_any {W : World} {av : Value} {f : List (List Sp)} (hf : PfV W av f) (B : Nat) (hc : W.cell? ⟨B, 0, none⟩ = some av) (x y : Int) :
    Calls Try.prog 30 #[.int .i64 x, .int .i64 y, .pointer (some ⟨B, 0, none⟩)] W fun e w' => e = .returned (.int .i64 (cfH f x y)) ∧ Below W.heap.size W w' ∧ W.drawn ≤ w'.drawn := by
  obtain ⟨a, acap, rfl, ha1, ha2⟩ := hf.shape
  have hB : B < W.heap.size := World.block_lt_of_cell? _ _ hc
  obtain ⟨L, hL⟩ : ∃ L, Hid (f.length = L) := ⟨_, hide rfl⟩
  have HY := hide (fun V (hV : Below W.heap.size W V) => atD_any (hf.below hV (Nat.le_refl _)) y 0)
  have HX := hide (fun V (hV : Below W.heap.size W V) => atD_any (hf.below hV (Nat.le_refl _)) x 0)
  rw [unhide hL] at HX HY hc
  have HS : Hid (∀ V, Below W.heap.size W V → V.cell? ⟨B, 0, none⟩ = some (.slice a L acap) ∧ B < V.heap.size) := fun V hV => ⟨(hV.cell (p := ⟨B, 0, none⟩) hB).trans hc, Nat.lt_of_lt_of_le hB hV.size⟩
  unfold cfH cn0
  obtain ⟨xs, hxs⟩ : ∃ s, Hid (atP f x 0 = s) := ⟨_, hide rfl⟩
  obtain ⟨ys, hys⟩ : ∃ s, Hid (atP f y 0 = s) := ⟨_, hide rfl⟩
  rw [unhide hxs] at HX ⊢
  rw [unhide hys] at HY ⊢
  obtain ⟨x0, x1, x2, x3⟩ := xs
  obtain ⟨y0, y1, y2, y3⟩ := ys
  unfold spV at HX HY
  simp only at HX HY ⊢
  have hfl := fld0
  clear hf ha1 ha2 hc
  go_enter Try.func30, Try.ntmps30
  go_wp2_with fail
  refine wp_region_held_drew (S := (fun V => V.cell? ⟨B, 0, none⟩ = some (.slice a L acap) ∧ B < V.heap.size)) (by kernel_rfl) (unhide HS _ (bl_drew _)) (fun hHeld => ?_)
  clear hHeld
  refine wpAnyH_take (i := 0) (oi := _) (v := .agg #[.slice a L acap]) rfl (by kernel_rfl) (by kernel_rfl) (by kernel_rfl) (fun _ _ _ h => h) (Or.inl ⟨by rfl, (by intro w' hSw; obtain ⟨s0, s1⟩ := hSw; go_simp)⟩) (unhide HS _ (bl_drew _)) ?_
  go_simp
  refine wpAnyH_take (i := 1) (oi := _) (v := .int .i64 y) rfl (by kernel_rfl) (by kernel_rfl) (by kernel_rfl) (fun _ _ _ h => h) (Or.inl ⟨by rfl, (by intro w' hSw; obtain ⟨s0, s1⟩ := hSw; go_simp)⟩) (unhide HS _ (bl_drew _)) ?_
  go_simp
  refine wpAnyH_take (i := 4) (oi := _) (v := .agg #[.slice a L acap]) rfl (by kernel_rfl) (by kernel_rfl) (by kernel_rfl) (fun _ _ _ h => h) (Or.inl ⟨by rfl, (by intro w' hSw; obtain ⟨s0, s1⟩ := hSw; go_simp)⟩) (unhide HS _ (bl_drew _)) ?_
  go_simp
  refine wpAnyH_take (i := 5) (oi := _) (v := .int .i64 x) rfl (by kernel_rfl) (by kernel_rfl) (by kernel_rfl) (fun _ _ _ h => h) (Or.inl ⟨by rfl, (by intro w' hSw; obtain ⟨s0, s1⟩ := hSw; go_simp)⟩) (unhide HS _ (bl_drew _)) ?_
  go_simp
  refine wpAnyH_take (i := 9) (oi := _) (v := .int .i64 x) rfl (by kernel_rfl) (by kernel_rfl) (by kernel_rfl) (fun _ _ _ h => h) (Or.inl ⟨by rfl, (by intro w' hSw; obtain ⟨s0, s1⟩ := hSw; go_simp)⟩) (unhide HS _ (bl_drew _)) ?_
  go_simp
  refine wpAnyH_take (i := 10) (oi := _) (v := .int .i64 y) rfl (by kernel_rfl) (by kernel_rfl) (by kernel_rfl) (fun _ _ _ h => h) (Or.inl ⟨by rfl, (by intro w' hSw; obtain ⟨s0, s1⟩ := hSw; go_simp)⟩) (unhide HS _ (bl_drew _)) ?_
  go_simp
  refine wpAnyH_ready (rs := [2]) (by kernel_rfl) (by simp) ?_
  refine AllReadyH.cons (o := _) rfl (fun K hK => ?_) AllReadyH.nil
  go_simp
  refine (unhide HY _ (bl_drew _)).mono ?_
  rintro e w2 ⟨rfl, b2, dr2⟩
  have HB2 := hide (bl_past (bl_drew _) b2)
  have HD2 := hide dr2
  clear b2 dr2
  go_simp
  refine hK.out _ _ (unhide HS _ (unhide HB2)) (fun _ => ?_)
  clear hK K
  go_simp
  refine wpAnyH_take (i := 3) (oi := _) (v := .int .i64 y0) rfl (by kernel_rfl) (by kernel_rfl) (by kernel_rfl) (fun _ _ _ h => h) (Or.inl ⟨by rfl, (by intro w' hSw; obtain ⟨s0, s1⟩ := hSw; go_simp)⟩) (unhide HS _ (unhide HB2)) ?_
  go_simp
  refine wpAnyH_ready (rs := [6]) (by kernel_rfl) (by simp) ?_
  refine AllReadyH.cons (o := _) rfl (fun K hK => ?_) AllReadyH.nil
  go_simp
  refine (unhide HX _ (unhide HB2)).mono ?_
  rintro e w3 ⟨rfl, b3, dr3⟩
  have HB3 := hide (bl_past (unhide HB2) b3)
  have HD3 := hide dr3
  clear b3 dr3
  go_simp
  refine hK.out _ _ (unhide HS _ (unhide HB3)) (fun _ => ?_)
  clear hK K
  go_simp
  refine wpAnyH_take (i := 7) (oi := _) (v := .int .i64 x0) rfl (by kernel_rfl) (by kernel_rfl) (by kernel_rfl) (fun _ _ _ h => h) (Or.inl ⟨by rfl, (by intro w' hSw; obtain ⟨s0, s1⟩ := hSw; go_simp)⟩) (unhide HS _ (unhide HB3)) ?_
  go_simp
  refine wpAnyH_ready (rs := [8]) (by kernel_rfl) (by simp) ?_
  refine AllReadyH.cons (o := _) rfl (fun K hK => ?_) AllReadyH.nil
  go_simp
  refine (cmp64_any w3 y0 x0).mono ?_
  rintro e w4 ⟨rfl, e4⟩
  have e5 := e4.symm
  subst e5
  go_simp
  refine hK.out _ _ (unhide HS _ (unhide HB3)) (fun _ => ?_)
  clear hK K
  go_simp
  refine wpAnyH_ready (rs := [11]) (by kernel_rfl) (by simp) ?_
  refine AllReadyH.cons (o := _) rfl (fun K hK => ?_) AllReadyH.nil
  go_simp
  refine (cmpI_any w3 x y).mono ?_
  rintro e w4 ⟨rfl, e4⟩
  have e5 := e4.symm
  subst e5
  go_simp
  refine hK.out _ _ (unhide HS _ (unhide HB3)) (fun _ => ?_)
  clear hK K
  go_simp
  refine wpAnyH_ready (rs := [12]) (by kernel_rfl) (by simp) ?_
  refine AllReadyH.cons (o := _) rfl (fun K hK => ?_) AllReadyH.nil
  go_simp
  refine hK.out _ _ (unhide HS _ (bl_past (unhide HB3) ((Below.refl _ _).alloc (Nat.le_refl _) _))) (fun _ => ?_)
  clear hK K
  go_simp
  refine wpAnyH_ready (rs := [13]) (by kernel_rfl) (by simp) ?_
  refine AllReadyH.cons (o := _) rfl (fun K hK => ?_) AllReadyH.nil
  go_simp
  refine (or2_any _ (cpI y0 x0) (cpI x y) w3.heap.size (by simp) (by simp) (by simp)).mono ?_
  rintro e w5 ⟨rfl, e5⟩
  subst e5
  go_simp
  refine hK.out _ _ (unhide HS _ (bl_past (unhide HB3) ((Below.refl _ _).alloc (Nat.le_refl _) _))) (fun _ => ?_)
  clear hK K
  go_simp
  refine wpAnyH_take (i := 14) (oi := _) (v := .int .i64 (orI (cpI y0 x0) (cpI x y))) rfl (by kernel_rfl) (by kernel_rfl) (by kernel_rfl) (fun _ _ _ h => h) (Or.inl ⟨by rfl, (by intro w' hSw; obtain ⟨s0, s1⟩ := hSw; go_simp)⟩) (unhide HS _ (bl_past (unhide HB3) ((Below.refl _ _).alloc (Nat.le_refl _) _))) ?_
  go_simp
  refine wpAnyH_done (by kernel_rfl) ?_ _
  go_wp2_with fail
  go_ret
  refine ⟨rfl, bl_past (unhide HB3) ((Below.refl _ _).alloc (Nat.le_refl _) _), ?_⟩
  have h1 := unhide HD2
  have h2 := unhide HD3
  show W.drawn ≤ w3.drawn
  rw [h2, h1]
  exact Nat.le_succ _
end Go.Proofs.Ytaldacjeeccbhaa
