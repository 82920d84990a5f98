/-
  Kind, by the program and by the document.
-/
import Derived.Test.YtncmegafkccblaaSw2
import Derived.Test.YtncmegafkccblaaSw3
namespace Go.Proofs.Ytncmegafkccblaa
open Go.RowKit
set_option linter.unusedVariables false
set_option linter.unusedSimpArgs false
theorem Bs.one (w : World) (a : Array Value) : Bs w a (w.alloc (.cells a 24)) := ⟨heap_alloc_new w _, bl_one w _⟩
/-- What was seen, of whole numbers and of reals. -/
def seenI (op A B : Int) : Bool := okB op 0 && (decide (op ∈ W2) && ((A == 4) && (decide (tkI op 0 < 2) || (B == 4))))
def seenR (op A B : Int) : Bool := okB op 0 && (decide (op ∈ W3) && ((A == 8) && (decide (tkI op 0 < 2) || (B == 8))))
def knd (op A B : Int) : Int := if seenI op A B then 2 else if seenR op A B then 3 else -1
theorem W2_tk {op : Int} (h : op ∈ W2) : okB op 0 = true ∧ (tkI op 0 = 1 ∨ tkI op 0 = 2) := by
  simp only [W2, List.mem_cons, List.not_mem_nil, or_false] at h
  rcases h with rfl | rfl | rfl | rfl | rfl | rfl | rfl | rfl | rfl | rfl | rfl
  · exact ⟨by decide, by decide⟩
  · exact ⟨by decide, by decide⟩
  · exact ⟨by decide, by decide⟩
  · exact ⟨by decide, by decide⟩
  · exact ⟨by decide, by decide⟩
  · exact ⟨by decide, by decide⟩
  · exact ⟨by decide, by decide⟩
  · exact ⟨by decide, by decide⟩
  · exact ⟨by decide, by decide⟩
  · exact ⟨by decide, by decide⟩
  · exact ⟨by decide, by decide⟩
theorem seenI_eq (op A B : Int) : seenI op A B = (decide (op ∈ W2) && ((A == 4) && ((tkI op 0 == 1) || (B == 4)))) := by
  unfold seenI
  cases h : decide (op ∈ W2)
  · simp
  · obtain ⟨h1, h2⟩ := W2_tk (op := op) (by simpa using h)
    rw [h1]
    rcases h2 with h2 | h2 <;> rw [h2] <;> simp
theorem W3_tk {op : Int} (h : op ∈ W3) : okB op 0 = true ∧ (tkI op 0 = 1 ∨ tkI op 0 = 2) := by
  simp only [W3, List.mem_cons, List.not_mem_nil, or_false] at h
  rcases h with rfl | rfl | rfl | rfl | rfl | rfl | rfl | rfl | rfl | rfl
  · exact ⟨by decide, by decide⟩
  · exact ⟨by decide, by decide⟩
  · exact ⟨by decide, by decide⟩
  · exact ⟨by decide, by decide⟩
  · exact ⟨by decide, by decide⟩
  · exact ⟨by decide, by decide⟩
  · exact ⟨by decide, by decide⟩
  · exact ⟨by decide, by decide⟩
  · exact ⟨by decide, by decide⟩
  · exact ⟨by decide, by decide⟩
theorem seenR_eq (op A B : Int) : seenR op A B = (decide (op ∈ W3) && ((A == 8) && ((tkI op 0 == 1) || (B == 8)))) := by
  unfold seenR
  cases h : decide (op ∈ W3)
  · simp
  · obtain ⟨h1, h2⟩ := W3_tk (op := op) (by simpa using h)
    rw [h1]
    rcases h2 with h2 | h2 <;> rw [h2] <;> simp
set_option maxRecDepth 100000 in
set_option maxHeartbeats 1600000 in
theorem kind_any (w : World) (op cnt A B cal : Int) : Calls Try.prog 4 #[.int .i64 op, .agg #[.int .i64 cnt, .int .u16 A, .int .u16 B, .int .i64 cal]] w fun e w' => e = .returned (.int .i64 (knd op A B)) ∧ Below w.heap.size w w' := by
  have H2 := hide (fun w => saw2 w op cnt A B cal)
  have H3 := hide (fun w => saw3 w op cnt A B cal)
  change Hid (∀ w, Calls Try.prog 6 #[.int .i64 op, .agg #[.int .i64 cnt, .int .u16 A, .int .u16 B, .int .i64 cal]] w fun e w' => e = .returned (.bool (seenI op A B)) ∧ Below w.heap.size w w') at H2
  change Hid (∀ w, Calls Try.prog 7 #[.int .i64 op, .agg #[.int .i64 cnt, .int .u16 A, .int .u16 B, .int .i64 cal]] w fun e w' => e = .returned (.bool (seenR op A B)) ∧ Below w.heap.size w w') at H3
  unfold knd
  generalize seenI op A B = x at H2 ⊢
  generalize seenR op A B = y at H3 ⊢
  have H0 := hide (Bs.one w #[.int .i64 cnt, .int .u16 A, .int .u16 B, .int .i64 cal])
  go_enter Try.func4, Try.ntmps4
  go_wp2_with fail
  refine (unhide H2 _).mono ?_
  rintro e w1 ⟨rfl, b1⟩
  have H1 := hide ((unhide H0).go b1)
  clear b1 H0
  cases x
  · obtain ⟨c0, c1, c2, c3⟩ := (unhide H1).cells
    go_wp2_with fail
    clear c0 c1 c2 c3
    refine (unhide H3 _).mono ?_
    rintro e w2 ⟨rfl, b1⟩
    have H4 := hide ((unhide H1).go b1)
    clear b1 H1
    cases y
    · go_wp2_with fail
      go_ret
      exact ⟨rfl, (unhide H4).b⟩
    · go_wp2_with fail
      go_ret
      exact ⟨rfl, (unhide H4).b⟩
  · go_wp2_with fail
    go_ret
    exact ⟨rfl, (unhide H1).b⟩
set_option maxRecDepth 100000 in
set_option maxHeartbeats 1600000 in
theorem dkind_any (w : World) (op cnt A B cal : Int) : Calls Try.prog 5 #[.int .i64 op, .agg #[.int .i64 cnt, .int .u16 A, .int .u16 B, .int .i64 cal]] w fun e w' => e = .returned (.int .i64 (knd op A B)) ∧ Below w.heap.size w w' := by
  have HE := hide (fun w => dEffect_any w op 0 (by unfold I64; omega))
  have HI := hide (fun w => dI_any w op)
  have HR := hide (fun w => dR_any w op)
  unfold knd
  rw [seenI_eq, seenR_eq]
  generalize decide (op ∈ W2) = bI at HI ⊢
  generalize decide (op ∈ W3) = bR at HR ⊢
  generalize tkI op 0 = t at HE ⊢
  generalize ptI op 0 = p at HE
  generalize okB op 0 = ok at HE
  obtain ⟨bt, hbt⟩ : ∃ bt, (t == 1) = bt := ⟨_, rfl⟩
  obtain ⟨a4, ha4⟩ : ∃ x, (A == 4) = x := ⟨_, rfl⟩
  obtain ⟨a8, ha8⟩ : ∃ x, (A == 8) = x := ⟨_, rfl⟩
  obtain ⟨b4, hb4⟩ : ∃ x, (B == 4) = x := ⟨_, rfl⟩
  obtain ⟨b8, hb8⟩ : ∃ x, (B == 8) = x := ⟨_, rfl⟩
  rw [hbt, ha4, ha8, hb4, hb8]
  have H0 := hide (Bs.one w #[.int .i64 cnt, .int .u16 A, .int .u16 B, .int .i64 cal])
  go_enter Try.func5, Try.ntmps5
  go_wp2_with fail
  refine (unhide HE _).mono ?_
  rintro e w1 ⟨rfl, b1⟩
  have H1 := hide ((unhide H0).go b1)
  clear b1 H0 HE
  obtain ⟨c0, c1, c2, c3⟩ := (unhide H1).cells
  go_wp2_with fail
  refine (unhide HI _).mono ?_
  rintro e w2 ⟨rfl, rfl⟩
  cases bI
  · go_wp2_with fail
    refine (unhide HR _).mono ?_
    rintro e w3 ⟨rfl, rfl⟩
    cases bR
    · go_wp2_with fail
      go_ret
      exact ⟨rfl, (unhide H1).b⟩
    · cases a8
      · go_wp2_with fail
        go_ret
        exact ⟨rfl, (unhide H1).b⟩
      · cases bt
        · cases b8
          all_goals
            go_wp2_with fail
            go_ret
            exact ⟨rfl, (unhide H1).b⟩
        · go_wp2_with fail
          go_ret
          exact ⟨rfl, (unhide H1).b⟩
  · cases a4
    · go_wp2_with fail
      refine (unhide HR _).mono ?_
      rintro e w3 ⟨rfl, rfl⟩
      cases bR
      · go_wp2_with fail
        go_ret
        exact ⟨rfl, (unhide H1).b⟩
      · cases a8
        · go_wp2_with fail
          go_ret
          exact ⟨rfl, (unhide H1).b⟩
        · cases bt
          · cases b8
            all_goals
              go_wp2_with fail
              go_ret
              exact ⟨rfl, (unhide H1).b⟩
          · go_wp2_with fail
            go_ret
            exact ⟨rfl, (unhide H1).b⟩
    · have hA : A = 4 := by simpa using ha4
      obtain rfl : a8 = false := by rw [← ha8, hA]; decide
      cases bt
      · cases b4
        · go_wp2_with fail
          refine (unhide HR _).mono ?_
          rintro e w3 ⟨rfl, rfl⟩
          cases bR
          · go_wp2_with fail
            go_ret
            exact ⟨rfl, (unhide H1).b⟩
          · go_wp2_with fail
            go_ret
            exact ⟨rfl, (unhide H1).b⟩
        · go_wp2_with fail
          go_ret
          exact ⟨rfl, (unhide H1).b⟩
      · go_wp2_with fail
        go_ret
        exact ⟨rfl, (unhide H1).b⟩
set_option maxRecDepth 100000 in
set_option maxHeartbeats 1600000 in
theorem guessKindLaw (w : World) (op cnt A B cal : Int) : Calls Try.prog 3 #[.int .i64 op, .agg #[.int .i64 cnt, .int .u16 A, .int .u16 B, .int .i64 cal]] w fun e w' => e = .returned (.bool true) ∧ Below w.heap.size w w' := by
  have HK := hide (fun w => kind_any w op cnt A B cal)
  have HD := hide (fun w => dkind_any w op cnt A B cal)
  generalize knd op A B = k at HK HD
  have H0 := hide (Bs.one w #[.int .i64 cnt, .int .u16 A, .int .u16 B, .int .i64 cal])
  go_enter Try.func3, Try.ntmps3
  go_wp2_with fail
  refine wp_region_held_drew (S := (fun W => Bs w #[.int .i64 cnt, .int .u16 A, .int .u16 B, .int .i64 cal] W)) (by kernel_rfl) ((unhide H0).drew) (fun hHeld => ?_)
  clear hHeld
  have H1 := hide (unhide H0).drew
  clear H0
  generalize (w.alloc (.cells #[.int .i64 cnt, .int .u16 A, .int .u16 B, .int .i64 cal] 24)).drew = wd at H1 ⊢
  refine wpAnyH_take (i := 0) (oi := _) (v := .int .i64 op) rfl (by kernel_rfl) (by kernel_rfl) (by kernel_rfl) (fun _ _ _ h => h) (Or.inl ⟨by rfl, (by intro w' hSw; obtain ⟨c0, c1, c2, c3⟩ := hSw.cells; go_simp)⟩) (unhide H1) ?_
  go_simp
  refine wpAnyH_take (i := 1) (oi := _) (v := .agg #[.int .i64 cnt, .int .u16 A, .int .u16 B, .int .i64 cal]) rfl (by kernel_rfl) (by kernel_rfl) (by kernel_rfl) (fun _ _ _ h => h) (Or.inl ⟨by rfl, (by intro w' hSw; obtain ⟨c0, c1, c2, c3⟩ := hSw.cells; go_simp)⟩) (unhide H1) ?_
  go_simp
  refine wpAnyH_take (i := 3) (oi := _) (v := .int .i64 op) rfl (by kernel_rfl) (by kernel_rfl) (by kernel_rfl) (fun _ _ _ h => h) (Or.inl ⟨by rfl, (by intro w' hSw; obtain ⟨c0, c1, c2, c3⟩ := hSw.cells; go_simp)⟩) (unhide H1) ?_
  go_simp
  refine wpAnyH_take (i := 4) (oi := _) (v := .agg #[.int .i64 cnt, .int .u16 A, .int .u16 B, .int .i64 cal]) rfl (by kernel_rfl) (by kernel_rfl) (by kernel_rfl) (fun _ _ _ h => h) (Or.inl ⟨by rfl, (by intro w' hSw; obtain ⟨c0, c1, c2, c3⟩ := hSw.cells; go_simp)⟩) (unhide H1) ?_
  go_simp
  refine wpAnyH_ready (rs := [2]) (by kernel_rfl) (by simp) ?_
  refine AllReadyH.cons (o := _) rfl (fun K hK => ?_) AllReadyH.nil
  go_simp
  refine (unhide HK _).mono ?_
  rintro e w2 ⟨rfl, hb⟩
  have H2 := hide ((unhide H1).go hb)
  clear hb
  refine hK.out _ _ (unhide H2) (fun _ => ?_)
  clear hK K
  go_simp
  refine wpAnyH_ready (rs := [5]) (by kernel_rfl) (by simp) ?_
  refine AllReadyH.cons (o := _) rfl (fun K hK => ?_) AllReadyH.nil
  go_simp
  refine (unhide HD _).mono ?_
  rintro e w3 ⟨rfl, hb⟩
  have H3 := hide ((unhide H2).go hb)
  clear hb
  refine hK.out _ _ (unhide H3) (fun _ => ?_)
  clear hK K
  go_simp
  refine wpAnyH_ready (rs := [6]) (by kernel_rfl) (by simp) ?_
  refine AllReadyH.cons (o := _) rfl (fun K hK => ?_) AllReadyH.nil
  go_simp
  refine hK.out _ _ (unhide H3) (fun _ => ?_)
  clear hK K
  go_simp
  refine wpAnyH_ready (rs := [7]) (by kernel_rfl) (by simp) ?_
  refine AllReadyH.cons (o := _) rfl (fun K hK => ?_) AllReadyH.nil
  go_simp
  refine hK.out _ _ (unhide H3) (fun _ => ?_)
  clear hK K
  go_simp
  refine wpAnyH_done (by kernel_rfl) ?_ _
  go_wp2_with fail
  go_ret
  exact ⟨by simp, (unhide H3).b⟩
end Go.Proofs.Ytncmegafkccblaa
