/-
  alike.
-/
import Derived.Test.YtkpngfahnpidkaaMRow
import Derived.Test.YtkpngfahnpidkaaMTwo
namespace Go.Proofs.Ytkpngfahnpidkaa
open Go.RowKit
set_option linter.unusedVariables false
set_option linter.unusedSimpArgs false

set_option maxRecDepth 100000 in
set_option maxHeartbeats 3200000 in
theorem alike_any {w : World} {h r : Nat} {bud sp : Int} {ov : Value} {os : List OD} {rv : Value} {ds : List RD} (H : Hp w h bud sp ov os) (R : Rh w r bud sp rv ds) (hag : os.map OD.ao = ds.map (·.a)) (hall : All (ds.map (·.a))) (hL : ds.length ≤ 1700000000000) :
    Calls Try.prog 9 #[.pointer (some ⟨h, 0, none⟩), .pointer (some ⟨r, 0, none⟩)] w fun e w' => e = .returned (.bool true) ∧ Below w.heap.size w w' := by
  have hlen : os.length = ds.length := by have := congrArg List.length hag; simpa using this
  have hao : ∀ o, o ∈ os → o.keys = [] ∧ o.its.length ≤ 4096 := fun o ho => by
    have := hall o.ao (by rw [← hag]; exact List.mem_map.2 ⟨o, ho, rfl⟩)
    exact this
  have HH := hide H
  have HR := hide R
  obtain ⟨ra, rc, re, _⟩ := R.row.shape
  have M : Hid (∀ W, Below w.heap.size w W → Calls Try.prog 26 #[.pointer (some ⟨h, 0, none⟩), .int .i64 (ds.length : Int)] W fun e w' => e = .returned (.tuple #[.agg #[.int .i64 0, .slice none 0 0, .slice none 0 0, .int .i64 0, .int .i64 0, .bool false], .bool false]) ∧ Below W.heap.size W w') := fun W b => object_miss (H.below b) (.inr (by omega))
  have N : Hid (∀ W, Below w.heap.size w W → Calls Try.prog 26 #[.pointer (some ⟨h, 0, none⟩), .int .i64 (-1)] W fun e w' => e = .returned (.tuple #[.agg #[.int .i64 0, .slice none 0 0, .slice none 0 0, .int .i64 0, .int .i64 0, .bool false], .bool false]) ∧ Below W.heap.size W w') := fun W b => object_miss (H.below b) (.inl (by omega))
  have LN : Hid (∀ W, Below w.heap.size w W → Calls Try.prog 18 #[.pointer (some ⟨h, 0, none⟩)] W fun e w' => e = .returned (.int .i64 (ds.length : Int)) ∧ w' = W) := fun W b => by rw [← hlen]; exact len_any (H.below b)
  have SP : Hid (∀ W, Below w.heap.size w W → Calls Try.prog 17 #[.pointer (some ⟨h, 0, none⟩)] W fun e w' => e = .returned (.int .i64 sp) ∧ w' = W) := fun W b => spent_any (H.below b)
  have OB : Hid (∀ W, Below w.heap.size w W → Calls Try.prog 28 #[.pointer (some ⟨h, 0, none⟩), .int .i64 (ds.length : Int)] W fun e w' => ∃ v es, e = .returned v ∧ Rl W w' v es ∧ es.map (·.a) = os.map OD.ao) := fun W b => by rw [← hlen]; exact objects_any (H.below b) hao (by omega)
  have SO : Hid (∀ W v es, Below w.heap.size w W → Ro W 6 v es.length (rdF es) → (∀ d, d ∈ es → d.ok W) → es.map (·.a) = os.map OD.ao → Calls Try.prog 27 #[v, .slice ra ds.length rc] W fun e w' => e = .returned (.bool true) ∧ Below W.heap.size W w') := fun W v es b h1 h2 h3 => by
    have R1 := R.below b
    rw [← re]
    refine sameOs_any h1 R1.row h2 R1.ok (h3.trans hag) (fun d hd => (hall d.a ?_).1)
    rw [← hag, ← h3]
    exact List.mem_map.2 ⟨d, hd, rfl⟩
  have C1 : Hid (∀ W, Below w.heap.size w W → W.cell? ⟨r, 1, none⟩ = some (.int .i64 sp) ∧ W.cell? ⟨r, 2, none⟩ = some (.slice ra ds.length rc) ∧ r < W.heap.size) := fun W b => ⟨(R.below b).c1, by rw [← re]; exact (R.below b).c2, (R.below b).rlt⟩
  obtain ⟨c1, c2, cl⟩ := unhide C1 w (Below.refl _ _)
  clear H R hag hall re hlen hao
  generalize ds.length = L at *
  go_enter Try.func9, Try.ntmps9
  go_wp2_with fail
  refine (unhide M w (Below.refl _ _)).mono ?_
  rintro e1 w1 ⟨rfl, b1⟩
  have B1 : Hid (Below w.heap.size w (w1.alloc (.cells #[.int .i64 0, .slice none 0 0, .slice none 0 0, .int .i64 0, .int .i64 0, .bool false] 56))) := b1.alloc b1.size _
  clear c1 c2 cl b1
  go_wp2_with fail
  refine (unhide N _ (unhide B1)).mono ?_
  rintro e2 w2 ⟨rfl, b2⟩
  have B2' := (unhide B1).trans (b2.mono (unhide B1).size)
  have B2 : Hid (Below w.heap.size w (w2.alloc (.cells #[.int .i64 0, .slice none 0 0, .slice none 0 0, .int .i64 0, .int .i64 0, .bool false] 56))) := B2'.alloc B2'.size _
  clear b2 B2'
  go_wp2_with fail
  obtain ⟨X, eX⟩ : ∃ X, X = w2.alloc (.cells #[.int .i64 0, .slice none 0 0, .slice none 0 0, .int .i64 0, .int .i64 0, .bool false] 56) := ⟨_, rfl⟩
  rw [← eX] at B2 ⊢
  clear eX
  obtain ⟨c1, c2, cl⟩ := unhide C1 X (unhide B2)
  have BN : Hid (∀ n, Below w.heap.size w (X.drewN n)) := fun n => (unhide B2).trans ((Fr.drewN (S := fun _ => False) n).below (unhide B2).size (fun _ _ e => e))
  have K1 : Hid (∀ n, Calls Try.prog 18 #[.pointer (some ⟨h, 0, none⟩)] (X.drewN n) fun e w' => e = .returned (.int .i64 (L : Int)) ∧ w' = X.drewN n) := fun n => unhide LN _ (unhide BN n)
  have K2 : Hid (∀ n, Calls Try.prog 17 #[.pointer (some ⟨h, 0, none⟩)] (X.drewN n) fun e w' => e = .returned (.int .i64 sp) ∧ w' = X.drewN n) := fun n => unhide SP _ (unhide BN n)
  have d1 : ((L : Int) != (L : Int)) = false := by simp
  have d2 : (sp != sp) = false := by simp
  go_quiet (first | (go_at_call 18; exact Calls.quiet_of_same (unhide K1 _)) | (go_at_call 17; exact Calls.quiet_of_same (unhide K2 _)))
  have B3 := unhide BN nq
  generalize X.drewN nq = X3 at *
  clear c1 c2 cl K1 K2 BN B2
  obtain ⟨c1, c2, cl⟩ := unhide C1 X3 B3
  have HB3 := hide B3
  clear B3
  go_wp2_with fail
  have hS : X3.cell? ⟨r, 2, none⟩ = some (.slice ra L rc) ∧ r < X3.heap.size := ⟨c2, cl⟩
  clear c1 c2 cl
  refine wp_region_held_drew (S := (fun wx => wx.cell? ⟨r, 2, none⟩ = some (.slice ra L rc) ∧ r < wx.heap.size)) (by kernel_rfl) hS (fun hHeld => ?_)
  refine wpAnyH_take (i := 0) (oi := _) (v := .pointer (some ⟨h, 0, none⟩)) rfl (by kernel_rfl) (by kernel_rfl) (by kernel_rfl) (fun _ _ _ h => h) (Or.inl ⟨by rfl, (by intro w hSw; go_simp)⟩) (by assumption) ?_
  refine wpAnyH_take (i := 1) (oi := _) (v := .pointer (some ⟨r, 0, none⟩)) rfl (by kernel_rfl) (by kernel_rfl) (by kernel_rfl) (fun _ _ _ h => h) (Or.inl ⟨by rfl, (by intro w hSw; go_simp)⟩) (by assumption) ?_
  refine wpAnyH_take (i := 2) (oi := _) (v := .pointer (some ⟨r, 0, none⟩)) rfl (by kernel_rfl) (by kernel_rfl) (by kernel_rfl) (fun _ _ _ h => h) (Or.inl ⟨by rfl, (by intro w hSw; obtain ⟨hs0, hs1⟩ := hSw; go_simp)⟩) (by assumption) ?_
  go_simp
  refine wpAnyH_take (i := 3) (oi := _) (v := .pointer (some ⟨r, 2, none⟩)) rfl (by kernel_rfl) (by kernel_rfl) (by kernel_rfl) (fun _ _ _ h => h) (Or.inl ⟨by rfl, (by intro w hSw; obtain ⟨hs0, hs1⟩ := hSw; go_simp)⟩) (by assumption) ?_
  refine wpAnyH_take (i := 4) (oi := _) (v := .slice ra L rc) rfl (by kernel_rfl) (by kernel_rfl) (by kernel_rfl) (fun _ _ _ h => h) (Or.inl ⟨by rfl, (by intro w hSw; obtain ⟨hs0, hs1⟩ := hSw; go_simp)⟩) (by assumption) ?_
  refine wpAnyH_take (i := 5) (oi := _) (v := .int .i64 (L : Int)) rfl (by kernel_rfl) (by kernel_rfl) (by kernel_rfl) (fun _ _ _ h => h) (Or.inl ⟨by rfl, (by intro w hSw; go_simp)⟩) (by assumption) ?_
  refine wpAnyH_take (i := 7) (oi := _) (v := .pointer (some ⟨r, 0, none⟩)) rfl (by kernel_rfl) (by kernel_rfl) (by kernel_rfl) (fun _ _ _ h => h) (Or.inl ⟨by rfl, (by intro w hSw; go_simp)⟩) (by assumption) ?_
  refine wpAnyH_take (i := 8) (oi := _) (v := .pointer (some ⟨r, 0, none⟩)) rfl (by kernel_rfl) (by kernel_rfl) (by kernel_rfl) (fun _ _ _ h => h) (Or.inl ⟨by rfl, (by intro w hSw; obtain ⟨hs0, hs1⟩ := hSw; go_simp)⟩) (by assumption) ?_
  go_simp
  refine wpAnyH_take (i := 9) (oi := _) (v := .pointer (some ⟨r, 2, none⟩)) rfl (by kernel_rfl) (by kernel_rfl) (by kernel_rfl) (fun _ _ _ h => h) (Or.inl ⟨by rfl, (by intro w hSw; obtain ⟨hs0, hs1⟩ := hSw; go_simp)⟩) (by assumption) ?_
  refine wpAnyH_take (i := 10) (oi := _) (v := .slice ra L rc) rfl (by kernel_rfl) (by kernel_rfl) (by kernel_rfl) (fun _ _ _ h => h) (Or.inl ⟨by rfl, (by intro w hSw; obtain ⟨hs0, hs1⟩ := hSw; go_simp)⟩) (by assumption) ?_
  go_simp
  refine wpAnyH_ready (rs := [6]) (by kernel_rfl) (by simp) ?_
  refine AllReadyH.cons (o := _) rfl (fun K hK => ?_) AllReadyH.nil
  go_simp
  have B4 : Below w.heap.size w X3.drew := (unhide HB3).drew
  refine (unhide OB _ B4).mono ?_
  rintro e4 w4 ⟨v, es, rfl, R4, hm⟩
  have B5 : Below w.heap.size w w4 := B4.trans (R4.bel.mono B4.size)
  obtain ⟨va, vc, ve, _⟩ := R4.row.shape
  subst ve
  have HSO := hide (unhide SO w4 _ es B5 R4.row R4.ok hm)
  have C4 := (unhide C1 w4 B5).2
  have HB5 := hide B5
  clear B4 B5 R4 hm
  go_simp
  refine hK.out _ _ C4 (fun hHeld1 => ?_)
  clear hK K
  refine wpAnyH_ready (rs := [11]) (by kernel_rfl) (by simp) ?_
  refine AllReadyH.cons (o := _) rfl (fun K hK => ?_) AllReadyH.nil
  go_simp
  refine (unhide HSO).mono ?_
  rintro e5 w5 ⟨rfl, b5⟩
  have B6 := (unhide HB5).trans (b5.mono (unhide HB5).size)
  have C5 := (unhide C1 w5 B6).2
  have HB6 := hide B6
  clear b5 B6
  go_simp
  refine hK.out _ _ C5 (fun hHeld2 => ?_)
  clear hK K
  refine wpAnyH_take (i := 12) (oi := _) (v := .bool true) rfl (by kernel_rfl) (by kernel_rfl) (by kernel_rfl) (fun _ _ _ h => h) (Or.inl ⟨by rfl, (by intro w hSw; go_simp)⟩) (by assumption) ?_
  refine wpAnyH_done (by kernel_rfl) ?_ _
  clear hHeld hHeld1 hHeld2 hS C4 C5
  go_wp2_with fail
  go_ret
  exact ⟨rfl, unhide HB6⟩
end Go.Proofs.Ytkpngfahnpidkaa
