/-
  Frames, objects, fibers, states held against each other.
-/
import Derived.Test.YtfoanikkngmeiaaSm
namespace Go.Proofs.Ytfoanikkngmeiaa
open Go.RowKit
set_option linter.unusedVariables false
set_option linter.unusedSimpArgs false
theorem bl_two (w : World) (o1 o2 : Obj) : Below w.heap.size w ((w.alloc o1).alloc o2) := ((Below.refl _ w).alloc (Nat.le_refl _) o1).alloc (by simp only [World.size_alloc]; omega) o2
theorem bl_three (w : World) (o1 o2 o3 : Obj) : Below w.heap.size w (((w.alloc o1).alloc o2).alloc o3) := (bl_two w o1 o2).alloc (by simp only [World.size_alloc]; omega) o3
theorem bl_past {w w1 w2 : World} (h : Below w.heap.size w w1) (k : Below w1.heap.size w1 w2) : Below w.heap.size w w2 := h.trans (k.mono h.size)
theorem bl_drewN (w : World) (n : Nat) : Below w.heap.size w (w.drewN n) := ⟨rfl, rfl, rfl, Nat.le_refl _, fun _ _ => rfl⟩
theorem bl_drew (w : World) : Below w.heap.size w w.drew := ⟨rfl, rfl, rfl, Nat.le_refl _, fun _ _ => rfl⟩
theorem bool_neq (b c : Bool) (w : World) : (binOp .neq 4 (.bool b) (.bool c)).run Try.prog w = .ok (.bool (b != c)) w := by cases b <;> cases c <;> kernel_rfl
set_option maxRecDepth 100000 in
set_option maxHeartbeats 3200000 in
theorem smO_any {w : World} {u v : Value} {f g : Ob} (hu : ObA w u f) (hv : ObA w v g) (hN : f.its.length ≤ 1048576) (hK : f.keys.length ≤ 1048576) :
    Calls Try.prog 16 #[u, v] w fun e w' => e = .returned (.bool (Dc (f = g))) ∧ Below w.heap.size w w' := by
  obtain ⟨iu, ku, rfl, hu, hku⟩ := hu
  obtain ⟨iv, kv, rfl, hv, hkv⟩ := hv
  obtain ⟨ua, uc, rfl, hu1, hu2⟩ := hu.shape
  obtain ⟨va, vc, rfl, hv1, hv2⟩ := hv.shape
  obtain ⟨ka, kc, rfl, hk1, hk2⟩ := hku.shape
  obtain ⟨la, lc, rfl, hl1, hl2⟩ := hkv.shape
  unfold maxLen at hu2 hv2 hk2 hl2
  obtain ⟨k1, i1, y1, f1, c1, s1⟩ := f
  obtain ⟨k2, i2, y2, f2, c2, s2⟩ := g
  simp only at hu hv hku hkv hN hK hu1 hv1 hk1 hl1 ⊢
  have HB := hide (bl_two w)
  have HC := hide (fun o1 o2 => smV_any (hu.below (bl_two w o1 o2) (Nat.le_refl _)) (hv.below (bl_two w o1 o2) (Nat.le_refl _)) (by omega))
  have HL := hide (fun w1 (hb : Below w.heap.size w w1) => smL_any (hku.below hb (Nat.le_refl _)) (hkv.below hb (Nat.le_refl _)) (by omega))
  clear hu hv hku hkv
  have bn := bool_neq
  by_cases e1 : k1 = k2
  · subst e1
    by_cases e2 : f1 = f2
    · subst e2
      by_cases e3 : c1 = c2
      · subst e3
        by_cases e4 : s1 = s2
        · subst e4
          have d4 : (s1 != s1) = false := by simp
          by_cases e5 : i1 = i2
          · have ed : Dc ((⟨k1, i1, y1, f1, c1, s1⟩ : Ob) = ⟨k1, i2, y2, f1, c1, s1⟩) = Dc (y1 = y2) := Dc_congr ⟨fun e => by cases e; rfl, fun e => by rw [e, e5]⟩
            rw [ed]
            rw [Dc_true e5] at HC
            clear ed e5
            generalize Dc (y1 = y2) = d at *
            go_enter Try.func16, Try.ntmps16
            go_wp2_with fail
            refine (unhide HC _ _).mono ?_
            rintro e w1 ⟨rfl, hb1⟩
            have hbw := bl_past (bl_two w _ _) hb1
            have m2 : w1.cell? ⟨w.heap.size, 2, none⟩ = some (.slice ka y1.length kc) := by
              refine (hb1.cell (p := ⟨w.heap.size, 2, none⟩) (by simp only [World.size_alloc]; omega)).trans ?_
              rw [World.cell?_of_block (Below.heap_alloc _ _ _ (by simp))]
              exact (new_cells w _ 51 2 _ rfl)
            have m3 : w1.cell? ⟨w.heap.size + 1, 2, none⟩ = some (.slice la y2.length lc) := by
              refine (hb1.cell (p := ⟨w.heap.size + 1, 2, none⟩) (by simp)).trans ?_
              simp
            have HL1 := hide (unhide HL w1 hbw)
            have HBw := hide hbw
            clear hb1 HC HL hbw
            go_wp2_with fail
            refine (unhide HL1).mono ?_
            rintro e w2 ⟨rfl, hb2⟩
            have HB2 := hide hb2
            clear hb2 HL1
            go_wp2_with fail
            go_ret
            exact ⟨rfl, bl_past (unhide HBw) (unhide HB2)⟩
          · rw [Dc_false (fun e => e5 (by cases e; rfl))]
            rw [Dc_false e5] at HC
            clear HL e5
            go_enter Try.func16, Try.ntmps16
            go_wp2_with fail
            refine (unhide HC _ _).mono ?_
            rintro e w1 ⟨rfl, hb1⟩
            have HB1 := hide hb1
            clear hb1 HC
            go_wp2_with fail
            go_ret
            exact ⟨rfl, bl_past (unhide HB _ _) (unhide HB1)⟩
        · rw [Dc_false (fun e => e4 (by cases e; rfl))]
          have d1 : (s1 != s2) = true := by simpa using e4
          clear HC HL e4
          go_enter Try.func16, Try.ntmps16
          go_wp2_with fail
          go_ret
          exact ⟨rfl, unhide HB _ _⟩
      · rw [Dc_false (fun e => e3 (by cases e; rfl))]
        have d1 : (c1 != c2) = true := by simpa using e3
        have d2 : (c1 == c2) = false := by simpa using e3
        clear HC HL e3
        go_enter Try.func16, Try.ntmps16
        go_wp2_with fail
        go_ret
        exact ⟨rfl, unhide HB _ _⟩
    · rw [Dc_false (fun e => e2 (by cases e; rfl))]
      have d1 : (f1 != f2) = true := by simpa using e2
      have d2 : (f1 == f2) = false := by simpa using e2
      clear HC HL e2
      go_enter Try.func16, Try.ntmps16
      go_wp2_with fail
      go_ret
      exact ⟨rfl, unhide HB _ _⟩
  · rw [Dc_false (fun e => e1 (by cases e; rfl))]
    have d1 : (k1 != k2) = true := by simpa using e1
    have d2 : (k1 == k2) = false := by simpa using e1
    clear HC HL e1
    go_enter Try.func16, Try.ntmps16
    go_wp2_with fail
    go_ret
    exact ⟨rfl, unhide HB _ _⟩
end Go.Proofs.Ytfoanikkngmeiaa
