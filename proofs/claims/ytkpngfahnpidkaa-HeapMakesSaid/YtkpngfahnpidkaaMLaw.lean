/-
  HeapMakes: the law's walk.
-/
import Derived.Test.YtkpngfahnpidkaaMPlay
namespace Go.Proofs.Ytkpngfahnpidkaa
open Go.RowKit
set_option linter.unusedVariables false
set_option linter.unusedSimpArgs false

def sevC : Array Value := #[.int .i64 0, .int .i64 1, .int .i64 2, .int .i64 3, .int .i64 4, .int .i64 5, .int .i64 6]
theorem mj_start {w w1 w2 w3 : World} {b s : Int} (H : Hp w1 w.heap.size b s (.slice none 0 0) []) (b1 : Below w.heap.size w w1) (R : Rh w2 w1.heap.size b s (.slice none 0 0) []) (b2 : Below w1.heap.size w1 w2) (b3 : Below w2.heap.size w2 w3) (hs : 0 ≤ s ∧ s < 9223372036854775808) :
    MJ w w.heap.size w1.heap.size w3.heap.size b 0 s (.slice none 0 0) [] (.slice none 0 0) [] (w3.alloc (.cells sevC 3)) := by
  have hB : Below w3.heap.size w3 (w3.alloc (.cells sevC 3)) := (Below.refl _ _).alloc (Nat.le_refl _) _
  have hl := H.hlt
  have rl := R.rlt
  have s2 := b2.size
  have s3 := b3.size
  have b13 : Below w1.heap.size w1 w3 := b2.trans (b3.mono s2)
  have hF : ∀ k, Fts w.heap.size (.slice none 0 0) [] k → k = w.heap.size := fun k hk => by
    rcases hk.cases with e | e | ⟨i, o, ho, _⟩
    · exact e
    · simp [Value.ownBlock] at e
    · simp at ho
  have rF : ∀ k, Rfs w1.heap.size (.slice none 0 0) [] k → k = w1.heap.size := fun k hk => by
    rcases hk with e | e | ⟨d, hd, _⟩
    · exact e
    · simp [Value.ownBlock] at e
    · simp at hd
  refine ⟨(H.below b13).below hB, (R.below b3).below hB, rfl, fun a ha => by simp at ha, Nat.le_refl _, fun k hk => ?_, fun k hk => ?_, fun k hk e => ?_, by have := b1.size; omega, fun j hj => ?_, (b1.trans (b13.mono b1.size)).trans (hB.mono (by have := b1.size; omega)), hs⟩
  · have := hF k hk; exact ⟨by omega, by omega⟩
  · have := rF k hk; exact ⟨by omega, by omega⟩
  · have := hF k hk; have := rF k e; omega
  · have hg := heap_alloc_new w3 (.cells sevC 3)
    simp only [World.cell?, hg]
    match j, hj with
    | 0, _ => rfl
    | 1, _ => rfl
    | 2, _ => rfl
    | 3, _ => rfl
    | 4, _ => rfl
    | 5, _ => rfl
    | 6, _ => rfl
set_option maxRecDepth 100000 in
set_option maxHeartbeats 6400000 in
theorem makesLaw (w : World) (budget spent : Int) (v : Value) (ps : List OpD) (ls : Nat → List (Int × Int)) (hR : RdO w v ps) (hLs : ∀ i, i < ps.length → RtV w (ps.getD i OpD.zero).lv (ls i) ∧ (ls i).length ≤ 8796093021952) (hN : ps.length ≤ 1600000000000) (hb : budget < 9223372036854775808) (hs : spent < 9223372036854775808) : Calls Try.prog 3 #[.int .i64 budget, .int .i64 spent, v] w fun e w' => e = .returned (.bool true) ∧ Below w.heap.size w w' := by
  have HR := hide hR
  have HL := hide hLs
  obtain ⟨sa, scap, ve, _⟩ := hR
  have HVE := hide ve
  have HNEW := hide (new_any w budget spent)
  have HNR : Hid (∀ w1, Calls Try.prog 8 #[.int .i64 budget, .int .i64 spent] w1 fun e w' => e = .returned (.pointer (some ⟨w1.heap.size, 0, none⟩)) ∧ Rh w' w1.heap.size (max budget 0) (max spent 0) (.slice none 0 0) [] ∧ Below w1.heap.size w1 w') := fun w1 => rnew_any w1 budget spent
  have hb' : 0 ≤ max budget 0 ∧ max budget 0 < 9223372036854775808 := by omega
  have hs' : 0 ≤ max spent 0 ∧ max spent 0 < 9223372036854775808 := by omega
  generalize max budget 0 = B at *
  generalize max spent 0 = S at *
  obtain ⟨L, hL⟩ : ∃ L, Hid (ps.length = L) := ⟨_, rfl⟩
  rw [unhide hL] at ve
  rw [ve]
  clear hLs ve
  go_enter Try.func3, Try.ntmps3
  go_wp2_with fail
  refine (unhide HNEW).mono ?_
  rintro e1 w1 ⟨rfl, H1, b1⟩
  have H1H := hide (And.intro H1 b1)
  have hl1 := H1.hlt
  clear H1 b1
  go_wp2_with fail
  refine (unhide HNR w1).mono ?_
  rintro e2 w2 ⟨rfl, R2, b2⟩
  have HAL := hide (alike_any ((unhide H1H).1.below b2) R2 rfl (fun a ha => by simp at ha) (by simp))
  have H2H := hide (And.intro R2 b2)
  have hl2 : w.heap.size < w2.heap.size := Nat.lt_of_lt_of_le hl1 b2.size
  clear R2 b2
  go_wp2_with fail
  refine (unhide HAL).mono ?_
  rintro e3 w3 ⟨rfl, b3⟩
  have HPL := hide (play_any (unhide HR) (unhide HL) hN hb' (mj_start (unhide H1H).1 (unhide H1H).2 (unhide H2H).1 (unhide H2H).2 b3 hs'))
  rw [unhide HVE, unhide hL] at HPL
  unfold sevC at HPL
  clear b3
  go_wp2_with fail
  refine (unhide HPL).mono ?_
  rintro e4 w4 ⟨rfl, b4⟩
  have HB4 := hide b4
  clear b4
  go_wp2_with fail
  go_ret
  exact ⟨rfl, unhide HB4⟩
end Go.Proofs.Ytkpngfahnpidkaa
