/-
  The calls of a writer.
-/
import Derived.Test.YtaldacjeeccbhaaPut
namespace Go.Proofs.Ytaldacjeeccbhaa
open Go.RowKit

set_option maxRecDepth 100000 in
set_option maxHeartbeats 400000 in
theorem newWriter_any (w : World) (p : Nat) (hp : w.heap.size = p) :
    Calls Try.prog 38 #[] w fun e w' => e = .returned (.pointer (some ⟨p, 0, none⟩)) ∧ Wtr w' p (.slice none 0 0) [] ∧ Below p w w' ∧ p < w'.heap.size := by
  subst hp
  go_enter Try.func38, Try.ntmps38
  go_wp2
  go_ret
  refine ⟨rfl, ⟨by simp, ?_, World.ownsRow_nil _ _ _ _, by simp [Value.ownBlock]⟩, (Below.refl _ _).alloc (Nat.le_refl _) _, by simp⟩
  simp only [World.frozen?, heap_alloc_new]; rfl

set_option maxRecDepth 100000 in
set_option maxHeartbeats 400000 in
theorem byte_any (p : Nat) (v : Value) (bs : List Int) (x : Int) (w : World) (h : Wtr w p v bs) (hb : bs.length < 140737488355328) :
    Calls Try.prog 58 #[.pointer (some ⟨p, 0, none⟩), .int .u8 x] w fun e w' => e = .returned (.tuple #[]) ∧ ∃ v', Wtr w' p v' (bs ++ [x]) ∧ WStep p w v w' v' := by
  have h1 := hide (put8_any p v bs x w h hb)
  clear h hb
  go_enter Try.func58, Try.ntmps58
  go_wp2_with fail
  refine (unhide h1).mono ?_
  rintro e w' ⟨rfl, hh⟩
  go_wp2
  go_end0
  exact ⟨rfl, hh⟩

set_option maxRecDepth 100000 in
set_option maxHeartbeats 800000 in
theorem uint_any (p : Nat) (v : Value) (bs : List Int) (x : Nat) (w : World) (h : Wtr w p v bs) (hb : bs.length + 10 ≤ 140737488355328) (hx : x < 2 ^ 64) :
    Calls Try.prog 40 #[.pointer (some ⟨p, 0, none⟩), .int .u64 x] w fun e w' => e = .returned (.tuple #[]) ∧ ∃ v', Wtr w' p v' (bs ++ Wm.uform 9 x) ∧ WStep p w v w' v' := by
  have hS : Wm.UAt x x 9 [] := Wm.UAt.start x hx
  have hS2 : Wtr w p v (bs ++ []) := by simpa using h
  clear h
  go_enter Try.func40, Try.ntmps40
  go_wp2
  go_loopg [1] 9 (fun k s wr => ∃ (z : Nat) (done : List Int) (v' : Value), s = .int .u64 z ∧ Wm.UAt x z k done ∧ Wtr wr p v' (bs ++ done) ∧ WStep p w v wr v')
  case atStart => exact ⟨x, [], v, rfl, hS, hS2, WStep.refl _ _ _⟩
  case round =>
    obtain ⟨z, done, v', rfl, hU, hW, hT⟩ := hrel
    clear hS hS2
    have hl : (bs ++ done).length < 140737488355328 := by have := hU.len; rw [List.length_append]; omega
    have HU := hide hU
    have HT := hide hT
    have HW := hide hW
    clear hU hW hT
    by_cases hlt : 128 ≤ z
    · go_wp2_with fail
      refine (put8_any p v' (bs ++ done) _ wr (unhide HW) hl).mono ?_
      rintro e w' ⟨rfl, v2, hW2, hT2⟩
      have HW2 := hide hW2
      have HT2 := hide hT2
      clear hW2 hT2
      obtain ⟨m, rfl, hN⟩ := (unhide HU).next hlt
      have HN := hide hN
      clear hN
      go_wp2
      go_roundg m
      case measure => omega
      case rel => exact ⟨z / 128, done ++ [((z % 128 + 128 : Nat) : Int)], v2, by go_num, unhide HN, by rw [← List.append_assoc, ← Wm.or128i z]; exact unhide HW2, (unhide HT).trans (unhide HT2)⟩
    · have HD := hide ((unhide HU).done (by omega))
      go_wp2_with fail
      refine (put8_any p v' (bs ++ done) _ wr (unhide HW) hl).mono ?_
      rintro e w' ⟨rfl, v2, hW2, hT2⟩
      have HW2 := hide hW2
      have HT2 := hide hT2
      clear hW2 hT2
      go_wp2
      go_end0
      exact ⟨rfl, v2, by rw [← unhide HD, ← List.append_assoc]; exact unhide HW2, (unhide HT).trans (unhide HT2)⟩
end Go.Proofs.Ytaldacjeeccbhaa
