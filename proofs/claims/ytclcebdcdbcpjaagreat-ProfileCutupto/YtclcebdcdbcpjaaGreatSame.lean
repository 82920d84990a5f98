/-
  SameBytes, of two slices that read alike.
-/
import Derived.Test.YtclcebdcdbcpjaaGreatInt
namespace Go.Proofs.YtclcebdcdbcpjaaGreat
open Go.RowKit
theorem drewN_drewN (w : World) (a b : Nat) : (w.drewN a).drewN b = w.drewN (a + b) := by
  simp [World.drewN, Nat.add_assoc]

set_option maxRecDepth 100000 in
set_option maxHeartbeats 800000 in
theorem same_some (ba oa ca bb ob cb n : Nat) (bs : List Int) (w : World) (hm : n ≤ maxLen)
    (ha : ∀ i, i < n → w.cell? ⟨ba, oa + i, none⟩ = some (.int .u8 (bs.getD i 0))) (hb : ∀ i, i < n → w.cell? ⟨bb, ob + i, none⟩ = some (.int .u8 (bs.getD i 0))) :
    Calls Tryz.prog 9 #[.slice (some ⟨ba, oa, none⟩) n ca, .slice (some ⟨bb, ob, none⟩) n cb] w fun e w' => e = .returned (.bool true) ∧ ∃ k, w' = w.drewN k := by
  unfold maxLen at hm
  have HA := hide ha
  have HB := hide hb
  clear ha hb
  go_enter Tryz.func9, Tryz.ntmps9
  go_wp2
  go_loopg [5] n (fun k s wr => ∃ j : Nat, Hid (j + k = n) ∧ s = .int .i64 j ∧ ∃ n, wr = w.drewN n)
  case atStart => exact ⟨0, by unfold Hid; omega, rfl, 0, rfl⟩
  case round =>
    obtain ⟨j, hj, rfl, n0, hn0⟩ := hrel
    have HN0 := hide hn0
    by_cases hlt : j < n
    · have c1 : wr.cell? ⟨ba, oa + j, none⟩ = some (.int .u8 (bs.getD j 0)) := by rw [hn0]; exact unhide HA j hlt
      have c2 : wr.cell? ⟨bb, ob + j, none⟩ = some (.int .u8 (bs.getD j 0)) := by rw [hn0]; exact unhide HB j hlt
      have i0 : (0 : Int) ≤ (j : Int) := by omega
      have i1 : (j : Int) < (n : Int) := by omega
      generalize bs.getD j 0 = b at *
      clear hn0
      go_wp2
      go_quiet (fail)
      go_wp2
      go_roundg (gk - 1)
      case measure => have := unhide hj; omega
      case rel => exact ⟨j + 1, by have := unhide hj; unfold Hid; omega, by go_num, n0 + nq, by rw [unhide HN0, drewN_drewN]⟩
    · clear hn0
      go_wp2
      go_ret
      exact ⟨rfl, n0, unhide HN0⟩

set_option maxRecDepth 100000 in
set_option maxHeartbeats 800000 in
theorem same_none (a b : Option Addr) (ca cb : Nat) (w : World) :
    Calls Tryz.prog 9 #[.slice a 0 ca, .slice b 0 cb] w fun e w' => e = .returned (.bool true) ∧ ∃ k, w' = w.drewN k := by
  go_enter Tryz.func9, Tryz.ntmps9
  go_wp2
  go_loopg [5] 0 (fun k s wr => s = .int .i64 0 ∧ wr = w)
  case atStart => exact ⟨rfl, rfl⟩
  case round =>
    obtain ⟨rfl, rfl⟩ := hrel
    go_wp2
    go_ret
    exact ⟨rfl, 0, rfl⟩

theorem same_any (va vb : Value) (bs : List Int) (w : World) (ha : Rd w va bs) (hb : Rd w vb bs) :
    Calls Tryz.prog 9 #[va, vb] w fun e w' => e = .returned (.bool true) ∧ ∃ k, w' = w.drewN k := by
  rcases ha with ⟨rfl, rfl⟩ | ⟨ba, oa, ca, rfl, h1, h2, h3, h4⟩
  · rcases hb with ⟨rfl, _⟩ | ⟨bb, ob, cb, rfl, _⟩
    · exact same_none _ _ _ _ w
    · exact same_none _ _ _ _ w
  · rcases hb with ⟨rfl, rfl⟩ | ⟨bb, ob, cb, rfl, k1, k2, k3, k4⟩
    · exact same_none _ _ _ _ w
    · exact same_some ba oa ca bb ob cb bs.length bs w (by omega) h4 k4
end Go.Proofs.YtclcebdcdbcpjaaGreat
