/-
  Copies of bytes, byte by byte.
-/
import Derived.Test.YtaldacjeeccbhaaSame
import Derived.Maps.AppendAt
namespace Go.Proofs.Ytaldacjeeccbhaa
open Go.RowKit
theorem Rd.shapeR {w : World} {v : Value} {bs : List Int} (h : Rd w v bs) : ∃ a cap, v = .slice a bs.length cap := by
  rcases h with ⟨rfl, rfl⟩ | ⟨b, off, cap, rfl, _⟩
  · exact ⟨none, 0, rfl⟩
  · exact ⟨_, cap, rfl⟩
theorem Rd.at {w : World} {a : Option Addr} {len cap : Nat} {bs : List Int} (h : Rd w (.slice a len cap) bs) (i : Nat) (hi : i < bs.length) : ∃ b off, a = some ⟨b, off, none⟩ ∧ b < w.heap.size ∧ w.cell? ⟨b, off + i, none⟩ = some (.int .u8 (bs.getD i 0)) := by
  rcases h with ⟨_, rfl⟩ | ⟨b, off, cap', e, _, _, hb, hc⟩
  · simp at hi
  · simp only [Value.slice.injEq] at e
    exact ⟨b, off, e.1, hb, hc i hi⟩

/-- What holds of a row that is made byte by byte. -/
def Grows (w0 : World) (l : Value) (bs : List Int) (w : World) : Prop := w.ownsRow w0.heap.size 5 1 l bs.length (bs.map By) ∧ Below w0.heap.size w0 w
theorem take_getD0 (bs : List Int) (j : Nat) (hj : j < bs.length) : bs.take (j + 1) = bs.take j ++ [bs.getD j 0] := by
  rw [List.take_add_one]; simp [List.getD, hj]

theorem Grows.step {w0 wr w1 : World} {l v : Value} {bs : List Int} {b : Int} {o : Obj} {n : Nat} {xs : List Value} (h : Grows w0 l bs wr) (hown : w1.ownsRow w0.heap.size 5 1 v n xs) (hn : n = bs.length + 1) (hx : xs = bs.map By ++ [.int .u8 b]) (hg : (wr.alloc o).grownBy w1 l.ownBlock) : Grows w0 v (bs ++ [b]) w1 := by
  subst hn hx
  refine ⟨by simpa [By] using hown, ?_⟩
  have F : Fr (fun _ => False) w0 w1 := ((Fr.of_below h.2).alloc o).grown hg (fun k hk => .inl (h.1.lt k hk).1)
  exact F.below (Nat.le_refl _) (by simp)

set_option maxHeartbeats 1600000 in
set_option maxRecDepth 100000 in
theorem copyBytes_any (v : Value) (B : List Int) (w : World) (hR : Rd w v B) (hN : B.length ≤ 140737488355328) :
    Calls Try.prog 23 #[v] w fun e w' => ∃ v', e = .returned v' ∧ Grows w v' B w' := by
  obtain ⟨i0, hi0, hz0, hz1, hz2⟩ := info_parts Try.info5
  obtain ⟨a, cap, rfl⟩ := hR.shapeR
  have HR := hide hR
  obtain ⟨N, hNN⟩ : ∃ N, Hid (B.length = N) := ⟨_, rfl⟩
  rw [unhide hNN] at hN HR ⊢
  clear hR
  go_enter Try.func23, Try.ntmps23
  go_wp2
  go_loopg [3, 4] N (fun k l s wr => ∃ (j : Nat), Hid (j + k = N) ∧ s = .int .i64 (j : Int) ∧ Hid (Grows w l (B.take j) wr))
  case atStart => exact ⟨0, by unfold Hid; omega, rfl, by exact ⟨World.ownsRow_nil _ _ _ _, Below.refl _ _⟩⟩
  case round =>
    obtain ⟨j, hj, rfl, hG⟩ := hrel
    by_cases hlt : j < N
    · obtain ⟨cb, co, rfl, hcb, hc⟩ := (unhide HR).at j (by rw [unhide hNN]; exact hlt)
      have hcell : wr.cell? ⟨cb, co + j, none⟩ = some (.int .u8 (B.getD j 0)) := ((unhide hG).2.cell (p := ⟨cb, co + j, none⟩) hcb).trans hc
      have htk := hide (take_getD0 B j (by rw [unhide hNN]; exact hlt))
      have hlen : (B.take j).length = j := by rw [List.length_take, unhide hNN]; omega
      have hown := (unhide hG).1
      rw [hlen] at hown
      have HO := hide hown
      have hlen := hide hlen
      generalize B.getD j 0 = b at *
      have i1 : (0 : Int) ≤ (j : Int) := by omega
      have i2 : (j : Int) < (N : Int) := by omega
      clear hc hown
      go_wp2_with (first | (at_builtin; refine wpList_append_own_at _ rfl _ _ 33 rfl w.heap.size 5 i0 (.int .u8 0) 1 1 Try.underlying33 hi0 hz0 hz1 hz2 rfl (by decide) _ _ _ rfl ((unhide HO).alloc _) ⟨wr.heap.size, 0, none⟩ 1 1 [.int .u8 b] rfl rfl (cell_one_new _ _ _) (by simp [Value.oneCell']) (by unfold maxLen; omega) (by omega) (by have := (unhide hG).2.size; simp; omega) ?_))
      intro v' w1 hown' hgrow hnil hat
      have HN : Hid (Grows w v' (B.take (j + 1)) w1) := hide (by
        rw [unhide htk]
        exact (unhide hG).step hown' (by rw [unhide hlen]) (by rw [List.map_take]) hgrow)
      clear hown' hgrow hnil hat
      go_wp2
      go_roundg (gk - 1)
      case measure => have := unhide hj; omega
      case rel => exact ⟨j + 1, by have := unhide hj; unfold Hid; omega, by go_num, HN⟩
    · have hjN : j = N := by have := unhide hj; omega
      subst hjN
      have HG : Hid (Grows w u3 B wr) := by
        have h := unhide hG
        rw [List.take_of_length_le (by rw [unhide hNN]; exact Nat.le_refl _)] at h
        exact h
      clear hG
      go_wp2
      go_ret
      exact ⟨_, rfl, unhide HG⟩
theorem addr_add (b off j : Nat) : (⟨b, off, none⟩ : Addr).add j = ⟨b, off + j, none⟩ := by unfold Addr.add; split <;> simp_all
end Go.Proofs.Ytaldacjeeccbhaa
