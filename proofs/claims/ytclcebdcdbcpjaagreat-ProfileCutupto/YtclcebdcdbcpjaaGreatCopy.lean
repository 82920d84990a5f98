/-
  Copies of bytes, byte by byte.
-/
import Derived.Test.YtclcebdcdbcpjaaGreatSame
import Derived.Maps.AppendAt
namespace Go.Proofs.YtclcebdcdbcpjaaGreat
open Go.RowKit
theorem Rd.shapeR {w : World} {v : Value} {bs : List Int} (h : Rd w v bs) : ∃ a cap, v = .slice a bs.length cap := by
  rcases h with ⟨rfl, rfl⟩ | ⟨b, off, cap, rfl, _⟩
  · exact ⟨none, 0, rfl⟩
  · exact ⟨_, cap, rfl⟩
theorem Rd.at {w : World} {a : Option Addr} {len cap : Nat} {bs : List Int} (h : Rd w (.slice a len cap) bs) (i : Nat) (hi : i < bs.length) : ∃ b off, a = some ⟨b, off, none⟩ ∧ b < w.heap.size ∧ w.cell? ⟨b, off + i, none⟩ = some (.int .u8 (bs.getD i 0)) := by
  rcases h with ⟨_, rfl⟩ | ⟨b, off, cap', e, _, _, hb, hc⟩
  · simp at hi
  · simp only [Value.slice.injEq] at e
    exact ⟨b, off, e.1, hb, hc i hi⟩

/-- What holds of a row that is made byte by byte. -/
def Grows (w0 : World) (l : Value) (bs : List Int) (w : World) : Prop := w.ownsRow w0.heap.size 5 1 l bs.length (bs.map By) ∧ Below w0.heap.size w0 w
theorem take_getD0 (bs : List Int) (j : Nat) (hj : j < bs.length) : bs.take (j + 1) = bs.take j ++ [bs.getD j 0] := by
  rw [List.take_add_one]; simp [List.getD, hj]

theorem Grows.step {w0 wr w1 : World} {l v : Value} {bs : List Int} {b : Int} {o : Obj} {n : Nat} {xs : List Value} (h : Grows w0 l bs wr) (hown : w1.ownsRow w0.heap.size 5 1 v n xs) (hn : n = bs.length + 1) (hx : xs = bs.map By ++ [.int .u8 b]) (hg : (wr.alloc o).grownBy w1 l.ownBlock) : Grows w0 v (bs ++ [b]) w1 := by
  subst hn hx
  refine ⟨by simpa [By] using hown, ?_⟩
  have F : Fr (fun _ => False) w0 w1 := ((Fr.of_below h.2).alloc o).grown hg (fun k hk => .inl (h.1.lt k hk).1)
  exact F.below (Nat.le_refl _) (by simp)

theorem addr_add (b off j : Nat) : (⟨b, off, none⟩ : Addr).add j = ⟨b, off + j, none⟩ := by unfold Addr.add; split <;> simp_all
end Go.Proofs.YtclcebdcdbcpjaaGreat
