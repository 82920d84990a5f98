/-
  One text laid behind a row of one's own, up to 12 * 10^12 of them: the new row, where it lies; the old row reads as it did.
-/
import Derived.Test.YthmcalapofjmfaaBase
import Derived.WalkKit
import Derived.WalkSpells
import Derived.WalkLawsBesides
import Derived.OwnWalk
import Derived.Deep.AppendLies
import Derived.Deep.DeepAppendWide
import Derived.Maps.AppendAt
import Derived.KernelRfl
namespace Go.Proofs.Ythmcalapofjmfaa
open Go.RowKit Go.Maps
set_option linter.unusedVariables false

theorem Try.info9 : (Try.prog.info? 9).map (fun i => (i.zero, i.size, i.bytes)) = some (some (.string ⟨#[]⟩), 1, 16) := by kernel_rfl

theorem run_app (w : World) (base : Nat) (ty : TypeId) (v : Value) (n : Nat) (xs : List Value) (hown : w.ownsRow base 9 1 v n xs) (a : Addr) (c : Nat) (b : ByteArray)
    (hnews : ∀ j u, [Value.string b][j]? = some u → w.cell? (a.add j) = some u) (hN : n + 1 ≤ 12000000000000) (hbase : base ≤ w.heap.size) :
    ∃ v' w', (Builtin.append_ #[26, 26] ty #[v, .slice (some a) 1 c]).run Try.prog w = .ok v' w' ∧ w'.ownsRow base 9 1 v' (n + 1) (xs ++ [Value.string b]) ∧ w.grownBy w' v.ownBlock ∧
      (v'.ownBlock = v.ownBlock ∨ v'.ownBlock = some w.heap.size) ∧ (∀ g, v.ownBlock = some g → ∀ i u, xs[i]? = some u → w'.cell? ⟨g, i, none⟩ = some u) := by
  obtain ⟨i0, hi0, hz0, hz1, hz2⟩ := info_parts Try.info9
  have hl := hown.1
  obtain ⟨v', w', hr, ho, hg, _⟩ := run_append_own_wide (P := Try.prog) w base 26 ty 9 i0 (.string ⟨#[]⟩) 1 16 Try.underlying26 hi0 hz0 hz1 hz2 rfl (by decide) v n xs hown a 1 c [Value.string b] rfl hnews (by simp [Value.oneCell']) (by unfold maxLen; omega) (by omega) hbase
  refine ⟨v', w', hr, ho, hg, ?_⟩
  rcases hown.2 with ⟨rfl, h0⟩ | ⟨g, cap, cur, rfl, hbg, hgc, hnc, hcm, hcs, htake⟩
  · obtain ⟨v2, w2, hr2, _, _, _, hat⟩ := run_append_own_at (P := Try.prog) w base 26 ty 9 i0 (.string ⟨#[]⟩) 1 16 Try.underlying26 hi0 hz0 hz1 hz2 rfl (by decide) (.slice none 0 0) n xs hown a 1 c [Value.string b] rfl hnews (by simp [Value.oneCell']) (by unfold maxLen; omega) (by omega) hbase
    rw [hr] at hr2
    simp only [Result.ok.injEq] at hr2
    obtain ⟨rfl, rfl⟩ := hr2
    exact ⟨hat, fun g e => by simp [Value.ownBlock] at e⟩
  · have hlt : g < w.heap.size := (hown.lt g rfl).2
    by_cases hroom : n + 1 ≤ cap
    · have hr2 := run_append_room (P := Try.prog) w 26 ty 9 i0 Try.underlying26 hi0 g n cap cur hgc a 1 c [Value.string b] (by rw [hz1]; rfl) hnews (by simp [Value.oneCell']) hroom (by rw [hz1]; simp; omega)
      rw [hr] at hr2
      simp only [Result.ok.injEq] at hr2
      have hvb : v'.ownBlock = some g := by rw [hr2.1]; rfl
      refine ⟨.inl hvb, fun g2 e i u hi => ?_⟩
      simp only [Value.ownBlock, Option.some.injEq] at e
      subst e
      have := ho.cells (g := g) hvb i u (by rw [List.getElem?_append_left (List.getElem?_eq_some_iff.1 hi).1]; exact hi)
      rw [Go.WideShapes.add_plain, Nat.zero_add] at this
      exact this
    · have holds : ∀ j u, xs[j]? = some u → w.cell? ((⟨g, 0, none⟩ : Addr).add j) = some u := hown.cells (g := g) rfl
      have hr2 := run_append_grow (P := Try.prog) w 26 ty 9 i0 (.string ⟨#[]⟩) Try.underlying26 hi0 hz0 ⟨g, 0, none⟩ n cap xs (by rw [hz1]; omega) holds a 1 c [Value.string b] (by rw [hz1]; rfl) hnews (by omega) (by omega) (growslice_fits_wide (by omega) (by rw [hz2]; omega))
      rw [hr] at hr2
      simp only [Result.ok.injEq] at hr2
      refine ⟨.inr (by rw [hr2.1]; rfl), fun g2 e i u hi => ?_⟩
      simp only [Value.ownBlock, Option.some.injEq] at e
      subst e
      have := holds i u hi
      rw [Go.WideShapes.add_plain, Nat.zero_add] at this
      rw [hr2.2, World.cell?_of_block (Below.heap_alloc w.drew _ g hlt)]
      exact this

theorem wpList_app {w : World} {ops : Array Oper} {rest : List Oper} {o : Oper} {a : Act} {Q : Exit → Act → World → Prop} (hgd : o.guard = none) (s x : Operand)
    (ho : o.op = .call { callee := .builtin .append, args := #[s, x], argTypes := #[26, 26] }) (base : Nat) (v : Value) (n : Nat) (xs : List Value) (hs : a.eval s = v) (hown : w.ownsRow base 9 1 v n xs)
    (ad : Addr) (c : Nat) (b : ByteArray) (hx : a.eval x = .slice (some ad) 1 c) (hnews : ∀ j u, [Value.string b][j]? = some u → w.cell? (ad.add j) = some u) (hN : n + 1 ≤ 12000000000000) (hbase : base ≤ w.heap.size)
    (h : ∀ v' w', w'.ownsRow base 9 1 v' (n + 1) (xs ++ [Value.string b]) → w.grownBy w' v.ownBlock → (v'.ownBlock = v.ownBlock ∨ v'.ownBlock = some w.heap.size) → (∀ g, v.ownBlock = some g → ∀ i u, xs[i]? = some u → w'.cell? ⟨g, i, none⟩ = some u) → wpList Try.prog ops Q rest (a.put o.dst v') w') :
    wpList Try.prog ops Q (o :: rest) a w := by
  refine wpList_plain hgd fun K hK => ?_
  obtain ⟨v', w', hr, h2, h3, h4, h5⟩ := run_app w base o.type v n xs hown ad c b hnews hN hbase
  unfold Oper.wp execOp
  simp only [ho, resolve, invoke, builtin, Sem.run_bind, Sem.run_pure, Result.andThen_ok, List.map_toArray, List.map_cons, List.map_nil, hs, hx, hr]
  exact hK _ _ (h v' w' h2 h3 h4 h5)
end Go.Proofs.Ythmcalapofjmfaa
