/-
  Text and Raw of a writer.
-/
import Derived.Test.YtclcebdcdbcpjaaGreatInt
namespace Go.Proofs.YtclcebdcdbcpjaaGreat
open Go.RowKit

/-- A string's bytes as numbers. -/
def strI (s : ByteArray) : List Int := s.data.toList.map fun b => (b.toNat : Int)
theorem strI_cells (s : ByteArray) : (strI s).map By = Lib.strCells s := by simp [strI, Lib.strCells, By]
theorem strI_length (s : ByteArray) : (strI s).length = s.size := by rw [strI, List.length_map, Array.length_toList]; rfl

/-- append of a string's bytes onto an owned row, and where the new row lies. -/
theorem run_append_string_at {P : Program} (w : World) (t u ty : TypeId) (i : TypeInfo) (ht : P.underlying t = some (.slice 5)) (hu : P.underlying u = some .string) (hi : P.info? 5 = some i) (hz : i.zero = some (.int .u8 0))
    (hsize : i.size = 1) (hby : i.bytes = 1) (v : Value) (n : Nat) (xs : List Value) (hown : w.ownsRow 0 5 1 v n xs) (s : ByteArray)
    (hbytes : n + s.size ≤ 140737488355328) (hn : 0 < n) :
    ∃ g cap w', (Builtin.append_ #[t, u] ty #[v, .string s]).run P w = .ok (.slice (some ⟨g, 0, none⟩) (n + s.size) cap) w' ∧ w'.ownsRow 0 5 1 (.slice (some ⟨g, 0, none⟩) (n + s.size) cap) (n + s.size) (xs ++ Lib.strCells s) ∧ w.grownBy w' v.ownBlock ∧
      (v.ownBlock = some g ∨ g = w.heap.size) := by
  have h63 : n + s.size ≤ maxLen := by unfold maxLen; omega
  obtain ⟨v', w', hr, h2, h3, h4⟩ := Lib.run_append_own_string (P := P) w 0 t u ty 5 i ht hu hi hz hsize hby v n xs hown s h63 hbytes (Nat.zero_le _)
  obtain ⟨g0, cap0, rfl, _, _⟩ := h2.form (by omega)
  refine ⟨g0, cap0, w', hr, h2, h3, ?_⟩
  rcases hown.2 with ⟨rfl, h0⟩ | ⟨g, cap, cur, rfl, _, hg, hnc, hcm, hcs, htake⟩
  · omega
  · by_cases hroom : n + s.size ≤ cap
    · have e := Lib.run_append_room_string (P := P) w t u ty 5 i ht hu hi hsize g n cap cur hg s hroom (by rw [hcs]; omega)
      rw [hr] at e
      injection e with e1 e2
      exact .inl (by simp at e1; rw [e1.1]; rfl)
    · have e := Lib.run_append_grow_string (P := P) w t u ty 5 i _ ht hu hi hz ⟨g, 0, none⟩ n cap xs (by rw [hsize]; exact hown.1) (@World.ownsRow.cells w 0 5 1 _ n xs hown g rfl) s (by omega) (by omega) (growslice_fits (by omega) (by rw [hby]; omega))
      rw [hr] at e
      injection e with e1 e2
      exact .inr (by simp at e1; exact e1.1)

theorem wpList_append_string_at {P : Program} (w : World) {ops : Array Oper} {rest : List Oper} {o : Oper} {a : Act} {Q : Exit → Act → World → Prop} (hgd : o.guard = none) (sl x : Operand) (t u : TypeId)
    (ho : o.op = .call { callee := .builtin .append, args := #[sl, x], argTypes := #[t, u] })
    (i : TypeInfo) (ht : P.underlying t = some (.slice 5)) (hu : P.underlying u = some .string) (hi : P.info? 5 = some i) (hz : i.zero = some (.int .u8 0))
    (hsize : i.size = 1) (hby : i.bytes = 1) (v : Value) (n : Nat) (xs : List Value) (hs : a.eval sl = v) (hown : w.ownsRow 0 5 1 v n xs) (s : ByteArray) (hx : a.eval x = .string s)
    (hbytes : n + s.size ≤ 140737488355328) (hn : 0 < n)
    (h : ∀ g cap w', w'.ownsRow 0 5 1 (.slice (some ⟨g, 0, none⟩) (n + s.size) cap) (n + s.size) (xs ++ Lib.strCells s) → w.grownBy w' v.ownBlock → (v.ownBlock = some g ∨ g = w.heap.size) → wpList P ops Q rest (a.put o.dst (.slice (some ⟨g, 0, none⟩) (n + s.size) cap)) w') :
    wpList P ops Q (o :: rest) a w := by
  refine wpList_plain hgd fun K hK => ?_
  obtain ⟨g, cap, w', hr, h2, h3, h4⟩ := run_append_string_at (P := P) w t u o.type i ht hu hi hz hsize hby v n xs hown s hbytes hn
  unfold Oper.wp execOp
  simp only [ho, resolve, invoke, builtin, Sem.run_bind, Sem.run_pure, Result.andThen_ok, List.map_toArray, List.map_cons, List.map_nil, hs, hx, hr]
  exact hK _ _ (h g cap w' h2 h3 h4)

/-- Behind an append that may add nothing. -/
theorem Wtr.appended_at {w w2 : World} {p : Nat} {v v' : Value} {bs : List Int} {more : List Int} (h : Wtr w p v bs)
    (hown : w2.ownsRow 0 5 1 v' (bs.length + more.length) (bs.map By ++ more.map By))
    (hgrow : w.grownBy w2 v.ownBlock) (hat : v'.ownBlock = v.ownBlock ∨ v'.ownBlock = some w.heap.size) :
    Wtr (w2.setCell ⟨p, 0, none⟩ v') p v' (bs ++ more) ∧ WStep p w v (w2.setCell ⟨p, 0, none⟩ v') v' := by
  have hp := h.lt
  have hne : v'.ownBlock ≠ some p := by
    intro e
    rcases hat with r | r
    · exact h.apart (r ▸ e)
    · rw [r] at e; simp at e; omega
  have c1 : w2.cell? ⟨p, 0, none⟩ = some v := by
    rw [hgrow.cell_far _ hp (Ne.symm h.apart)]; exact h.cell
  have f1 : w2.frozen? ⟨p, 0, none⟩ = false := by
    rw [hgrow.frozen_far _ hp (Ne.symm h.apart)]; exact h.frz
  have f0 : Fr (Foot p v) w w2 := (Fr.refl _ w).grown hgrow (fun k hk => .inr (.inr hk))
  refine ⟨⟨World.cell?_setCell_same _ _ _ c1, by rw [World.frozen?_setCell]; exact f1, ?_, hne⟩, ⟨f0.setCell _ (.inr (.inl rfl)) _, ?_⟩⟩
  · obtain ⟨h1, h2⟩ := hown
    rw [List.length_append, List.map_append]
    refine ⟨h1, ?_⟩
    rcases h2 with h2 | ⟨g', cap', cur, hv, hg, hh, r⟩
    · exact Or.inl h2
    · refine Or.inr ⟨g', cap', cur, hv, hg, ?_, r⟩
      rw [Below.heap_setCell _ _ _ _ (by intro e; exact hne (by rw [hv, e]; rfl))]; exact hh
  · rcases hat with e | e
    · exact .inl e
    · exact .inr fun k hk => by rw [e] at hk; simp at hk; omega

theorem own_shape {w : World} {base : Nat} {v : Value} {n : Nat} {xs : List Value} (h : w.ownsRow base 5 1 v n xs) : ∃ a len cap, v = .slice a len cap := by
  rcases h.2 with ⟨rfl, _⟩ | ⟨g, cap, cur, rfl, _⟩
  · exact ⟨_, _, _, rfl⟩
  · exact ⟨_, _, _, rfl⟩

end Go.Proofs.YtclcebdcdbcpjaaGreat
