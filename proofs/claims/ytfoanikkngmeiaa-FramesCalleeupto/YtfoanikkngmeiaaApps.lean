/-
  append of any row onto any row; onto nothing; clear.
-/
import Derived.Test.YtfoanikkngmeiaaPRow
import Derived.Deep.Upon
import Derived.Lib.SliceRun
import Derived.Deep.RegionHeld3
import Derived.Deep.RegionLaw
namespace Go.Proofs.Ytfoanikkngmeiaa
open Go.RowKit
set_option linter.unusedVariables false
set_option linter.unusedSimpArgs false

theorem app_none {P : Program} (w : World) (t ty e : TypeId) (ht : P.underlying t = some (.slice e)) {i : TypeInfo} (hi : P.info? e = some i) (base : Option Addr) (n c : Nat) (hle : n ≤ c) (a : Option Addr) (cx : Nat) :
    (Builtin.append_ #[t, t] ty #[.slice base n c, .slice a 0 cx]).run P w = .ok (.slice base n c) w := by
  cases base <;> cases a <;> simp [Builtin.append_, run_underlying ht, sizeOf, typeInfo, hi, Builtin.lenOf, hle, Builtin.firstCells, storeCells, loadCells, loadCellsFrom]

section
variable {P : Program} {w : World} {v x : Value} {n m : Nat} {xs news : List Value} {size bytes : Nat}
/-- append of a row that can be read onto a row. -/
theorem Ro.appX (t ty e : TypeId) (z : Value) (ht : P.underlying t = some (.slice e)) (hinf : (P.info? e).map (fun i => (i.zero, i.size, i.bytes)) = some (some z, size, bytes)) (hzs : z.cells.size = size) (hsz : 0 < size)
    (h : Ro w size v n xs) (hx : Rx w size x m news) (h1 : ∀ u ∈ news, u.oneCell' = true) (h63 : n + m ≤ maxLen) (hbytes : (n + m) * bytes ≤ 140737488355328) :
    ∃ v' w', (Builtin.append_ #[t, t] ty #[v, x]).run P w = .ok v' w' ∧ Ro w' size v' (n + m) (xs ++ news) ∧ w.grownBy w' v.ownBlock ∧ (v'.ownBlock = v.ownBlock ∨ v'.ownBlock = some w.heap.size) := by
  obtain ⟨i0, hi0, hz0, hz1, hz2⟩ := info_parts hinf
  obtain ⟨hl, a, cap, rfl, hmc, hcm, hcell⟩ := hx
  by_cases h0 : 0 < m
  · obtain ⟨b, off, rfl, hb, hc⟩ := hcell h0
    refine Ro.app t ty e i0 z size bytes ht hi0 hz0 hz1 hz2 hzs hsz h _ m cap news hl (fun j u hu => ?_) h1 h0 h63 hbytes
    have hj : j < m * size := by have := (List.getElem?_eq_some_iff.1 hu).1; omega
    rw [Go.WideShapes.add_plain, hc j hj, hu]
  · obtain rfl : m = 0 := by omega
    obtain rfl : news = [] := List.eq_nil_of_length_eq_zero (by simpa using hl)
    obtain ⟨va, vc, rfl, hvc, _⟩ := h.shape
    exact ⟨_, w, app_none w t ty e ht hi0 _ _ _ hvc _ _, by simpa using h, ⟨rfl, rfl, rfl, Nat.le_refl _, fun _ _ _ => rfl⟩, .inl rfl⟩
/-- A row that was handed out: nothing without room, or memory from B on. -/
def Hx (B : Nat) (w : World) (sz : Nat) (v : Value) (n : Nat) (xs : List Value) : Prop :=
  (n = 0 ∧ xs = [] ∧ ∃ a, v = .slice a 0 0) ∨ (Ro w sz v n xs ∧ ∀ k, v.ownBlock = some k → B ≤ k)
theorem Hx.rx {B : Nat} {sz : Nat} (h : Hx B w sz v n xs) : Rx w sz v n xs := by
  rcases h with ⟨rfl, rfl, a, rfl⟩ | ⟨h, _⟩
  · exact ⟨by simp, a, 0, rfl, Nat.le_refl _, Nat.zero_le _, fun h => absurd h (Nat.lt_irrefl 0)⟩
  · exact Rx.of_ro h
theorem Hx.fr {B : Nat} {sz : Nat} {S : Nat → Prop} {w' : World} (h : Hx B w sz v n xs) (f : Fr S w w') (hS : ∀ k, B ≤ k → k < w.heap.size → ¬ S k) : Hx B w' sz v n xs := by
  rcases h with h | ⟨h, hb⟩
  · exact .inl h
  · exact .inr ⟨h.fr f (fun k hk => hS k (hb k hk) (h.lt k hk)), hb⟩
theorem Hx.mono {B B' : Nat} {sz : Nat} (h : Hx B w sz v n xs) (hb : B' ≤ B) : Hx B' w sz v n xs := by
  rcases h with h | ⟨h, hk⟩
  · exact .inl h
  · exact .inr ⟨h, fun k e => Nat.le_trans hb (hk k e)⟩
/-- append of a row onto a place without room: a new row. -/
theorem app_new (t ty e : TypeId) (z : Value) (ht : P.underlying t = some (.slice e)) (hinf : (P.info? e).map (fun i => (i.zero, i.size, i.bytes)) = some (some z, size, bytes)) (hzs : z.cells.size = size)
    (ba : Option Addr) (hx : Rx w size x m news) (h63 : m ≤ maxLen) (hbytes : m * bytes ≤ 140737488355328) :
    ∃ v' w', (Builtin.append_ #[t, t] ty #[.slice ba 0 0, x]).run P w = .ok v' w' ∧ Hx w.heap.size w' size v' m news ∧ Fr (fun _ => False) w w' ∧ (0 < m → ∃ c, v' = .slice (some ⟨w.heap.size, 0, none⟩) m c) := by
  obtain ⟨i0, hi0, hz0, hz1, hz2⟩ := info_parts hinf
  obtain ⟨hl, a, cap, rfl, hmc, hcm, hcell⟩ := hx
  by_cases h0 : 0 < m
  · obtain ⟨b, off, rfl, hb, hc⟩ := hcell h0
    have hnews : ∀ j u, news[j]? = some u → w.cell? ((⟨b, off, none⟩ : Addr).add j) = some u := fun j u hu => by
      have hj : j < m * size := by have := (List.getElem?_eq_some_iff.1 hu).1; omega
      rw [Go.WideShapes.add_plain, hc j hj, hu]
    have hge := grownCap_ge w m 0 e
    have hcm2 : grownCap w m 0 e ≤ maxLen := grownCap_le_maxLen w m 0 e (by omega)
    have key : (Builtin.append_ #[t, t] ty #[.slice ba 0 0, .slice (some ⟨b, off, none⟩) m cap]).run P w = .ok (.slice (some ⟨w.heap.size, 0, none⟩) m (grownCap w m 0 e)) (w.drew.alloc (.cells (news.toArray ++ Builtin.zeroCells z.cells (grownCap w m 0 e - m)) e)) := by
      cases ba with
      | none => exact run_append_nil (P := P) w t ty e i0 z ht hi0 hz0 _ m cap news (by rw [hz1]; exact hl) hnews h0 (by unfold maxLen at h63; omega) (by rw [hz2]; omega)
      | some q =>
        have := run_append_grow (P := P) w t ty e i0 z ht hi0 hz0 q 0 0 [] (by simp) (by simp) _ m cap news (by rw [hz1]; exact hl) hnews (by omega) (by unfold maxLen at h63; omega) (by rw [hz2, Nat.zero_add]; exact growslice_fits (by omega) (by simpa using hbytes))
        simpa using this
    refine ⟨_, _, key, .inr ⟨⟨hl, .inr ⟨w.heap.size, 0, _, _, e, rfl, heap_alloc_new w.drew _, by omega, hcm2, ?_, fun j hj => ?_⟩⟩, fun k hk => by cases hk; exact Nat.le_refl _⟩, ((Fr.refl _ w).drew).alloc _, fun _ => ⟨_, rfl⟩⟩
    · simp only [Array.size_append, List.size_toArray, size_zeroCells, hzs, hl, ← Nat.add_mul, Nat.zero_add]
      refine Nat.mul_le_mul_right _ ?_
      omega
    · rw [Nat.zero_add, Array.getElem?_append_left (by simp; omega)]
      simp
  · obtain rfl : m = 0 := by omega
    obtain rfl : news = [] := List.eq_nil_of_length_eq_zero (by simpa using hl)
    exact ⟨_, w, app_none w t ty e ht hi0 _ _ _ (Nat.le_refl _) _ _, .inl ⟨rfl, rfl, _, rfl⟩, Fr.refl _ _, fun h => absurd h (Nat.lt_irrefl 0)⟩
/-- clear of a row's rest. -/
theorem clear_rest (t ty e : TypeId) (z : Value) (ht : P.underlying t = some (.slice e)) (hinf : (P.info? e).map (fun i => (i.zero, i.size, i.bytes)) = some (some z, size, bytes)) (hzs : z.cells.size = size) (hz1 : ∀ k, ∀ u ∈ (Builtin.zeroCells z.cells k).toList, u.oneCell' = true)
    {g off cap : Nat} (h : Ro w size (.slice (some ⟨g, off, none⟩) n cap) n xs) {k : Nat} (hk : k ≤ n) (a : Addr) (c : Nat) (ha : k < n → a = ⟨g, off + k * size, none⟩) :
    ∃ w', (Builtin.clear_ #[t] ty #[.slice (some a) (n - k) c]).run P w = .ok (.tuple #[]) w' ∧ Ro w' size (.slice (some ⟨g, off, none⟩) k cap) k (xs.take (k * size)) ∧ Fr (fun b => b = g) w w' := by
  obtain ⟨i0, hi0, hz0, hz2, hz3⟩ := info_parts hinf
  by_cases q : k < n
  · have ea := ha q
    subst ea
    obtain ⟨_, _, e1, hcap, _⟩ := h.shape
    cases e1
    obtain ⟨m, hm⟩ : ∃ m, n - k = m + 1 := ⟨n - k - 1, by omega⟩
    have hzl : (Builtin.zeroCells z.cells (m + 1)).toList.length = (m + 1) * size := by rw [Array.length_toList, size_zeroCells, hzs]
    have hin : (m + 1) * size + k * size = n * size := by rw [← Nat.add_mul]; congr 1; omega
    have hcn : n * size ≤ cap * size := Nat.mul_le_mul_right _ hcap
    have hcell : ∀ j, j < (m + 1) * size → (w.cell? ⟨g, off + k * size + j, none⟩).isSome = true := fun j hj => by
      rcases h.2 with ⟨e2, _⟩ | ⟨g', off', cap', cur, t', e2, hh, _, _, h5, h6⟩
      · cases e2
      · cases e2
        have : off + k * size + j < cur.size := by omega
        simp [World.cell?, hh]
        omega
    have hst := run_storeCells_cells (P := P) g (off + k * size) (Builtin.zeroCells z.cells (m + 1)).toList 0 w (by rw [hzl]; simpa using hcell) (by rw [hzl]; intro j _; exact h.free rfl _) (hz1 _)
    simp only [Nat.add_zero] at hst
    have hs := h.upto rfl hk
    obtain ⟨r1, r2⟩ := hs.sets (v := .slice (some ⟨g, off, none⟩) k cap) rfl (o := off + k * size) (m := k) (vs := (Builtin.zeroCells z.cells (m + 1)).toList) (ys := xs.take (k * size)) (by omega) (by rw [hzl]; omega) (by omega) hs.1 (fun j hj => by rw [if_neg (by omega)]) (fun j hj q => by omega)
    refine ⟨_, ?_, r1, ⟨r2.os, r2.tape, r2.output, r2.size, fun b hb hn => r2.block b hb (fun e => hn (by cases e; rfl))⟩⟩
    rw [hm]
    simp [Builtin.clear_, run_underlying ht, zeroValue, typeInfo, hi0, hz0, hst]
  · obtain rfl : k = n := by omega
    refine ⟨w, ?_, by rw [List.take_of_length_le (by rw [h.1]; exact Nat.le_refl _)]; exact h, Fr.refl _ _⟩
    rw [Nat.sub_self]
    simp [Builtin.clear_, run_underlying ht]
end
theorem wpList_appRun {P : Program} {w w' : World} {ops : Array Oper} {rest : List Oper} {o : Oper} {a : Act} {Q : Exit → Act → World → Prop} {v u v' : Value} {t : TypeId}
    (hg : o.guard = none) (s x : Operand) (hop : o.op = Op.call { callee := Callee.builtin Builtin.append, args := #[s, x], argTypes := #[t, t] }) (hs : a.eval s = v) (hx : a.eval x = u)
    (hrun : (Builtin.append_ #[t, t] o.type #[v, u]).run P w = .ok v' w') (hK : wpList P ops Q rest (a.put o.dst v') w') : wpList P ops Q (o :: rest) a w := by
  refine wpList_plain hg fun K hK' => ?_
  unfold Oper.wp
  simp [execOp, hop, resolve, invoke, builtin, hs, hx, hrun, Result.andThen]
  exact hK' _ _ hK
/-- The same behind a guard. -/
theorem wpList_appRunG {P : Program} {w w' : World} {ops : Array Oper} {rest : List Oper} {o : Oper} {a : Act} {Q : Exit → Act → World → Prop} {v u v' : Value} {t : TypeId}
    (hg : Region.wanted o (yielded ops a.tmps) = true) (s x : Operand) (hop : o.op = Op.call { callee := Callee.builtin Builtin.append, args := #[s, x], argTypes := #[t, t] }) (hs : a.eval s = v) (hx : a.eval x = u)
    (hrun : (Builtin.append_ #[t, t] o.type #[v, u]).run P w = .ok v' w') (hK : wpList P ops Q rest (a.put o.dst v') w') : wpList P ops Q (o :: rest) a w := by
  refine wpList_step fun K hK' => ?_
  rw [if_pos hg]
  unfold Oper.wp
  simp [execOp, hop, resolve, invoke, builtin, hs, hx, hrun, Result.andThen]
  exact hK' _ _ hK
theorem step_appRun {P : Program} {w w' : World} {ops : Array Oper} {o : Oper} {a : Act} {K : Act → World → Prop} {Q : Exit → Act → World → Prop} {E : Prop} {t : TypeId} (hgd : o.guard = none) (s x : Operand)
    (ho : o.op = .call { callee := .builtin .append, args := #[s, x], argTypes := #[t, t] }) (v u v' : Value) (hs : a.eval s = v) (hx : a.eval x = u)
    (hrun : (Builtin.append_ #[t, t] o.type #[v, u]).run P w = .ok v' w') (h : K (a.put o.dst v') w') :
    if Region.wanted o (yielded ops a.tmps) = true then Oper.wp P o a w K Q else E := by
  rw [if_pos (by simp [Region.wanted, hgd])]
  unfold Oper.wp
  simp [execOp, ho, resolve, invoke, builtin, hs, hx, hrun, Result.andThen]
  exact h
end Go.Proofs.Ytfoanikkngmeiaa
