/-
  Register code that came in: the sum of its lists is bounded.
-/
import Derived.Test.YtiamoinhmkhaoaaCIn
import Derived.Test.YtiamoinhmkhaoaaRgC
namespace Go.Proofs.Ytiamoinhmkhaoaa.into
open Go.ChangeShapes Go.WideShapes Go.ChangeAt Go.RowKit Go.Joins
set_option linter.unusedVariables false
section
variable {H : Type} {enc : TypeId × Value → H} {W : World}
/-- A sum over a list, by its bulk. -/
theorem sum_bulk {U : Type} (f : U → Nat) : ∀ (us : List U) (ds : List (DataW H)), us.length = ds.length → (∀ (i : Nat) (u : U), us[i]? = some u → ∃ d, ds[i]? = some d ∧ f u ≤ Rows.uptoBulk d) → (us.map f).sum ≤ Rows.uptoBulkAll ds
  | [], _, _, _ => by simp
  | u :: r, [], h, _ => by simp at h
  | u :: r, d :: q, h, k => by
    obtain ⟨d', hd, hk⟩ := k 0 u rfl
    simp at hd
    subst hd
    have := sum_bulk f r q (by simpa using h) (fun i x hx => by
      obtain ⟨e, he, h2⟩ := k (i + 1) x (by simpa using hx)
      exact ⟨e, by simpa using he, h2⟩)
    rw [Rows.uptoBulkAll]
    simp only [List.map_cons, List.sum_cons] at this ⊢
    omega
theorem bulk_all {ds rs : List (DataW H)} {y : DataW H} (h : y = .slice ds rs ∨ (ds = [] ∧ y = .nil)) : Rows.uptoBulkAll ds ≤ Rows.uptoBulk y := by
  rcases h with rfl | ⟨rfl, rfl⟩
  · rw [Rows.uptoBulk]; omega
  · rw [Rows.uptoBulkAll]; exact Nat.zero_le _
def KBk2 (b : Bk) (n : Nat) : Prop := KBk b n ∧ inW b.ins ≤ n
set_option maxRecDepth 100000 in
theorem blk_cells2 (n : Nat) (cs : List Value) (y : DataW H × List MemPlace) (hl : cs.length = 3) (h : DataW.trod enc Try.prog W 0 (fun _ => true) true n 39 cs = some y) : ∃ r : BkR, cs = enBk r ∧ ∃ b : Bk, BkP (fun k => k < W.heap.size) W b r ∧ KBk2 b (Rows.uptoBulk y.1) := by
  obtain ⟨xs, m, _, hd, _, hxl, hfs⟩ := DataW.trod_struct Try.underlying39 h
  have hd1 : y.1 = _ := congrArg Prod.fst hd
  match xs, hxl, cs, hl with
  | [y0, y1, y2], _, [c0, c1, c2], _ =>
    have g0 := hfs 0 _ rfl
    have g1 := hfs 1 _ rfl
    have g2 := hfs 2 _ rfl
    simp [cells3, cells22, cells23] at g0 g1 g2
    obtain ⟨k0, e0, _, _⟩ := DataW.trod_int Try.underlying3 g0
    obtain ⟨ins, ds, rs, q1, q2, q3, q4⟩ := list_cell zIn (by omega) ⟨0, 0, 0, .slice none 0 0, 0, 0, 0, .slice none 0 0⟩ Try.underlying36 cells45 InP KIn ins_cells g1
    obtain ⟨nx, h1, h2⟩ := nums_cell g2
    simp at e0
    subst e0
    have q5 := list_all (K := KIn) (fun u m n hmn hk => ⟨⟨Nat.le_trans hk.1.1 hmn, Nat.le_trans hk.1.2.1 hmn, fun s hs => Nat.le_trans (hk.1.2.2 s hs) hmn⟩, hk.2⟩) q3 q4
    have q6 := less_of q3 q2
    have q7 := sum_bulk (fun x : RIn => 1 + x.ex.length) ins ds q2 (fun i u hu => by
      obtain ⟨d, hd, hk⟩ := q4 i u hu
      exact ⟨d, hd, hk.1.2.1⟩)
    have q8 := bulk_all q3
    have b1 := bulk_part (by simp : y1.1 ∈ [y0, y1, y2].map (·.1))
    have b2 := bulk_part (by simp : y2.1 ∈ [y0, y1, y2].map (·.1))
    have hbk : Rows.uptoBulk y.1 = Rows.uptoBulkAll ([y0, y1, y2].map (·.1)) + 1 := by rw [hd1, Rows.uptoBulk]
    refine ⟨⟨k0, c1, c2⟩, rfl, ⟨k0, ins, nx⟩, ⟨rfl, q1, h1⟩, ⟨⟨?_, ?_, fun x hx => ?_⟩, fun x hx => (q5 x hx).2⟩, ?_⟩
    · show ins.length ≤ _
      omega
    · show nx.length ≤ _
      omega
    · obtain ⟨⟨r1, r2, r3⟩, _⟩ := q5 x hx
      exact ⟨by omega, by omega, fun s hs => by have := r3 s hs; omega⟩
    · have q9 : inW ins ≤ Rows.uptoBulkAll ds := q7
      show inW ins ≤ _
      omega
/-- A code that came in. -/
def CoI2 (W : World) (v : Value) : Prop :=
  ∃ (fn regs : Int) (bl : List Bk) (bv : Value), v = .agg #[.int .i64 fn, .int .i64 regs, bv] ∧ BksV (fun k => k < W.heap.size) W bl bv ∧ bl.length ≤ 1048576 ∧ (∀ b ∈ bl, OkB b) ∧ bkW bl ≤ 1048576
set_option maxRecDepth 100000 in
theorem inC2 {base : Nat} {v : Value} {d : DataW H} {p : List MemPlace} (hv : Value.okWide Try.prog W .any base 24 v) (h : DataW.Trod enc Try.prog W 0 (fun _ => true) true 24 v d p) (hb : Rows.uptoBulk d ≤ 1048576) : CoI2 W v := by
  obtain ⟨fuel, hf⟩ := h
  obtain ⟨cs, rfl, hcs⟩ := okWide_struct Try.underlying24 hv
  rw [cellsC] at hcs
  obtain ⟨cl⟩ := cs
  simp only [Value.cells] at hf
  obtain ⟨xs, m, _, hd, _, hxl, hfs⟩ := DataW.trod_struct Try.underlying24 hf
  have hd1 := ((Prod.mk.injEq _ _ _ _).mp hd).1
  match xs, hxl, cl, hcs with
  | [y0, y1, y2], _, [c0, c1, c2], _ =>
    have g0 := hfs 0 _ rfl
    have g1 := hfs 1 _ rfl
    have g2 := hfs 2 _ rfl
    simp [cells3, cellsB] at g0 g1 g2
    obtain ⟨k0, e0, _, _⟩ := DataW.trod_int Try.underlying3 g0
    obtain ⟨k1, e1, _, _⟩ := DataW.trod_int Try.underlying3 g1
    obtain ⟨bl, ds, rs, q1, q2, q3, q4⟩ := list_cell zBk (by omega) ⟨0, .slice none 0 0, .slice none 0 0⟩ Try.underlying22 cells25 BkP KBk2 blk_cells2 g2
    simp at e0 e1
    subst e0 e1
    have q5 := list_all (K := KBk) (fun u m n hmn hk => ⟨⟨Nat.le_trans hk.1.1 hmn, Nat.le_trans hk.1.2.1 hmn, fun x hx => ⟨Nat.le_trans (hk.1.2.2 x hx).1 hmn, Nat.le_trans (hk.1.2.2 x hx).2.1 hmn, fun s hs => Nat.le_trans ((hk.1.2.2 x hx).2.2 s hs) hmn⟩⟩, hk.2⟩) q3 (fun i u hu => by
      obtain ⟨d, hd, hk⟩ := q4 i u hu
      exact ⟨d, hd, hk.1⟩)
    have q6 := less_of q3 q2
    have q7 := sum_bulk (fun b : Bk => inW b.ins) bl ds q2 (fun i u hu => by
      obtain ⟨d, hd, hk⟩ := q4 i u hu
      exact ⟨d, hd, hk.2⟩)
    have q8 := bulk_all q3
    have b2 := bulk_part (by simp : y2.1 ∈ [y0, y1, y2].map (·.1))
    rw [hd1, Rows.uptoBulk] at hb
    have q9 : bkW bl ≤ Rows.uptoBulkAll ds := q7
    refine ⟨k0, k1, bl, c2, rfl, q1, by omega, fun b hb' => ?_, by omega⟩
    obtain ⟨⟨r1, r2, r3⟩, r4⟩ := q5 b hb'
    exact ⟨r4, by omega, by omega, fun x hx => ⟨by have := (r3 x hx).1; omega, by have := (r3 x hx).2.1; omega, fun s hs => by have := (r3 x hx).2.2 s hs; omega⟩⟩
end
end Go.Proofs.Ytiamoinhmkhaoaa.into
