/-
  ProfileBook, the second form.
-/
import Derived.Test.YtjjfpokmpcpicaaPgIn
import Derived.Test.YtjjfpokmpcpicaaBkW
import Derived.JoinedCond
namespace Go.Proofs.Ytjjfpokmpcpicaa
open Go.RowKit
theorem bookIn {w : World} {u u2 v v2 x : Value} {sh sh2 : List Nat} {f g : List (List Sp)} {ns : List Nt} (ha : PgL w u sh ∧ sh.length ≤ 1048576 ∧ sh.sum ≤ 1048576) (ha2 : PgL w u2 sh2 ∧ sh2.length ≤ 1048576 ∧ sh2.sum ≤ 1048576) (hb : into.PfI w v f 1048576) (hb2 : into.PfI w v2 g 1048576) (hc : NtV w x ns ∧ ns.length ≤ 1048576 ∧ ∀ n ∈ ns, OkN n) : Calls Try.prog 3 #[u, u2, v, v2, x] w fun e w' => e = .returned (.bool true) ∧ Below w.heap.size w w' := by
  obtain ⟨av, rfl, h1, h2, h3⟩ := hb
  obtain ⟨bv, rfl, k1, k2, k3⟩ := hb2
  exact bookLaw ha.1 ha2.1 h1 k1 hc.1 (by omega) (fun l hl => by have := (h3 l hl).1; omega) (by omega) (fun l hl => by have := (k3 l hl).1; omega) (fun l hl => (h3 l hl).2) (fun l hl => (k3 l hl).2) (by omega) (by omega) (by omega) (by omega) (by omega) hc.2.2
end Go.Proofs.Ytjjfpokmpcpicaa
namespace Go.Proofs.Ytjjfpokmpcpicaa.profileBook
open Go.ChangeShapes Go.WideShapes Go.ChangeAt Go.RowKit Go.Joins
set_option linter.unusedVariables false

set_option maxRecDepth 100000 in
theorem lifted (os : Os) (started : os.Started) (H : Type) (enc : TypeId × Value → H) (F : Stop.Interp) :
    ReturnsInHanded {} Try.checked os 3 .any ((Rows.OpenSpec.upto Rows.profileBookSpec).pre6 enc Try.prog Try.f3 Rows.profileBookUptoRow.domain false) (((Rows.OpenSpec.upto Rows.profileBookSpec).at F).post enc Try.prog Try.f3 false true false false) := by
  refine returnsInHanded_of_cond (C := Try.checked) (s := Rows.OpenSpec.upto Rows.profileBookSpec) (k := Rows.uptoSmall) rfl into.own started (by kernel_rfl) Try.func3
    (OpenSpec.witness (enc := enc) (C := Try.checked) (s := Rows.OpenSpec.upto Rows.profileBookSpec) (k := Rows.uptoSmall) rfl false ⟨#[], #[.agg #[.slice none 0 0, .slice none 0 0], .agg #[.slice none 0 0, .slice none 0 0], .agg #[.slice none 0 0], .agg #[.slice none 0 0], .slice none 0 0], []⟩ 8 (by kernel_rfl) (by kernel_rfl) (by kernel_rfl)
      (x := ([.agg [.nil, .nil], .agg [.nil, .nil], .agg [.nil], .agg [.nil], .nil], [], [])) (by kernel_rfl) rfl (by kernel_rfl)) ?_
  intro W base args ds gs before hval0 hW _ hk _
  have hval : ∀ (j : Nat) t v, Try.f3.params[j]? = some t → args[j]? = some v → Value.okWide Try.prog W .any base t v := hval0
  have hW' := hW
  obtain ⟨p, q, hA0, hV, rfl, hfz, hnd⟩ := hW
  have hA : DataW.TrodAll enc Try.prog W 0 (fun _ => true) true Try.f3.params.toList args.toList ds p := hA0
  rw [Try.params3] at hA hval
  obtain ⟨v0, vs0, d0, ds0, p0, q0, hargs, rfl, rfl, h0, r0⟩ := trodAll_cons hA
  obtain ⟨v1, vs1, d1, ds1, p1, q1, rfl, rfl, rfl, h1, r1⟩ := trodAll_cons r0
  obtain ⟨v2, vs2, d2, ds2, p2, q2, rfl, rfl, rfl, h2, r2⟩ := trodAll_cons r1
  obtain ⟨v3, vs3, d3, ds3, p3, q3, rfl, rfl, rfl, h3, r3⟩ := trodAll_cons r2
  obtain ⟨v4, vs4, d4, ds4, p4, q4, rfl, rfl, rfl, h4, r4⟩ := trodAll_cons r3
  obtain ⟨rfl, rfl, rfl⟩ := trodAll_nil r4
  obtain rfl : args = #[v0, v1, v2, v3, v4] := by cases args; simp_all
  obtain ⟨rfl, rfl⟩ := trodVars_none hV
  have hall : Rows.uptoBulkAll ([d0, d1, d2, d3, d4] ++ []) ≤ 1048576 := of_decide_eq_true hk
  simp only [List.append_nil] at hall
  have hbk : ∀ d ∈ [d0, d1, d2, d3, d4], Rows.uptoBulk d ≤ 1048576 := fun d hd => Nat.le_trans (into.bulk_part hd) hall
  have k0 := h0
  have lt0 : ∀ x ∈ p0, x.block < W.heap.size := by obtain ⟨m, hm⟩ := k0; exact DataW.trod_lt m _ _ _ hm
  obtain ⟨x0, hx0⟩ := into.inPg (hval 0 25 v0 rfl rfl) h0 (hbk d0 (by simp))
  have k1 := h1
  have lt1 : ∀ x ∈ p1, x.block < W.heap.size := by obtain ⟨m, hm⟩ := k1; exact DataW.trod_lt m _ _ _ hm
  obtain ⟨x1, hx1⟩ := into.inPg (hval 1 25 v1 rfl rfl) h1 (hbk d1 (by simp))
  have k2 := h2
  have lt2 : ∀ x ∈ p2, x.block < W.heap.size := by obtain ⟨m, hm⟩ := k2; exact DataW.trod_lt m _ _ _ hm
  obtain ⟨x2, hx2⟩ := into.inPfU (hval 2 28 v2 rfl rfl) h2 (hbk d2 (by simp))
  have k3 := h3
  have lt3 : ∀ x ∈ p3, x.block < W.heap.size := by obtain ⟨m, hm⟩ := k3; exact DataW.trod_lt m _ _ _ hm
  obtain ⟨x3, hx3⟩ := into.inPfU (hval 3 28 v3 rfl rfl) h3 (hbk d3 (by simp))
  have k4 := h4
  have lt4 : ∀ x ∈ p4, x.block < W.heap.size := by obtain ⟨m, hm⟩ := k4; exact DataW.trod_lt m _ _ _ hm
  obtain ⟨x4, hx4⟩ := into.inNt (hval 4 29 v4 rfl rfl) h4 (hbk d4 (by simp))
  clear hA0 hval0
  simp only [List.append_nil] at hW'
  refine (bookIn hx0 hx1 hx2 hx3 hx4).mono fun e W' ⟨he, bel⟩ => ?_
  subst he
  exact ⟨_, rfl, _, _, _, [], _, [], hW', trodAll_mk1 (shut_bool Try.underlying4 _), (trodAll_cons_mk (Below.trod into.laidOut (by kernel_rfl) (of_decide_eq_true (by kernel_rfl)) k0 bel lt0) (trodAll_cons_mk (Below.trod into.laidOut (by kernel_rfl) (of_decide_eq_true (by kernel_rfl)) k1 bel lt1) (trodAll_cons_mk (Below.trod into.laidOut (by kernel_rfl) (of_decide_eq_true (by kernel_rfl)) k2 bel lt2) (trodAll_cons_mk (Below.trod into.laidOut (by kernel_rfl) (of_decide_eq_true (by kernel_rfl)) k3 bel lt3) (trodAll_cons_mk (Below.trod into.laidOut (by kernel_rfl) (of_decide_eq_true (by kernel_rfl)) k4 bel lt4) trodAll_mk0))))), rfl, bel.frame _, fun h => by cases h⟩

theorem over : Rows.profileBookUptoRow.holds Try.pinned (Rows.OpenSpec.upto Rows.profileBookSpec) :=
  OpenClaim.holds_of_cond 3 Try.f3 rfl rfl rfl rfl rfl rfl rfl ⟨rfl, rfl, rfl, rfl, rfl⟩ rfl rfl rfl rfl rfl (by kernel_rfl) Try.func3 (by kernel_rfl)
    (of_decide_eq_true (by kernel_rfl)) (by unfold Func.isWrapper; first | (rw [if_pos (by decide +kernel)]; kernel_rfl) | (rw [if_neg (by decide +kernel)]; exact ⟨rfl, rfl⟩))
    (fun os started H enc _ F => lifted os started H enc F)

theorem proved : Rows.ProfileBookUptoSaid := over
#print axioms proved
end Go.Proofs.Ytjjfpokmpcpicaa.profileBook
