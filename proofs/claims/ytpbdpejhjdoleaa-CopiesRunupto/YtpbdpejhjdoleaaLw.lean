/-
  The map and the last writes of a list.
-/
import Derived.Test.YtpbdpejhjdoleaaPu
namespace Go.Proofs.Ytpbdpejhjdoleaa
open Classical
set_option linter.unusedVariables false
set_option linter.unusedSimpArgs false
/-- An instruction writes a register. -/
def wrP (x : RIn) (r : Int) : Prop := x.dst ≠ -1 ∧ x.dst = r
/-- What the map tells of a register, by the first k instructions. -/
def LwR (out : List RIn) (g : Op → Wr) (k : Nat) (r : Int) : Prop :=
  (∃ (i : Nat) (y : RIn), i < k ∧ out[i]? = some y ∧ wrP y r ∧ (∀ (j : Nat) (z : RIn), i < j → j < k → out[j]? = some z → ¬ wrP z r) ∧ g (rgO r) = ⟨(i : Int), (mvd y).isSome, mvO (mvd y)⟩) ∨
  ((∀ (j : Nat) (z : RIn), j < k → out[j]? = some z → ¬ wrP z r) ∧ g (rgO r) = wr0)
theorem rgO_inj {a b : Int} (h : rgO a = rgO b) : a = b := congrArg Op.n h
theorem Fx.lw {out : List RIn} {f : Op → Wr} (F : Fx out f) : ∀ (k : Nat), k ≤ out.length → ∃ g, trn (out.take k) = (g, out.take k) ∧ (∀ r, LwR out g k r) ∧ ∀ s, s.k ≠ 0 → g s = wr0
  | 0, _ => ⟨f0, by simp [trn], fun r => .inr ⟨fun j z hj => by omega, rfl⟩, fun s _ => rfl⟩
  | k + 1, hk => by
    obtain ⟨g, a1, a2, a3⟩ := F.lw k (by omega)
    obtain ⟨y, hy⟩ : ∃ y, out[k]? = some y := ⟨_, List.getElem?_eq_getElem (by omega)⟩
    obtain ⟨g2, b1, b2, b3, b4⟩ := F.e k y hy
    rw [a1] at b1
    cases b1
    have e := trn_at out hy
    rw [a1] at e
    have hs : mvd (inF g y) ≠ some (rgO y.dst) := by rw [b3]; exact b4
    by_cases hd : y.dst = -1
    · rw [stp_none (s := (g, _)) hs hd] at e
      dsimp only at e
      rw [b3] at e
      refine ⟨g, by rw [e, take_push hy], fun r => ?_, a3⟩
      have hno : ∀ z, out[k]? = some z → ¬ wrP z r := fun z hz q => by rw [hy] at hz; cases hz; exact q.1 hd
      rcases a2 r with ⟨i, x, h1, h2, h3, h4, h5⟩ | ⟨h1, h2⟩
      · refine .inl ⟨i, x, by omega, h2, h3, fun j z hj hjk hz => ?_, h5⟩
        by_cases q : j < k
        · exact h4 j z hj q hz
        · obtain rfl : j = k := by omega
          exact hno z hz
      · refine .inr ⟨fun j z hj hz => ?_, h2⟩
        by_cases q : j < k
        · exact h1 j z q hz
        · obtain rfl : j = k := by omega
          exact hno z hz
    · rw [stp_some (s := (g, _)) hs hd] at e
      dsimp only at e
      rw [b3] at e
      have hlen : (out.take k).length = k := by rw [List.length_take]; omega
      refine ⟨updW g (rgO y.dst) ⟨((out.take k).length : Int), (mvd y).isSome, mvO (mvd y)⟩, by rw [e, take_push hy], fun r => ?_, fun s hs' => ?_⟩
      · by_cases hr : y.dst = r
        · refine .inl ⟨k, y, by omega, hy, ⟨hd, hr⟩, fun j z h1 h2 => by omega, ?_⟩
          unfold updW
          rw [if_pos (by rw [hr]), hlen]
        · have hno : ∀ z, out[k]? = some z → ¬ wrP z r := fun z hz q => by rw [hy] at hz; cases hz; exact hr q.2
          have e2 : updW g (rgO y.dst) ⟨((out.take k).length : Int), (mvd y).isSome, mvO (mvd y)⟩ (rgO r) = g (rgO r) := by unfold updW; rw [if_neg (fun q => hr (rgO_inj q).symm)]
          unfold LwR
          rw [e2]
          rcases a2 r with ⟨i, x, h1, h2, h3, h4, h5⟩ | ⟨h1, h2⟩
          · refine .inl ⟨i, x, by omega, h2, h3, fun j z hj hjk hz => ?_, h5⟩
            by_cases q : j < k
            · exact h4 j z hj q hz
            · obtain rfl : j = k := by omega
              exact hno z hz
          · refine .inr ⟨fun j z hj hz => ?_, h2⟩
            by_cases q : j < k
            · exact h1 j z q hz
            · obtain rfl : j = k := by omega
              exact hno z hz
      · unfold updW
        rw [if_neg (fun q => hs' (by rw [q]; rfl))]
        exact a3 s hs'
/-- What a register is known as. -/
noncomputable def knF (f : Op → Wr) (r : Int) : Option Op :=
  if (f (rgO r)).m = false then none else if (f (rgO r)).a < (f (f (rgO r)).o).a then none else some (f (rgO r)).o
/-- A list and its map. -/
structure Lw (out : List RIn) (f : Op → Wr) : Prop where
  r : ∀ r, LwR out f out.length r
  z : ∀ s, s.k ≠ 0 → f s = wr0
theorem Fx.lw_all {out : List RIn} {f : Op → Wr} (F : Fx out f) : Lw out f := by
  obtain ⟨g, a1, a2, a3⟩ := F.lw out.length (Nat.le_refl _)
  rw [List.take_length, F.t] at a1
  cases a1
  exact ⟨a2, a3⟩
theorem trn_lw (l : List RIn) (k : Nat) (h : k ≤ l.length) : Lw (trn (l.take k)).2 (trn (l.take k)).1 := (trn_fx k l h).lw_all
theorem Lw.src {out : List RIn} {f : Op → Wr} (h : Lw out f) (o : Op) : srcF f o = if o.k = 0 then (knF f o.n).getD o else o := by
  by_cases ho : o.k = 0
  · rw [if_pos ho]
    have e : rgO o.n = o := by cases o; simp only at ho; subst ho; rfl
    unfold srcF knF
    rw [e]
    split
    · rfl
    · split <;> rfl
  · rw [if_neg ho]
    unfold srcF
    rw [h.z o ho]
    rfl
/-- The last write of a register does not move. -/
theorem Lw.none_nm {out : List RIn} {f : Op → Wr} (h : Lw out f) {r : Int} {i : Nat} {y : RIn} (hy : out[i]? = some y) (hw : wrP y r) (hl : ∀ (j : Nat) (z : RIn), i < j → out[j]? = some z → ¬ wrP z r) : f (rgO r) = ⟨(i : Int), (mvd y).isSome, mvO (mvd y)⟩ := by
  have hi := (List.getElem?_eq_some_iff.1 hy).1
  rcases h.r r with ⟨i', y', h1, h2, h3, h4, h5⟩ | ⟨h1, h2⟩
  · have e : i' = i := by
      rcases Nat.lt_trichotomy i' i with q | q | q
      · exact absurd hw (h4 i y q hi hy)
      · exact q
      · exact absurd h3 (hl i' y' q h2)
    subst e
    rw [hy] at h2
    cases h2
    exact h5
  · exact absurd hw (h1 i y hi hy)
theorem knF_eq {f : Op → Wr} {r : Int} {x : Wr} (h : f (rgO r) = x) : knF f r = if x.m = false then none else if x.a < (f x.o).a then none else some x.o := by
  subst h
  rfl
theorem knF_mv {f : Op → Wr} {r : Int} {a : Int} {o : Op} (h : f (rgO r) = ⟨a, true, o⟩) : (a < (f o).a → knF f r = none) ∧ (¬ a < (f o).a → knF f r = some o) := by
  have e := knF_eq h
  exact ⟨fun q => e.trans ((if_neg (by simp)).trans (if_pos q)), fun q => e.trans ((if_neg (by simp)).trans (if_neg q))⟩
theorem Lw.kn_no {out : List RIn} {f : Op → Wr} (h : Lw out f) {r : Int} (hl : ∀ (j : Nat) (z : RIn), out[j]? = some z → ¬ wrP z r) : knF f r = none := by
  rcases h.r r with ⟨i', y', h1, h2, h3, h4, h5⟩ | ⟨h1, h2⟩
  · exact absurd h3 (hl i' y' h2)
  · unfold knF; rw [h2]; rfl
theorem Lw.kn_nm {out : List RIn} {f : Op → Wr} (h : Lw out f) {r : Int} {i : Nat} {y : RIn} (hy : out[i]? = some y) (hw : wrP y r) (hl : ∀ (j : Nat) (z : RIn), i < j → out[j]? = some z → ¬ wrP z r) (hm : mvd y = none) : knF f r = none := by
  unfold knF
  rw [h.none_nm hy hw hl, hm]
  rfl
theorem Lw.mv {out : List RIn} {f : Op → Wr} (h : Lw out f) {r : Int} {i : Nat} {y : RIn} {o : Op} (hy : out[i]? = some y) (hw : wrP y r) (hl : ∀ (j : Nat) (z : RIn), i < j → out[j]? = some z → ¬ wrP z r) (hm : mvd y = some o) : f (rgO r) = ⟨(i : Int), true, o⟩ := by
  have := h.none_nm hy hw hl
  rw [hm] at this
  exact this
theorem Lw.kn_val {out : List RIn} {f : Op → Wr} (h : Lw out f) {r : Int} {i : Nat} {y : RIn} {o : Op} (hy : out[i]? = some y) (hw : wrP y r) (hl : ∀ (j : Nat) (z : RIn), i < j → out[j]? = some z → ¬ wrP z r) (hm : mvd y = some o) (ho : o.k ≠ 0) : knF f r = some o :=
  (knF_mv (h.mv hy hw hl hm)).2 (by rw [h.z o ho]; show ¬ (i : Int) < 0; omega)
theorem Lw.kn_w {out : List RIn} {f : Op → Wr} (h : Lw out f) {r : Int} {i : Nat} {y : RIn} {o : Op} (hy : out[i]? = some y) (hw : wrP y r) (hl : ∀ (j : Nat) (z : RIn), i < j → out[j]? = some z → ¬ wrP z r) (hm : mvd y = some o) (ho : o.k = 0) {j : Nat} {z : RIn} (hj : i < j) (hz : out[j]? = some z) (hzw : wrP z o.n) : knF f r = none := by
  have e : rgO o.n = o := by cases o; simp only at ho; subst ho; rfl
  refine (knF_mv (h.mv hy hw hl hm)).1 ?_
  rcases h.r o.n with ⟨i', y', h1, h2, h3, h4, h5⟩ | ⟨h1, h2⟩
  · rw [e] at h5
    rw [h5]
    have : i < i' := by
      rcases Nat.lt_or_ge i i' with q | q
      · exact q
      · exact absurd hzw (h4 j z (by omega) (List.getElem?_eq_some_iff.1 hz).1 hz)
    show (i : Int) < (i' : Int)
    omega
  · exact absurd hzw (h1 j z (List.getElem?_eq_some_iff.1 hz).1 hz)
theorem Lw.kn_r {out : List RIn} {f : Op → Wr} (h : Lw out f) {r : Int} {i : Nat} {y : RIn} {o : Op} (hy : out[i]? = some y) (hw : wrP y r) (hl : ∀ (j : Nat) (z : RIn), i < j → out[j]? = some z → ¬ wrP z r) (hm : mvd y = some o) (ho : o.k = 0) (hn : ∀ (j : Nat) (z : RIn), i < j → out[j]? = some z → ¬ wrP z o.n) : knF f r = some o := by
  have e : rgO o.n = o := by cases o; simp only at ho; subst ho; rfl
  refine (knF_mv (h.mv hy hw hl hm)).2 ?_
  rcases h.r o.n with ⟨i', y', h1, h2, h3, h4, h5⟩ | ⟨h1, h2⟩
  · rw [e] at h5
    rw [h5]
    show ¬ (i : Int) < (i' : Int)
    intro q
    exact hn i' y' (by omega) h2 h3
  · rw [e] at h2
    rw [h2]
    show ¬ (i : Int) < 0
    omega
end Go.Proofs.Ytpbdpejhjdoleaa
